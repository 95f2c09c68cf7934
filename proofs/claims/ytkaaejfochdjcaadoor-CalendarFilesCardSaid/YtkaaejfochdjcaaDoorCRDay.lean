/-
  The reference's months, Exists, Start, Day, Date.
-/
import Derived.Test.YtkaaejfochdjcaaDoorCDate
namespace Go.Proofs.YtkaaejfochdjcaaDoor
open Go.RowKit
open Cal
set_option linter.unusedVariables false
set_option linter.unusedSimpArgs false

theorem ml_30 (y : Int) {m : Int} (h : m = 4 ∨ m = 6 ∨ m = 9 ∨ m = 11) : ml y m = 30 := by
  unfold ml
  rw [if_neg (by omega), if_pos h]
theorem ml_31 (y : Int) {m : Int} (h2 : m ≠ 2) (h : ¬ (m = 4 ∨ m = 6 ∨ m = 9 ∨ m = 11)) : ml y m = 31 := by
  unfold ml
  rw [if_neg h2, if_neg h]
theorem ml_29 {y : Int} (h : lpB y = true) : ml y 2 = 29 := ml_feb (lpB_true h)
theorem ml_28 {y : Int} (h : lpB y = false) : ml y 2 = 28 := by unfold ml; rw [if_pos rfl, lpB_false h]; rfl
set_option maxHeartbeats 1000000 in
theorem rlen_feb (y : Int) (h1 : 1 ≤ y) (h2 : y ≤ 2801) (w : World) : Calls Tryd.prog 41 #[.int .i64 y, .int .i64 2] w fun e w' => e = .returned (.int .i64 (ml y 2)) ∧ w = w' := by
  by_cases h400 : y % 400 = 0
  · have hb400 : (y % 400 == 0) = true := beq_iff_eq.2 h400
    have HE := Lib.hid (ml_29 (lpB_mk2 h400).symm)
    go_enter Tryd.func41, Tryd.ntmps41
    go_wp2
    go_ret
    exact ⟨ret_int HE.out.symm, rfl⟩
  · have hb400 : (y % 400 == 0) = false := beq_eq_false_iff_ne.2 h400
    by_cases h4 : y % 4 = 0
    · have hb4 : (y % 4 == 0) = true := beq_iff_eq.2 h4
      by_cases h100 : y % 100 = 0
      · have hb100 : (y % 100 != 0) = false := by rw [h100]; rfl
        have HE := Lib.hid (ml_28 (lpB_no (.inr h100) h400).symm)
        go_enter Tryd.func41, Tryd.ntmps41
        go_wp2
        go_ret
        exact ⟨ret_int HE.out.symm, rfl⟩
      · have hb100 : (y % 100 != 0) = true := bne_iff_ne.2 h100
        have HE := Lib.hid (ml_29 (lpB_mk h4 h100).symm)
        go_enter Tryd.func41, Tryd.ntmps41
        go_wp2
        go_ret
        exact ⟨ret_int HE.out.symm, rfl⟩
    · have hb4 : (y % 4 == 0) = false := beq_eq_false_iff_ne.2 h4
      have HE := Lib.hid (ml_28 (lpB_no (.inl h4) h400).symm)
      go_enter Tryd.func41, Tryd.ntmps41
      go_wp2
      go_ret
      exact ⟨ret_int HE.out.symm, rfl⟩
set_option maxHeartbeats 1000000 in
theorem rlen_any (y m : Int) (h1 : 1 ≤ y) (h2 : y ≤ 2801) (w : World) : Calls Tryd.prog 41 #[.int .i64 y, .int .i64 m] w fun e w' => e = .returned (.int .i64 (ml y m)) ∧ w = w' := by
  by_cases hm : m = 2
  · subst hm; exact rlen_feb y h1 h2 w
  · have hb2 : (m != 2) = true := bne_iff_ne.2 hm
    by_cases h4 : m = 4
    · have HE := Lib.hid (ml_30 y (.inl h4))
      go_enter Tryd.func41, Tryd.ntmps41
      go_wp2
      go_ret
      exact ⟨ret_int (by subst h4; exact HE.out.symm), rfl⟩
    · have hb4 : (m == 4) = false := beq_eq_false_iff_ne.2 h4
      by_cases h6 : m = 6
      · have HE := Lib.hid (ml_30 y (.inr (.inl h6)))
        go_enter Tryd.func41, Tryd.ntmps41
        go_wp2
        go_ret
        exact ⟨ret_int (by subst h6; exact HE.out.symm), rfl⟩
      · have hb6 : (m == 6) = false := beq_eq_false_iff_ne.2 h6
        by_cases h9 : m = 9
        · have HE := Lib.hid (ml_30 y (.inr (.inr (.inl h9))))
          go_enter Tryd.func41, Tryd.ntmps41
          go_wp2
          go_ret
          exact ⟨ret_int (by subst h9; exact HE.out.symm), rfl⟩
        · have hb9 : (m == 9) = false := beq_eq_false_iff_ne.2 h9
          by_cases h11 : m = 11
          · have HE := Lib.hid (ml_30 y (.inr (.inr (.inr h11))))
            go_enter Tryd.func41, Tryd.ntmps41
            go_wp2
            go_ret
            exact ⟨ret_int (by subst h11; exact HE.out.symm), rfl⟩
          · have hb11 : (m == 11) = false := beq_eq_false_iff_ne.2 h11
            have HE := Lib.hid (ml_31 y hm (by omega))
            go_enter Tryd.func41, Tryd.ntmps41
            go_wp2
            go_ret
            exact ⟨ret_int HE.out.symm, rfl⟩
theorem exB_no {y m d : Int} (h : ¬ Ex y m d) : exB y m d = false := by unfold exB; exact decide_eq_false h
theorem exB_yes {y m d : Int} (h : Ex y m d) : exB y m d = true := by unfold exB; exact decide_eq_true h
set_option maxHeartbeats 1000000 in
theorem rex_any (y m d : Int) (w : World) : Calls Tryd.prog 39 #[.int .i64 y, .int .i64 m, .int .i64 d] w fun e w' => e = .returned (.bool (exB y m d)) ∧ w = w' := by
  by_cases hy1 : 1 ≤ y
  · by_cases hy2 : y ≤ 2800
    · by_cases h1 : 1 ≤ m
      · by_cases h2 : m ≤ 12
        · by_cases h3 : 1 ≤ d
          · have hbd := ml_bd y m
            by_cases h4 : d ≤ ml y m
            · have hb : decide (d ≤ ml y m) = true := decide_eq_true h4
              have HE := Lib.hid (exB_yes ⟨hy1, hy2, h1, h2, h3, h4⟩)
              go_enter Tryd.func39, Tryd.ntmps39
              go_wp2_with ((with_reducible refine (rlen_any y m hy1 (by omega) _).mono ?_); rintro e w' ⟨rfl, rfl⟩)
              go_ret
              exact ⟨ret_bool HE.out.symm, rfl⟩
            · have hb : decide (d ≤ ml y m) = false := decide_eq_false h4
              have HE := Lib.hid (exB_no (y := y) (m := m) (d := d) fun h => h4 h.2.2.2.2.2)
              go_enter Tryd.func39, Tryd.ntmps39
              go_wp2_with ((with_reducible refine (rlen_any y m hy1 (by omega) _).mono ?_); rintro e w' ⟨rfl, rfl⟩)
              go_ret
              exact ⟨ret_bool HE.out.symm, rfl⟩
          · have HE := Lib.hid (exB_no (y := y) (m := m) (d := d) fun h => h3 h.2.2.2.2.1)
            go_enter Tryd.func39, Tryd.ntmps39
            go_wp2
            go_ret
            exact ⟨ret_bool HE.out.symm, rfl⟩
        · have HE := Lib.hid (exB_no (y := y) (m := m) (d := d) fun h => h2 h.2.2.2.1)
          go_enter Tryd.func39, Tryd.ntmps39
          go_wp2
          go_ret
          exact ⟨ret_bool HE.out.symm, rfl⟩
      · have HE := Lib.hid (exB_no (y := y) (m := m) (d := d) fun h => h1 h.2.2.1)
        go_enter Tryd.func39, Tryd.ntmps39
        go_wp2
        go_ret
        exact ⟨ret_bool HE.out.symm, rfl⟩
    · have HE := Lib.hid (exB_no (y := y) (m := m) (d := d) fun h => hy2 h.2.1)
      go_enter Tryd.func39, Tryd.ntmps39
      go_wp2
      go_ret
      exact ⟨ret_bool HE.out.symm, rfl⟩
  · have HE := Lib.hid (exB_no (y := y) (m := m) (d := d) fun h => hy1 h.1)
    go_enter Tryd.func39, Tryd.ntmps39
    go_wp2
    go_ret
    exact ⟨ret_bool HE.out.symm, rfl⟩
theorem dby_feb (y : Int) : 1 + dby (y + 1) = 1 + dby y + 337 + ml y 2 := by
  have h1 := dby_succ y
  have h2 : ml y 2 = 28 + lp y := by unfold ml; rw [if_pos rfl]
  omega
set_option maxHeartbeats 800000 in
theorem rstart_any (Y : Int) (h1 : 1 ≤ Y) (h2 : Y ≤ 2801) (w : World) : Calls Tryd.prog 40 #[.int .i64 Y] w fun e w' => e = .returned (.int .i64 (1 + dby Y)) ∧ w = w' := by
  go_enter Tryd.func40, Tryd.ntmps40
  go_wp2
  go_loop [3, 4] (fun n i => ∃ y : Int, 1 ≤ y ∧ y ≤ Y ∧ i = .int .i64 y ∧ n = .int .i64 (1 + dby y)) (fun _ i => (Y - intOf i).toNat)
  case atStart => exact ⟨1, by omega, h1, rfl, by rw [dby_one]; go_num⟩
  case round =>
    obtain ⟨y, hy1, hy2, rfl, rfl⟩ := hrel
    have hb := dby_bd hy1 (by omega : y ≤ 2801)
    by_cases hlt : y < Y
    · have HS := Lib.hid (dby_feb y)
      have hml := ml_bd y 2
      go_wp2_with ((with_reducible refine (rlen_feb y hy1 (by omega) _).mono ?_); rintro e w' ⟨rfl, rfl⟩)
      go_round
      case rel => exact ⟨y + 1, by omega, by omega, by go_num, by rw [HS.out]⟩
      case measure => simp [intOf]; omega
    · obtain rfl : y = Y := by omega
      go_wp2
      go_ret
      exact ⟨rfl, rfl⟩
set_option maxHeartbeats 800000 in
theorem rday_no (y m d : Int) (h : ¬ Ex y m d) (w : World) : Calls Tryd.prog 13 #[.int .i64 y, .int .i64 m, .int .i64 d] w fun e w' => e = retE 0 5 ∧ w = w' := by
  have HX : Hid (∀ W, Calls Tryd.prog 39 #[.int .i64 y, .int .i64 m, .int .i64 d] W fun e w' => e = .returned (.bool false) ∧ W = w') := Lib.hid fun W => (rex_any y m d W).mono fun e w' ⟨h1, h2⟩ => ⟨by rw [h1, exB_no h], h2⟩
  clear h
  unfold retE
  go_enter Tryd.func13, Tryd.ntmps13
  go_wp2_with ((with_reducible refine (HX.out _).mono ?_); rintro e w' ⟨rfl, rfl⟩)
  go_ret2
  exact ⟨rfl, rfl⟩
theorem num_of' {y m d : Int} : 1 + dby y + cum y m + d - 1 = num y m d := by unfold num; omega
set_option maxHeartbeats 800000 in
theorem rday_yes (y m d : Int) (h : Ex y m d) (w : World) : Calls Tryd.prog 13 #[.int .i64 y, .int .i64 m, .int .i64 d] w fun e w' => e = retE (num y m d) 0 ∧ w = w' := by
  have HX : Hid (∀ W, Calls Tryd.prog 39 #[.int .i64 y, .int .i64 m, .int .i64 d] W fun e w' => e = .returned (.bool true) ∧ W = w') := Lib.hid fun W => (rex_any y m d W).mono fun e w' ⟨h1, h2⟩ => ⟨by rw [h1, exB_yes h], h2⟩
  obtain ⟨hy1, hy2, h1, h2, h3, h4⟩ := h
  have h5 := ml_bd y m
  have hb := dby_bd hy1 (by omega : y ≤ 2801)
  unfold retE
  go_enter Tryd.func13, Tryd.ntmps13
  go_wp2_with (first
    | ((with_reducible refine (HX.out _).mono ?_); rintro e w' ⟨rfl, rfl⟩)
    | ((with_reducible refine (rstart_any y hy1 (by omega) _).mono ?_); rintro e w' ⟨rfl, rfl⟩))
  go_loop [8, 9] (fun n i => ∃ k : Int, 1 ≤ k ∧ k ≤ m ∧ i = .int .i64 k ∧ n = .int .i64 (1 + dby y + cum y k)) (fun _ i => (m - intOf i).toNat)
  case atStart => exact ⟨1, by omega, h1, rfl, by rw [cum_one]; go_num⟩
  case round =>
    obtain ⟨k, hk1, hk2, rfl, rfl⟩ := hrel
    have hc := cum_bd y hk1 (by omega : k ≤ 12)
    have hml := ml_bd y k
    have HS := Lib.hid (cum_succ y hk1 (by omega : k ≤ 12))
    by_cases hlt : k < m
    · go_wp2_with ((with_reducible refine (rlen_any y k hy1 (by omega) _).mono ?_); rintro e w' ⟨rfl, rfl⟩)
      go_round
      case rel => exact ⟨k + 1, by omega, by omega, by go_num, by rw [HS.out]; go_num⟩
      case measure => simp [intOf]; omega
    · obtain rfl : k = m := by omega
      go_wp2
      go_ret2
      exact ⟨ret_e num_of', rfl⟩
set_option maxHeartbeats 400000 in
theorem rdate_no (n : Int) (h : ¬ (1 ≤ n ∧ n ≤ 1022679)) (w : World) : Calls Tryd.prog 15 #[.int .i64 n] w fun e w' => e = ret4 0 0 0 5 ∧ w = w' := by
  unfold ret4
  by_cases h1 : 1 ≤ n
  · have h2 : ¬ n ≤ 1022679 := fun h2 => h ⟨h1, h2⟩
    clear h
    go_enter Tryd.func15, Tryd.ntmps15
    go_wp2
    exact bodyPost_ret (v := .tuple #[.int .i64 0, .int .i64 0, .int .i64 0, .int .i64 5]) (by simp [results, Tryd.results15, go_sem]) rfl ⟨rfl, rfl⟩
  · clear h
    go_enter Tryd.func15, Tryd.ntmps15
    go_wp2
    exact bodyPost_ret (v := .tuple #[.int .i64 0, .int .i64 0, .int .i64 0, .int .i64 5]) (by simp [results, Tryd.results15, go_sem]) rfl ⟨rfl, rfl⟩
set_option maxHeartbeats 1000000 in
theorem rdate_yes (n : Int) (h1 : 1 ≤ n) (h2 : n ≤ 1022679) (w : World) : Calls Tryd.prog 15 #[.int .i64 n] w fun e w' => e = ret4 (yOf n) (mOf n) (dOf n) 0 ∧ w = w' := by
  unfold ret4
  go_enter Tryd.func15, Tryd.ntmps15
  go_wp2
  go_loop [6, 7] (fun t r => ∃ y : Int, 1 ≤ y ∧ dby y < n ∧ t = .int .i64 y ∧ r = .int .i64 (n - dby y)) (fun t _ => (2801 - intOf t).toNat)
  case atStart => exact ⟨1, by omega, by rw [dby_one]; omega, rfl, by rw [dby_one]; go_num⟩
  case round =>
    obtain ⟨y, hy1, hy3, rfl, rfl⟩ := hrel
    have hy2 := dby_up hy3 h2
    have hbd := dby_bd hy1 (by omega : y ≤ 2801)
    have hbd2 := dby_bd (y := y + 1) (by omega) (by omega)
    have hfeb := dby_feb y
    have hml2 := ml_bd y 2
    by_cases hc : dby (y + 1) < n
    · have hc' : 337 + ml y 2 < n - dby y := by omega
      have hnx : n - dby (y + 1) = n - dby y - 337 - ml y 2 := by omega
      have HNX := Lib.hid hnx
      clear hnx hfeb
      go_wp2_with ((with_reducible refine (rlen_feb y hy1 (by omega) _).mono ?_); rintro e w' ⟨rfl, rfl⟩)
      go_round
      case rel => exact ⟨y + 1, by omega, hc, by go_num, by rw [HNX.out]⟩
      case measure => simp [intOf]; omega
    · have hz : n ≤ dby (y + 1) := by omega
      have hc' : ¬ 337 + ml y 2 < n - dby y := by omega
      clear hfeb hc
      go_wp2_with ((with_reducible refine (rlen_feb y hy1 (by omega) _).mono ?_); rintro e w' ⟨rfl, rfl⟩)
      go_loop [7, 8] (fun r k => ∃ m : Int, 1 ≤ m ∧ m ≤ 12 ∧ k = .int .i64 m ∧ 1 ≤ n - dby y - cum y m ∧ r = .int .i64 (n - dby y - cum y m)) (fun _ k => (12 - intOf k).toNat)
      case atStart => exact ⟨1, by omega, by omega, rfl, by rw [cum_one]; omega, by rw [cum_one]; go_num⟩
      case round =>
        clear hc'
        obtain ⟨m, hm1, hm2, rfl, hr, rfl⟩ := hrel
        have cb := cum_bd y hm1 hm2
        have mb := ml_bd y m
        have HS := Lib.hid (cum_succ y hm1 hm2)
        by_cases hd : ml y m < n - dby y - cum y m
        · have hm12 := month_up hz hm1 hm2 hd
          go_wp2_with ((with_reducible refine (rlen_any y m hy1 (by omega) _).mono ?_); rintro e w' ⟨rfl, rfl⟩)
          go_round
          case rel => exact ⟨m + 1, by omega, by omega, by go_num, by rw [HS.out]; omega, by rw [HS.out]; go_num⟩
          case measure => simp [intOf]; omega
        · have HE := Lib.hid (date_end hy1 hy2 hy3 hz hm1 hm2 hr (by omega))
          go_wp2_with ((with_reducible refine (rlen_any y m hy1 (by omega) _).mono ?_); rintro e w' ⟨rfl, rfl⟩)
          exact bodyPost_ret (v := .tuple #[.int .i64 y, .int .i64 m, .int .i64 (n - dby y - cum y m), .int .i64 0]) (by simp [results, Tryd.results15, go_sem]) rfl ⟨by rw [HE.out.1, HE.out.2.1, HE.out.2.2], rfl⟩
end Go.Proofs.YtkaaejfochdjcaaDoor
