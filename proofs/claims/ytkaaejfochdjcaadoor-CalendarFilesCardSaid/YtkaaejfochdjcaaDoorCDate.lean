/-
  calendar.Day and calendar.Date.
-/
import Derived.Test.YtkaaejfochdjcaaDoorCDay
namespace Go.Proofs.YtkaaejfochdjcaaDoor
open Go.RowKit
open Cal
set_option linter.unusedVariables false

theorem vyear_yes (y : Int) (h1 : 1 ≤ y) (h2 : y ≤ 2800) (w : World) : Calls Tryd.prog 36 #[.int .i64 y] w fun e w' => e = .returned (.bool true) ∧ w = w' := by
  go_enter Tryd.func36, Tryd.ntmps36
  go_wp2
  go_ret
  exact ⟨rfl, rfl⟩
theorem vyear_no (y : Int) (h : ¬ (1 ≤ y ∧ y ≤ 2800)) (w : World) : Calls Tryd.prog 36 #[.int .i64 y] w fun e w' => e = .returned (.bool false) ∧ w = w' := by
  by_cases h1 : 1 ≤ y
  · have h2 : ¬ y ≤ 2800 := fun h2 => h ⟨h1, h2⟩
    clear h
    go_enter Tryd.func36, Tryd.ntmps36
    go_wp2
    go_ret
    exact ⟨rfl, rfl⟩
  · clear h
    go_enter Tryd.func36, Tryd.ntmps36
    go_wp2
    go_ret
    exact ⟨rfl, rfl⟩
/-- The results of a function that answers a number and an error. -/
def retE (n e : Int) : Ending := .returned (.tuple #[.int .i64 n, .int .i64 e])
theorem ret_e {a b e : Int} (h : a = b) : Ending.returned (.tuple #[.int .i64 a, .int .i64 e]) = .returned (.tuple #[.int .i64 b, .int .i64 e]) := by rw [h]
set_option maxHeartbeats 800000 in
theorem day_no (y m d : Int) (h : ¬ Ex y m d) (w : World) (hM : MD w) : Calls Tryd.prog 12 #[.int .i64 y, .int .i64 m, .int .i64 d] w fun e w' => e = retE 0 5 ∧ w = w' := by
  have HM := Lib.hid hM
  clear hM
  unfold retE
  by_cases hy : 1 ≤ y ∧ y ≤ 2800
  · by_cases h1 : 1 ≤ m
    · by_cases h2 : m ≤ 12
      · by_cases h3 : 1 ≤ d
        · have h4 : ¬ d ≤ ml y m := fun h4 => h ⟨hy.1, hy.2, h1, h2, h3, h4⟩
          have h5 := ml_bd y m
          obtain ⟨hy1, hy2⟩ := hy
          clear h
          go_enter Tryd.func12, Tryd.ntmps12
          go_wp2_with (first
            | ((with_reducible refine (vyear_yes y hy1 hy2 _).mono ?_); rintro e w' ⟨rfl, rfl⟩)
            | ((with_reducible refine (mlen_any y m hy1 (by omega) h1 h2 _ HM.out).mono ?_); rintro e w' ⟨rfl, rfl⟩))
          go_ret2
          exact ⟨rfl, rfl⟩
        · clear h
          obtain ⟨hy1, hy2⟩ := hy
          go_enter Tryd.func12, Tryd.ntmps12
          go_wp2_with ((with_reducible refine (vyear_yes y hy1 hy2 _).mono ?_); rintro e w' ⟨rfl, rfl⟩)
          go_ret2
          exact ⟨rfl, rfl⟩
      · clear h
        obtain ⟨hy1, hy2⟩ := hy
        go_enter Tryd.func12, Tryd.ntmps12
        go_wp2_with ((with_reducible refine (vyear_yes y hy1 hy2 _).mono ?_); rintro e w' ⟨rfl, rfl⟩)
        go_ret2
        exact ⟨rfl, rfl⟩
    · clear h
      obtain ⟨hy1, hy2⟩ := hy
      go_enter Tryd.func12, Tryd.ntmps12
      go_wp2_with ((with_reducible refine (vyear_yes y hy1 hy2 _).mono ?_); rintro e w' ⟨rfl, rfl⟩)
      go_ret2
      exact ⟨rfl, rfl⟩
  · clear h
    have HY := Lib.hid hy
    clear hy
    go_enter Tryd.func12, Tryd.ntmps12
    go_wp2_with ((with_reducible refine (vyear_no y HY.out _).mono ?_); rintro e w' ⟨rfl, rfl⟩)
    go_ret2
    exact ⟨rfl, rfl⟩
theorem num_of {y m d : Int} : dby y + d + cum y m = num y m d := by unfold num; omega
set_option maxHeartbeats 800000 in
theorem day_yes (y m d : Int) (h : Ex y m d) (w : World) (hM : MD w) : Calls Tryd.prog 12 #[.int .i64 y, .int .i64 m, .int .i64 d] w fun e w' => e = retE (num y m d) 0 ∧ w = w' := by
  have HM := Lib.hid hM
  clear hM
  unfold retE
  obtain ⟨hy1, hy2, h1, h2, h3, h4⟩ := h
  have h5 := ml_bd y m
  have hb := dby_bd hy1 (by omega : y ≤ 2801)
  go_enter Tryd.func12, Tryd.ntmps12
  go_wp2_with (first
    | ((with_reducible refine (vyear_yes y hy1 hy2 _).mono ?_); rintro e w' ⟨rfl, rfl⟩)
    | ((with_reducible refine (mlen_any y m hy1 (by omega) h1 h2 _ HM.out).mono ?_); rintro e w' ⟨rfl, rfl⟩)
    | ((with_reducible refine (dby_any y hy1 (by omega) _).mono ?_); rintro e w' ⟨rfl, rfl⟩))
  go_loop [8, 9] (fun n i => ∃ k : Int, 1 ≤ k ∧ k ≤ m ∧ i = .int .i64 k ∧ n = .int .i64 (dby y + d + cum y k)) (fun _ i => (m - intOf i).toNat)
  case atStart => exact ⟨1, by omega, h1, rfl, by rw [cum_one]; go_num⟩
  case round =>
    obtain ⟨k, hk1, hk2, rfl, rfl⟩ := hrel
    have hc := cum_bd y hk1 (by omega : k ≤ 12)
    have hml := ml_bd y k
    have HS := Lib.hid (cum_succ y hk1 (by omega : k ≤ 12))
    by_cases hlt : k < m
    · go_wp2_with ((with_reducible refine (mlen_any y k hy1 (by omega) hk1 (by omega) _ HM.out).mono ?_); rintro e w' ⟨rfl, rfl⟩)
      go_round
      case rel => exact ⟨k + 1, by omega, by omega, by go_num, by rw [HS.out]; go_num⟩
      case measure => simp [intOf]; omega
    · obtain rfl : k = m := by omega
      go_wp2
      go_ret2
      exact ⟨ret_e num_of, rfl⟩

def ret4 (a b c e : Int) : Ending := .returned (.tuple #[.int .i64 a, .int .i64 b, .int .i64 c, .int .i64 e])
set_option maxHeartbeats 400000 in
theorem date_no (n : Int) (h : ¬ (1 ≤ n ∧ n ≤ 1022679)) (w : World) : Calls Tryd.prog 14 #[.int .i64 n] w fun e w' => e = ret4 0 0 0 5 ∧ w = w' := by
  unfold ret4
  by_cases h1 : 1 ≤ n
  · have h2 : ¬ n ≤ 1022679 := fun h2 => h ⟨h1, h2⟩
    clear h
    go_enter Tryd.func14, Tryd.ntmps14
    go_wp2
    exact bodyPost_ret (v := .tuple #[.int .i64 0, .int .i64 0, .int .i64 0, .int .i64 5]) (by simp [results, Tryd.results14, go_sem]) rfl ⟨rfl, rfl⟩
  · clear h
    go_enter Tryd.func14, Tryd.ntmps14
    go_wp2
    exact bodyPost_ret (v := .tuple #[.int .i64 0, .int .i64 0, .int .i64 0, .int .i64 5]) (by simp [results, Tryd.results14, go_sem]) rfl ⟨rfl, rfl⟩
theorem dby_guess (n : Int) (h1 : 1 ≤ n) (h2 : n ≤ 1022679) : dby (1 + (n - 1) / 366) < n := by unfold dby; omega
theorem dby_up {y n : Int} (h : dby y < n) (h2 : n ≤ 1022679) : y ≤ 2800 := by
  rcases Int.lt_or_le y 2801 with c | c
  · omega
  · have := dby_mono c
    rw [dby_last] at this
    omega
/-- The year and the month that Date comes to are those of n. -/
theorem date_end {n y m : Int} (h1 : 1 ≤ y) (h2 : y ≤ 2800) (a : dby y < n) (b : n ≤ dby (y + 1)) (m1 : 1 ≤ m) (m2 : m ≤ 12) (c : 1 ≤ n - dby y - cum y m) (d : n - dby y - cum y m ≤ ml y m) : yOf n = y ∧ mOf n = m ∧ dOf n = n - dby y - cum y m :=
  date_eq (y := y) (m := m) (d := n - dby y - cum y m) ⟨h1, h2, m1, m2, c, d⟩ (by unfold num; omega)
theorem month_up {n y m : Int} (b : n ≤ dby (y + 1)) (m1 : 1 ≤ m) (m2 : m ≤ 12) (d : ml y m < n - dby y - cum y m) : m < 12 := by
  rcases Int.lt_or_le m 12 with c | c
  · exact c
  · obtain rfl : m = 12 := by omega
    have := cum_succ y (m := 12) (by omega) (by omega)
    rw [show (12 : Int) + 1 = 13 from rfl, cum_13] at this
    have := dby_succ y
    omega
set_option maxHeartbeats 1000000 in
theorem date_yes (n : Int) (h1 : 1 ≤ n) (h2 : n ≤ 1022679) (w : World) (hM : MD w) : Calls Tryd.prog 14 #[.int .i64 n] w fun e w' => e = ret4 (yOf n) (mOf n) (dOf n) 0 ∧ w = w' := by
  have HM := Lib.hid hM
  clear hM
  unfold ret4
  have hg := dby_guess n h1 h2
  go_enter Tryd.func14, Tryd.ntmps14
  go_wp2
  go_loop [6] (fun t => ∃ y : Int, 1 ≤ y ∧ dby y < n ∧ t = .int .i64 y) (fun t => (2801 - intOf t).toNat)
  case atStart => exact ⟨1 + (n - 1) / 366, by omega, hg, by go_num⟩
  case round =>
    clear hg
    obtain ⟨y, hy1, hy3, rfl⟩ := hrel
    have hy2 := dby_up hy3 h2
    have hbd := dby_bd hy1 (by omega : y ≤ 2801)
    have hbd2 := dby_bd (y := y + 1) (by omega) (by omega)
    by_cases hc : dby (y + 1) < n
    · go_wp2_with ((with_reducible refine (dby_any (y + 1) (by omega) (by omega) _).mono ?_); rintro e w' ⟨rfl, rfl⟩)
      go_round
      case rel => exact ⟨y + 1, by omega, hc, rfl⟩
      case measure => simp [intOf]; omega
    · have hz : n ≤ dby (y + 1) := by omega
      go_wp2_with ((with_reducible refine (dby_any _ (by omega) (by omega) _).mono ?_); rintro e w' ⟨rfl, rfl⟩)
      go_loop [7, 8] (fun k r => ∃ m : Int, 1 ≤ m ∧ m ≤ 12 ∧ k = .int .i64 m ∧ 1 ≤ n - dby y - cum y m ∧ r = .int .i64 (n - dby y - cum y m)) (fun k _ => (12 - intOf k).toNat)
      case atStart => exact ⟨1, by omega, by omega, rfl, by rw [cum_one]; omega, by rw [cum_one]; go_num⟩
      case round =>
        obtain ⟨m, hm1, hm2, rfl, hr, rfl⟩ := hrel
        have cb := cum_bd y hm1 hm2
        have mb := ml_bd y m
        have HS := Lib.hid (cum_succ y hm1 hm2)
        by_cases hd : ml y m < n - dby y - cum y m
        · have hm12 := month_up hz hm1 hm2 hd
          go_wp2_with ((with_reducible refine (mlen_any y m hy1 (by omega) hm1 hm2 _ HM.out).mono ?_); rintro e w' ⟨rfl, rfl⟩)
          go_round
          case rel => exact ⟨m + 1, by omega, by omega, by go_num, by rw [HS.out]; omega, by rw [HS.out]; go_num⟩
          case measure => simp [intOf]; omega
        · have HE := Lib.hid (date_end hy1 hy2 hy3 hz hm1 hm2 hr (by omega))
          go_wp2_with ((with_reducible refine (mlen_any y m hy1 (by omega) hm1 hm2 _ HM.out).mono ?_); rintro e w' ⟨rfl, rfl⟩)
          exact bodyPost_ret (v := .tuple #[.int .i64 y, .int .i64 m, .int .i64 (n - dby y - cum y m), .int .i64 0]) (by simp [results, Tryd.results14, go_sem]) rfl ⟨by rw [HE.out.1, HE.out.2.1, HE.out.2.2], rfl⟩
end Go.Proofs.YtkaaejfochdjcaaDoor
