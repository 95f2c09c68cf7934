/-
  CalendarDays: for every number the law returns true, and leaves what was there as it was; the tables are as the program's text lays them (the card ties them).
-/
import Derived.Test.YtkaaejfochdjcaaDoorCLaw
import Derived.Test.YtkaaejfochdjcaaDoorCRMade
namespace Go.Proofs.YtkaaejfochdjcaaDoor
open Go.ChangeShapes Go.WideShapes Go.ChangeAt Go.RowKit Go.ChangeMaps
open Cal
set_option linter.unusedVariables false
set_option linter.unusedSimpArgs false
namespace CL5

set_option maxRecDepth 100000 in
set_option maxHeartbeats 8000000 in
theorem walk (n : Int) (hn : inI n) (w : World) (hK : KC w) : Calls Tryd.prog 7 #[.int .i64 n] w fun e w' => e = .returned (.bool true) ∧ Below w.heap.size w w' := by
  have HL := Lib.hid (lives_any w hK)
  have hM := hK.1
  clear hK
  have ha := arP_bd n (m := 1022679) (by omega)
  have HA := Lib.hid (raround_any n 1022679 hn.1 hn.2 (by omega) (by omega) w)
  clear hn
  obtain ⟨k, hk0⟩ : ∃ k, k = 1 + arP n 1022679 := ⟨_, rfl⟩
  obtain ⟨x, hx0⟩ : ∃ x, x = arP n 1022679 := ⟨_, rfl⟩
  rw [← hx0] at hk0 ha HA
  clear hx0
  have hk : 1 ≤ k ∧ k ≤ 1022679 := by omega
  have hxk : 1 + x = k := hk0.symm
  clear hk0 ha
  have hx := date_ex hk.1 hk.2
  obtain ⟨y, hy⟩ : ∃ y, y = yOf k := ⟨_, rfl⟩
  obtain ⟨m, hm⟩ : ∃ m, m = mOf k := ⟨_, rfl⟩
  obtain ⟨d, hd⟩ : ∃ d, d = dOf k := ⟨_, rfl⟩
  have HD : Hid (Calls Tryd.prog 14 #[.int .i64 k] w fun e w' => e = .returned (.tuple #[.int .i64 y, .int .i64 m, .int .i64 d, .int .i64 0]) ∧ w = w') := Lib.hid (by rw [hy, hm, hd]; exact date_yes k hk.1 hk.2 w hM)
  rw [← hy, ← hm, ← hd] at hx
  have HB : Hid (Calls Tryd.prog 12 #[.int .i64 y, .int .i64 m, .int .i64 d] w fun e w' => e = .returned (.tuple #[.int .i64 k, .int .i64 0]) ∧ w = w') := Lib.hid ((day_yes y m d hx.1 w hM).mono fun e w' ⟨h, h'⟩ => ⟨by rw [h, hx.2]; rfl, h'⟩)
  by_cases h24 : y ≤ 2400
  · have H4 : Hid (Calls Tryd.prog 12 #[.int .i64 (y + 400), .int .i64 m, .int .i64 d] w fun e w' => e = .returned (.tuple #[.int .i64 (k + 146097), .int .i64 0]) ∧ w = w') := Lib.hid ((day_yes (y + 400) m d ⟨by have := hx.1.1; omega, by omega, hx.1.2.2.1, hx.1.2.2.2.1, hx.1.2.2.2.2.1, by rw [ml_400]; exact hx.1.2.2.2.2.2⟩ w hM).mono fun e w' ⟨h, h'⟩ => ⟨by rw [h, show num (y + 400) m d = k + 146097 by have := hx.2; unfold num at *; rw [dby_400, cum_400]; omega]; rfl, h'⟩)
    have hyb : 1 ≤ y := hx.1.1
    by_cases hl : k = 1022679
    · subst hl
      have he := date_eq (y := 2800) (m := 12) (d := 31) (n := 1022679) lE2 lD2
      rw [← hy, ← hm, ← hd] at he
      obtain ⟨rfl, rfl, rfl⟩ := he
      clear hx hk hy hm hd
      omega
    · have hlb : (k == 1022679) = false := beq_eq_false_iff_ne.2 hl
      obtain ⟨⟨y1, y2, m1, m2, d1, d2⟩, hn⟩ := hx
      have hml := ml_bd y m
      by_cases h1 : d < ml y m
      · have hex : Ex y m (d + 1) := ⟨y1, y2, m1, m2, by omega, by omega⟩
        have he := date_eq (n := k + 1) hex (by unfold num at *; omega)
        have HN : Hid (Calls Tryd.prog 14 #[.int .i64 (k + 1)] w fun e w' => e = .returned (.tuple #[.int .i64 y, .int .i64 m, .int .i64 (d + 1), .int .i64 0]) ∧ w = w') := Lib.hid ((date_yes (k + 1) (by omega) (by omega) w hM).mono fun e w' ⟨h, h'⟩ => ⟨by rw [h, he.1, he.2.1, he.2.2]; rfl, h'⟩)
        have HT : Hid (Calls Tryd.prog 12 #[.int .i64 y, .int .i64 m, .int .i64 (d + 1)] w fun e w' => e = .returned (.tuple #[.int .i64 (num y m (d + 1)), .int .i64 0]) ∧ w = w') := Lib.hid (day_yes y m (d + 1) hex w hM)
        clear hex he hn hy hm hd hM
        go_enter Tryd.func7, Tryd.ntmps7
        go_wp2_with (first
          | ((with_reducible refine HA.out.mono ?_); rintro e w1 ⟨rfl, rfl⟩)
          | ((with_reducible refine HD.out.mono ?_); rintro e w1 ⟨rfl, rfl⟩)
          | ((with_reducible refine HB.out.mono ?_); rintro e w1 ⟨rfl, rfl⟩)
          | ((with_reducible refine H4.out.mono ?_); rintro e w1 ⟨rfl, rfl⟩)
          | ((with_reducible refine HN.out.mono ?_); rintro e w1 ⟨rfl, rfl⟩)
          | ((with_reducible refine HT.out.mono ?_); rintro e w1 ⟨rfl, rfl⟩)
          | ((with_reducible refine HL.out.mono ?_); rintro e w1 ⟨rfl, hb1⟩))
        go_ret
        exact ⟨rfl, hb1⟩
      · have hno : ¬ Ex y m (d + 1) := fun h => by have := h.2.2.2.2.2; omega
        have HT : Hid (Calls Tryd.prog 12 #[.int .i64 y, .int .i64 m, .int .i64 (d + 1)] w fun e w' => e = .returned (.tuple #[.int .i64 0, .int .i64 5]) ∧ w = w') := Lib.hid (day_no y m (d + 1) hno w hM)
        by_cases h2 : m < 12
        · have hex : Ex y (m + 1) 1 := ⟨y1, y2, by omega, by omega, by omega, by have := ml_bd y (m + 1); omega⟩
          have he := date_eq (n := k + 1) hex (by have := cum_succ y m1 m2; unfold num at *; omega)
          have HN : Hid (Calls Tryd.prog 14 #[.int .i64 (k + 1)] w fun e w' => e = .returned (.tuple #[.int .i64 y, .int .i64 (m + 1), .int .i64 1, .int .i64 0]) ∧ w = w') := Lib.hid ((date_yes (k + 1) (by omega) (by omega) w hM).mono fun e w' ⟨h, h'⟩ => ⟨by rw [h, he.1, he.2.1, he.2.2]; rfl, h'⟩)
          have hq1 : (m + 1 == m) = false := beq_eq_false_iff_ne.2 (by omega)
          have hq2 : (y == y + 1) = false := beq_eq_false_iff_ne.2 (by omega)
          have hq3 : decide (28 ≤ d) = true := decide_eq_true (by omega)
          have hq4 : decide (d < 28) = false := decide_eq_false (by omega)
          clear hex he hn hy hm hd hM hno
          go_enter Tryd.func7, Tryd.ntmps7
          go_wp2_with (first
            | ((with_reducible refine HA.out.mono ?_); rintro e w1 ⟨rfl, rfl⟩)
            | ((with_reducible refine HD.out.mono ?_); rintro e w1 ⟨rfl, rfl⟩)
            | ((with_reducible refine HB.out.mono ?_); rintro e w1 ⟨rfl, rfl⟩)
            | ((with_reducible refine H4.out.mono ?_); rintro e w1 ⟨rfl, rfl⟩)
            | ((with_reducible refine HN.out.mono ?_); rintro e w1 ⟨rfl, rfl⟩)
            | ((with_reducible refine HT.out.mono ?_); rintro e w1 ⟨rfl, rfl⟩)
            | ((with_reducible refine HL.out.mono ?_); rintro e w1 ⟨rfl, hb1⟩))
          go_ret
          exact ⟨rfl, hb1⟩
        · obtain rfl : m = 12 := by omega
          have h31 : ml y 12 = 31 := ml_31 y (by omega) (by omega)
          obtain rfl : d = 31 := by omega
          have hlast : y ≠ 2800 := fun e => by subst e; rw [lD2] at hn; omega
          have hex : Ex (y + 1) 1 1 := ex_first (by omega) (by omega)
          have he := date_eq (n := k + 1) hex (by rw [num_last] at hn; rw [num_first]; omega)
          have HN : Hid (Calls Tryd.prog 14 #[.int .i64 (k + 1)] w fun e w' => e = .returned (.tuple #[.int .i64 (y + 1), .int .i64 1, .int .i64 1, .int .i64 0]) ∧ w = w') := Lib.hid ((date_yes (k + 1) (by omega) (by omega) w hM).mono fun e w' ⟨h, h'⟩ => ⟨by rw [h, he.1, he.2.1, he.2.2]; rfl, h'⟩)
          have hq1 : (y + 1 == y) = false := beq_eq_false_iff_ne.2 (by omega)
          replace HT : Hid (Calls Tryd.prog 12 #[.int .i64 y, .int .i64 12, .int .i64 32] w fun e w' => e = .returned (.tuple #[.int .i64 0, .int .i64 5]) ∧ w = w') := HT
          clear hex he hn hy hm hd hM hno h31
          go_enter Tryd.func7, Tryd.ntmps7
          go_wp2_with (first
            | ((with_reducible refine HA.out.mono ?_); rintro e w1 ⟨rfl, rfl⟩)
            | ((with_reducible refine HD.out.mono ?_); rintro e w1 ⟨rfl, rfl⟩)
            | ((with_reducible refine HB.out.mono ?_); rintro e w1 ⟨rfl, rfl⟩)
            | ((with_reducible refine H4.out.mono ?_); rintro e w1 ⟨rfl, rfl⟩)
            | ((with_reducible refine HN.out.mono ?_); rintro e w1 ⟨rfl, rfl⟩)
            | ((with_reducible refine HT.out.mono ?_); rintro e w1 ⟨rfl, rfl⟩)
            | ((with_reducible refine HL.out.mono ?_); rintro e w1 ⟨rfl, hb1⟩))
          go_ret
          exact ⟨rfl, hb1⟩
  · have hyb : 1 ≤ y := hx.1.1
    by_cases hl : k = 1022679
    · subst hl
      have he := date_eq (y := 2800) (m := 12) (d := 31) (n := 1022679) lE2 lD2
      rw [← hy, ← hm, ← hd] at he
      obtain ⟨rfl, rfl, rfl⟩ := he
      clear hx hk hy hm hd
      go_enter Tryd.func7, Tryd.ntmps7
      go_wp2_with (first
        | ((with_reducible refine HA.out.mono ?_); rintro e w1 ⟨rfl, rfl⟩)
        | ((with_reducible refine HD.out.mono ?_); rintro e w1 ⟨rfl, rfl⟩)
        | ((with_reducible refine HB.out.mono ?_); rintro e w1 ⟨rfl, rfl⟩)
        | ((with_reducible refine HL.out.mono ?_); rintro e w1 ⟨rfl, hb1⟩))
      go_ret
      exact ⟨rfl, hb1⟩
    · have hlb : (k == 1022679) = false := beq_eq_false_iff_ne.2 hl
      obtain ⟨⟨y1, y2, m1, m2, d1, d2⟩, hn⟩ := hx
      have hml := ml_bd y m
      by_cases h1 : d < ml y m
      · have hex : Ex y m (d + 1) := ⟨y1, y2, m1, m2, by omega, by omega⟩
        have he := date_eq (n := k + 1) hex (by unfold num at *; omega)
        have HN : Hid (Calls Tryd.prog 14 #[.int .i64 (k + 1)] w fun e w' => e = .returned (.tuple #[.int .i64 y, .int .i64 m, .int .i64 (d + 1), .int .i64 0]) ∧ w = w') := Lib.hid ((date_yes (k + 1) (by omega) (by omega) w hM).mono fun e w' ⟨h, h'⟩ => ⟨by rw [h, he.1, he.2.1, he.2.2]; rfl, h'⟩)
        have HT : Hid (Calls Tryd.prog 12 #[.int .i64 y, .int .i64 m, .int .i64 (d + 1)] w fun e w' => e = .returned (.tuple #[.int .i64 (num y m (d + 1)), .int .i64 0]) ∧ w = w') := Lib.hid (day_yes y m (d + 1) hex w hM)
        clear hex he hn hy hm hd hM
        go_enter Tryd.func7, Tryd.ntmps7
        go_wp2_with (first
          | ((with_reducible refine HA.out.mono ?_); rintro e w1 ⟨rfl, rfl⟩)
          | ((with_reducible refine HD.out.mono ?_); rintro e w1 ⟨rfl, rfl⟩)
          | ((with_reducible refine HB.out.mono ?_); rintro e w1 ⟨rfl, rfl⟩)
          | ((with_reducible refine HN.out.mono ?_); rintro e w1 ⟨rfl, rfl⟩)
          | ((with_reducible refine HT.out.mono ?_); rintro e w1 ⟨rfl, rfl⟩)
          | ((with_reducible refine HL.out.mono ?_); rintro e w1 ⟨rfl, hb1⟩))
        go_ret
        exact ⟨rfl, hb1⟩
      · have hno : ¬ Ex y m (d + 1) := fun h => by have := h.2.2.2.2.2; omega
        have HT : Hid (Calls Tryd.prog 12 #[.int .i64 y, .int .i64 m, .int .i64 (d + 1)] w fun e w' => e = .returned (.tuple #[.int .i64 0, .int .i64 5]) ∧ w = w') := Lib.hid (day_no y m (d + 1) hno w hM)
        by_cases h2 : m < 12
        · have hex : Ex y (m + 1) 1 := ⟨y1, y2, by omega, by omega, by omega, by have := ml_bd y (m + 1); omega⟩
          have he := date_eq (n := k + 1) hex (by have := cum_succ y m1 m2; unfold num at *; omega)
          have HN : Hid (Calls Tryd.prog 14 #[.int .i64 (k + 1)] w fun e w' => e = .returned (.tuple #[.int .i64 y, .int .i64 (m + 1), .int .i64 1, .int .i64 0]) ∧ w = w') := Lib.hid ((date_yes (k + 1) (by omega) (by omega) w hM).mono fun e w' ⟨h, h'⟩ => ⟨by rw [h, he.1, he.2.1, he.2.2]; rfl, h'⟩)
          have hq1 : (m + 1 == m) = false := beq_eq_false_iff_ne.2 (by omega)
          have hq2 : (y == y + 1) = false := beq_eq_false_iff_ne.2 (by omega)
          have hq3 : decide (28 ≤ d) = true := decide_eq_true (by omega)
          have hq4 : decide (d < 28) = false := decide_eq_false (by omega)
          clear hex he hn hy hm hd hM hno
          go_enter Tryd.func7, Tryd.ntmps7
          go_wp2_with (first
            | ((with_reducible refine HA.out.mono ?_); rintro e w1 ⟨rfl, rfl⟩)
            | ((with_reducible refine HD.out.mono ?_); rintro e w1 ⟨rfl, rfl⟩)
            | ((with_reducible refine HB.out.mono ?_); rintro e w1 ⟨rfl, rfl⟩)
            | ((with_reducible refine HN.out.mono ?_); rintro e w1 ⟨rfl, rfl⟩)
            | ((with_reducible refine HT.out.mono ?_); rintro e w1 ⟨rfl, rfl⟩)
            | ((with_reducible refine HL.out.mono ?_); rintro e w1 ⟨rfl, hb1⟩))
          go_ret
          exact ⟨rfl, hb1⟩
        · obtain rfl : m = 12 := by omega
          have h31 : ml y 12 = 31 := ml_31 y (by omega) (by omega)
          obtain rfl : d = 31 := by omega
          have hlast : y ≠ 2800 := fun e => by subst e; rw [lD2] at hn; omega
          have hex : Ex (y + 1) 1 1 := ex_first (by omega) (by omega)
          have he := date_eq (n := k + 1) hex (by rw [num_last] at hn; rw [num_first]; omega)
          have HN : Hid (Calls Tryd.prog 14 #[.int .i64 (k + 1)] w fun e w' => e = .returned (.tuple #[.int .i64 (y + 1), .int .i64 1, .int .i64 1, .int .i64 0]) ∧ w = w') := Lib.hid ((date_yes (k + 1) (by omega) (by omega) w hM).mono fun e w' ⟨h, h'⟩ => ⟨by rw [h, he.1, he.2.1, he.2.2]; rfl, h'⟩)
          have hq1 : (y + 1 == y) = false := beq_eq_false_iff_ne.2 (by omega)
          replace HT : Hid (Calls Tryd.prog 12 #[.int .i64 y, .int .i64 12, .int .i64 32] w fun e w' => e = .returned (.tuple #[.int .i64 0, .int .i64 5]) ∧ w = w') := HT
          clear hex he hn hy hm hd hM hno h31
          go_enter Tryd.func7, Tryd.ntmps7
          go_wp2_with (first
            | ((with_reducible refine HA.out.mono ?_); rintro e w1 ⟨rfl, rfl⟩)
            | ((with_reducible refine HD.out.mono ?_); rintro e w1 ⟨rfl, rfl⟩)
            | ((with_reducible refine HB.out.mono ?_); rintro e w1 ⟨rfl, rfl⟩)
            | ((with_reducible refine HN.out.mono ?_); rintro e w1 ⟨rfl, rfl⟩)
            | ((with_reducible refine HT.out.mono ?_); rintro e w1 ⟨rfl, rfl⟩)
            | ((with_reducible refine HL.out.mono ?_); rintro e w1 ⟨rfl, hb1⟩))
          go_ret
          exact ⟨rfl, hb1⟩

set_option maxRecDepth 100000 in
theorem contract (H : Type) (enc : TypeId × Value → H) (W : World) (base : Nat) (args : Array Value) (ds gs : List (DataW H)) (before : List MemPlace)
    (hval : ∀ (j : Nat) t v, Tryd.f7.params[j]? = some t → args[j]? = some v → Value.okWide Tryd.prog W .any base t v)
    (hW : DataW.Whole enc Tryd.prog Tryd.f7.params.toList Rows.calendarDaysSpec.vars false W args.toList ds gs before) (hK : KC W) :
    Calls Tryd.prog 7 args W fun e W' => ∃ v, e = .returned v ∧ Rows.calendarDaysSpec.post enc Tryd.prog Tryd.f7 false true false false W args v W' := by
  have hW' := hW
  obtain ⟨p, q, hA0, hV, rfl, hfz, hnd⟩ := hW
  have hA : DataW.TrodAll enc Tryd.prog W 0 (fun _ => true) true Tryd.f7.params.toList args.toList ds p := hA0
  rw [Tryd.params7] at hA hval
  obtain ⟨v0, d0, rfl, rfl, h0⟩ := trodAll_one hA
  obtain ⟨rfl, rfl⟩ := trodVars_none hV
  obtain ⟨n, rfl, rfl, rfl, nw⟩ := open_int Tryd.underlying3 (hval 0 3 v0 rfl rfl) h0
  have ni := inI_wf nw
  have hargs : (#[.int .i64 n] : Array Value) = #[.int .i64 n] := by rfl
  have hwalk : Calls Tryd.prog 7 #[.int .i64 n] W fun e W' => e = .returned (.bool true) ∧ Below W.heap.size W W' := by
    rw [hargs]
    exact walk n ni W hK
  refine hwalk.mono fun e W' ⟨he, hb⟩ => ⟨_, he, ?_⟩
  exact law_post rfl rfl (by kernel_rfl) hW' rfl hb

set_option maxRecDepth 100000 in
theorem lifted (os : Os) (started : os.Started) (H : Type) (enc : TypeId × Value → H) :
    ReturnsInHanded {} Tryd.checked os 7 .any (fun w args => (Rows.calendarDaysSpec.pre enc Tryd.prog Tryd.f7 [] false w args ∧ laidMetH Tryd.prog laid4 w) ∧ sizedMet enc Tryd.prog Tryd.f7 (OpenSpec.ofChange Rows.calendarDaysSpec) false w args)
      (Rows.calendarDaysSpec.post enc Tryd.prog Tryd.f7 false true false false) := by
  refine returnsInHanded_of_change_and (C := Tryd.checked) (X := fun w _ => laidMetH Tryd.prog laid4 w) (fun _ _ _ hh h => h.of_heap hh) Tryd.own started (by kernel_rfl) Tryd.func7
    (ChangeSpec.witness_shaped (enc := enc) (C := Tryd.checked) (os := os) (X := fun w _ => laidMetH Tryd.prog laid4 w) false (World.doorLaid Tryd.prog 400 os) #[.int .i64 0] 8 rfl (World.shaped_of_RefB (by kernel_rfl) (by kernel_rfl)) (by kernel_rfl) (by kernel_rfl) (by kernel_rfl) (door_met4 os _)) ?_
  intro W base args ds gs before hval hW _ hsz hL _
  exact contract H enc W base args ds gs before hval hW (of_laid4 hL)

theorem row : Rows.CalendarDaysSaid :=
  OpenClaim.holds_of_wide 7 Tryd.f7 rfl rfl rfl rfl rfl rfl rfl ⟨rfl, rfl, rfl, rfl, rfl⟩ rfl rfl rfl rfl rfl (by kernel_rfl) Tryd.func7 (by kernel_rfl)
    (of_decide_eq_true (by kernel_rfl)) (by unfold Func.isWrapper; first | (rw [if_pos (by decide +kernel)]; kernel_rfl) | (rw [if_neg (by decide +kernel)]; exact ⟨rfl, rfl⟩))
    (fun os started H enc _ => lifted os started H enc)

theorem proved : Rows.CalendarDaysCardSaid :=
  Claim7.holds_tied_plain_at .later [] [.data, .data, .data, .data] true (true, "520023937c31a48c793982c9874225f2c411890cd26ecc880d0bbeb410484da2") false
    row (fun _ h => by cases h) (by kernel_rfl) (fun _ h => by cases h) calendarDays_row_tie rfl ⟨rfl, rfl⟩ (by kernel_rfl) rfl
    (fun f fn hf hfn => by
      obtain rfl : f = 7 := Option.some.inj ((show Tryd.prog.funcNamed "wordbook/wordbooklaw04.CalendarDays" = some 7 by kernel_rfl).symm.trans hf) |>.symm
      obtain rfl : fn = Tryd.f7 := (Option.some.inj (Tryd.func7.symm.trans hfn)).symm
      exact ⟨by kernel_rfl, fun j t ht => by
        rw [Tryd.params7] at ht
        have hm : t ∈ [3] := by simpa using Array.mem_of_getElem? ht
        have hall : ([3].all fun u => !Tryd.prog.wantsStandIn u) = true := by kernel_rfl
        exact (show Tryd.prog.wantsStandIn t = false by simpa using List.all_eq_true.1 hall t hm)⟩)
    (by kernel_rfl)
end CL5
end Go.Proofs.YtkaaejfochdjcaaDoor
