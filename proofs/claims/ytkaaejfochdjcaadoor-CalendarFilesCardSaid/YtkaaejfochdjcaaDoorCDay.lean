/-
  calendar's leap years, months, Day and Date.
-/
import Derived.Test.YtkaaejfochdjcaaDoorCBase
import Derived.LoopTactic
namespace Go.Proofs.YtkaaejfochdjcaaDoor
open Go.RowKit
open Cal
set_option linter.unusedVariables false

set_option maxHeartbeats 400000 in
theorem leap_any (y : Int) (h1 : 1 ≤ y) (h2 : y ≤ 2801) (w : World) : Calls Tryd.prog 64 #[.int .i64 y] w fun e w' => e = .returned (.bool (lpB y)) ∧ w = w' := by
  by_cases h4 : y % 4 = 0 <;> by_cases h100 : y % 100 = 0 <;> by_cases h400 : y % 400 = 0
  all_goals
    go_enter Tryd.func64, Tryd.ntmps64
    go_wp2
    go_ret
    exact ⟨ret_bool (by first | exact lpB_mk2 h400 | exact lpB_mk h4 h100 | exact lpB_no (by first | exact .inl h4 | exact .inr h100) h400 | exact (beq_eq_false_iff_ne.2 h400).trans (lpB_no (by first | exact .inl h4 | exact .inr h100) h400)), rfl⟩
theorem leap_yes (y : Int) (h1 : 1 ≤ y) (h2 : y ≤ 2801) (h : lpB y = true) (w : World) : Calls Tryd.prog 64 #[.int .i64 y] w fun e w' => e = .returned (.bool true) ∧ w = w' :=
  (leap_any y h1 h2 w).mono fun e w' ⟨a, b⟩ => ⟨by rw [a, h], b⟩
theorem leap_no (y : Int) (h1 : 1 ≤ y) (h2 : y ≤ 2801) (h : lpB y = false) (w : World) : Calls Tryd.prog 64 #[.int .i64 y] w fun e w' => e = .returned (.bool false) ∧ w = w' :=
  (leap_any y h1 h2 w).mono fun e w' ⟨a, b⟩ => ⟨by rw [a, h], b⟩

set_option maxHeartbeats 400000 in
theorem ylen_any (y : Int) (h1 : 1 ≤ y) (h2 : y ≤ 2801) (w : World) : Calls Tryd.prog 75 #[.int .i64 y] w fun e w' => e = .returned (.int .i64 (365 + lp y)) ∧ w = w' := by
  cases h : lpB y
  · have hl := lpB_false h
    go_enter Tryd.func75, Tryd.ntmps75
    go_wp2_with ((with_reducible refine (leap_no y h1 h2 h _).mono ?_); rintro e w' ⟨rfl, rfl⟩)
    go_ret
    exact ⟨ret_int (by rw [hl]; rfl), rfl⟩
  · have hl := lpB_true h
    go_enter Tryd.func75, Tryd.ntmps75
    go_wp2_with ((with_reducible refine (leap_yes y h1 h2 h _).mono ?_); rintro e w' ⟨rfl, rfl⟩)
    go_ret
    exact ⟨ret_int (by rw [hl]; rfl), rfl⟩

set_option maxHeartbeats 400000 in
theorem mlen_nat (y : Int) (k : Nat) (h1 : 1 ≤ y) (h2 : y ≤ 2801) (hk : k < 12) (w : World) (hM : MD w) : Calls Tryd.prog 37 #[.int .i64 y, .int .i64 ((k : Int) + 1)] w fun e w' => e = .returned (.int .i64 (ml y ((k : Int) + 1))) ∧ w = w' := by
  have hc := hM.1 k hk
  have hs : (k : Int) + 1 - 1 = k := by omega
  by_cases hk1 : k = 1
  · subst hk1
    replace hc : w.cell? ⟨0, 1, none⟩ = some (.int .i64 28) := hc
    cases h : lpB y
    · have hl := lpB_false h
      have ht : ml y ((1 : Nat) + 1) = 28 := ml_tab y 1 (by omega) (.inr hl)
      have HT := Lib.hid ht
      clear ht hl
      go_enter Tryd.func37, Tryd.ntmps37
      go_wp2_with ((with_reducible refine (leap_no y h1 h2 h _).mono ?_); rintro e w' ⟨rfl, rfl⟩)
      go_ret
      exact ⟨ret_int (by rw [HT.out]), rfl⟩
    · have hl := lpB_true h
      have ht := ml_feb hl
      have HT := Lib.hid ht
      clear ht hl
      go_enter Tryd.func37, Tryd.ntmps37
      go_wp2_with ((with_reducible refine (leap_yes y h1 h2 h _).mono ?_); rintro e w' ⟨rfl, rfl⟩)
      go_ret
      exact ⟨ret_int (by first | exact HT.out.symm | (show _ = ml y 2; rw [HT.out]; rfl)), rfl⟩
  · have ht := ml_tab y k hk (.inl hk1)
    have HT := Lib.hid ht
    have h1' : ¬ (k : Int) + 1 = 2 := by omega
    clear ht
    go_enter Tryd.func37, Tryd.ntmps37
    go_wp2
    go_ret
    exact ⟨ret_int HT.out.symm, rfl⟩
theorem mlen_any (y m : Int) (h1 : 1 ≤ y) (h2 : y ≤ 2801) (hm1 : 1 ≤ m) (hm2 : m ≤ 12) (w : World) (hM : MD w) : Calls Tryd.prog 37 #[.int .i64 y, .int .i64 m] w fun e w' => e = .returned (.int .i64 (ml y m)) ∧ w = w' := by
  obtain ⟨k, rfl⟩ : ∃ k : Nat, m = (k : Int) + 1 := ⟨(m - 1).toNat, by omega⟩
  exact mlen_nat y k h1 h2 (by omega) w hM

theorem dby_of (y : Int) : 365 * (y - 1) + (y - 1) / 4 - (y - 1) / 100 + (y - 1) / 400 = dby y := by unfold dby; rfl
set_option maxHeartbeats 400000 in
theorem dby_any (y : Int) (h1 : 1 ≤ y) (h2 : y ≤ 2801) (w : World) : Calls Tryd.prog 38 #[.int .i64 y] w fun e w' => e = .returned (.int .i64 (dby y)) ∧ w = w' := by
  have h0 : 0 ≤ y - 1 := by omega
  go_enter Tryd.func38, Tryd.ntmps38
  go_wp2
  go_ret
  exact ⟨ret_int (dby_of y), rfl⟩
end Go.Proofs.YtkaaejfochdjcaaDoor
