/-
  The reference's Made: the span that it makes is the same whenever it is called.
-/
import Derived.Test.YtkaaejfochdjcaaDoorCRMade
namespace Go.Proofs.YtkaaejfochdjcaaDoor
open Go.RowKit
open Cal
set_option linter.unusedVariables false
set_option linter.unusedSimpArgs false

set_option maxRecDepth 100000 in
set_option maxHeartbeats 4000000 in
theorem made_ex (a b : Int) (ha : inI a) (hb : inI b) : ∃ p q : Int, vaB p q = true ∧ ∀ w, Calls Tryd.prog 27 #[.int .i64 a, .int .i64 b] w fun e w' => e = .returned (.agg #[.int .i64 p, .int .i64 q]) ∧ Below w.heap.size w w' := by
  have hb7 := tdiv7 hb.1 hb.2
  have h1 := arP_bd a (m := 1022679) (by omega)
  have h2 := arP_bd b (m := 7) (by omega)
  have HR1 : Hid (∀ W, Calls Tryd.prog 30 #[.int .i64 a, .int .i64 1022679] W fun e w' => e = .returned (.int .i64 (arP a 1022679)) ∧ W = w') := Lib.hid fun W => raround_any a 1022679 ha.1 ha.2 (by omega) (by omega) W
  have HR2 : Hid (∀ W, Calls Tryd.prog 30 #[.int .i64 b, .int .i64 7] W fun e w' => e = .returned (.int .i64 (arP b 7)) ∧ W = w') := Lib.hid fun W => raround_any b 7 hb.1 hb.2 (by omega) (by omega) W
  have HR3 : Hid (∀ W, Calls Tryd.prog 30 #[.int .i64 (b.tdiv 7), .int .i64 30] W fun e w' => e = .returned (.int .i64 (arP (b.tdiv 7) 30)) ∧ W = w') := Lib.hid fun W => raround_any (b.tdiv 7) 30 hb7.1 hb7.2 (by omega) (by omega) W
  have HR4 : Hid (∀ W, Calls Tryd.prog 30 #[.int .i64 (b.tdiv 7), .int .i64 2000] W fun e w' => e = .returned (.int .i64 (arP (b.tdiv 7) 2000)) ∧ W = w') := Lib.hid fun W => raround_any (b.tdiv 7) 2000 hb7.1 hb7.2 (by omega) (by omega) W
  have h3 := arP_bd (b.tdiv 7) (m := 30) (by omega)
  have h4 := arP_bd (b.tdiv 7) (m := 2000) (by omega)
  obtain ⟨hbq1, hbq2⟩ := hb7
  obtain ⟨hbp1, hbp2⟩ := hb
  clear ha
  generalize arP a 1022679 = x at *
  generalize arP b 7 = r at *
  generalize arP (b.tdiv 7) 30 = u at *
  generalize arP (b.tdiv 7) 2000 = v at *
  have hx := date_ex (n := 1 + x) (by omega) (by omega)
  have HD : Hid (∀ W, Calls Tryd.prog 15 #[.int .i64 (1 + x)] W fun e w' => e = ret4 (yOf (1 + x)) (mOf (1 + x)) (dOf (1 + x)) 0 ∧ W = w') := Lib.hid fun W => rdate_yes (1 + x) (by omega) (by omega) W
  generalize yOf (1 + x) = y at *
  generalize mOf (1 + x) = m at *
  generalize dOf (1 + x) = d at *
  obtain ⟨⟨y1, y2, m1, m2, _, _⟩, _⟩ := hx
  by_cases h0 : r = 0
  · subst h0
    have hd1 := dby_bd (y := y) y1 (by omega)
    have hd2 := dby_bd (y := y + 1) (by omega) (by omega)
    have HO := Lib.hid (made_ok (years_ok (y := y) (z := y) y1 (by omega) y2))
    refine ⟨_, _, HO.out, fun w => ?_⟩
    go_enter Tryd.func27, Tryd.ntmps27
    go_wp2_with (first
      | ((with_reducible refine (HR1.out _).mono ?_); rintro e w1 ⟨rfl, rfl⟩)
      | ((with_reducible refine (HD.out _).mono ?_); rintro e w1 ⟨rfl, rfl⟩; unfold ret4)
      | ((with_reducible refine (HR2.out _).mono ?_); rintro e w1 ⟨rfl, rfl⟩)
      | ((with_reducible refine (rstart_any (y) (by omega) (by omega) _).mono ?_); rintro e w1 ⟨rfl, rfl⟩)
      | ((with_reducible refine (rstart_any (y + 1) (by omega) (by omega) _).mono ?_); rintro e w1 ⟨rfl, rfl⟩))
    exact ret_blk rfl w.heap.size rfl (Blk.at w (iv [_, _]) _ 30 _ rfl rfl) _ Tryd.underlying30 rfl Tryd.sizeSpan rfl ⟨rfl, below_a1 _ _⟩
  · have hr0 : (r == 0) = false := beq_eq_false_iff_ne.2 h0
    by_cases h01 : r = 1
    · subst h01
      have hd1 := dby_bd (y := max 1 (y - 5)) (by omega) (by omega)
      have hd2 := dby_bd (y := min 2800 (y + 4) + 1) (by omega) (by omega)
      have HO := Lib.hid (made_ok (years_ok (y := max 1 (y - 5)) (z := min 2800 (y + 4)) (by omega) (by omega) (by omega)))
      refine ⟨_, _, HO.out, fun w => ?_⟩
      go_enter Tryd.func27, Tryd.ntmps27
      go_wp2_with (first
        | ((with_reducible refine (HR1.out _).mono ?_); rintro e w1 ⟨rfl, rfl⟩)
        | ((with_reducible refine (HD.out _).mono ?_); rintro e w1 ⟨rfl, rfl⟩; unfold ret4)
        | ((with_reducible refine (HR2.out _).mono ?_); rintro e w1 ⟨rfl, rfl⟩)
        | ((with_reducible refine (rstart_any (max 1 (y - 5)) (by omega) (by omega) _).mono ?_); rintro e w1 ⟨rfl, rfl⟩)
        | ((with_reducible refine (rstart_any (min 2800 (y + 4) + 1) (by omega) (by omega) _).mono ?_); rintro e w1 ⟨rfl, rfl⟩))
      exact ret_blk rfl w.heap.size rfl (Blk.at w (iv [_, _]) _ 30 _ rfl rfl) _ Tryd.underlying30 rfl Tryd.sizeSpan rfl ⟨rfl, below_a1 _ _⟩
    · have hr1 : (r == 1) = false := beq_eq_false_iff_ne.2 h01
      by_cases h02 : r = 2
      · subst h02
        have hex : Ex y m 1 := ⟨y1, y2, m1, m2, by omega, by have := ml_bd y m; omega⟩
        have hml := ml_bd y m
        have hlast := num_bd (y := y) (m := m) (d := ml y m) ⟨y1, y2, m1, m2, by omega, by omega⟩
        have hnb := num_bd hex
        have HO : Hid (vaB (num y m 1) (num y m 1 + ml y m - 1) = true) := Lib.hid (made_ok ⟨hnb.1, by omega, by unfold num at *; omega⟩)
        have HDy : Hid (∀ W, Calls Tryd.prog 13 #[.int .i64 y, .int .i64 m, .int .i64 1] W fun e w' => e = .returned (.tuple #[.int .i64 (num y m 1), .int .i64 0]) ∧ W = w') := Lib.hid fun W => rday_yes y m 1 hex W
        clear hex hlast
        refine ⟨_, _, HO.out, fun w => ?_⟩
        go_enter Tryd.func27, Tryd.ntmps27
        go_wp2_with (first
          | ((with_reducible refine (HR1.out _).mono ?_); rintro e w1 ⟨rfl, rfl⟩)
          | ((with_reducible refine (HD.out _).mono ?_); rintro e w1 ⟨rfl, rfl⟩; unfold ret4)
          | ((with_reducible refine (HR2.out _).mono ?_); rintro e w1 ⟨rfl, rfl⟩)
          | ((with_reducible refine (HDy.out _).mono ?_); rintro e w1 ⟨rfl, rfl⟩)
          | ((with_reducible refine (rlen_any y m y1 (by omega) _).mono ?_); rintro e w1 ⟨rfl, rfl⟩))
        exact ret_blk rfl w.heap.size rfl (Blk.at w (iv [_, _]) _ 30 _ rfl rfl) _ Tryd.underlying30 rfl Tryd.sizeSpan rfl ⟨rfl, below_a1 _ _⟩
      · have hr2 : (r == 2) = false := beq_eq_false_iff_ne.2 h02
        by_cases h03 : r = 3
        · subst h03
          have HO : Hid (vaB (1 + x) (1 + x) = true) := Lib.hid (made_ok ⟨by omega, by omega, by omega⟩)
          refine ⟨_, _, HO.out, fun w => ?_⟩
          go_enter Tryd.func27, Tryd.ntmps27
          go_wp2_with (first
            | ((with_reducible refine (HR1.out _).mono ?_); rintro e w1 ⟨rfl, rfl⟩)
            | ((with_reducible refine (HD.out _).mono ?_); rintro e w1 ⟨rfl, rfl⟩; unfold ret4)
            | ((with_reducible refine (HR2.out _).mono ?_); rintro e w1 ⟨rfl, rfl⟩))
          exact ret_blk rfl w.heap.size rfl (Blk.at w (iv [_, _]) _ 30 _ rfl rfl) _ Tryd.underlying30 rfl Tryd.sizeSpan rfl ⟨rfl, below_a1 _ _⟩
        · have hr3 : (r == 3) = false := beq_eq_false_iff_ne.2 h03
          by_cases h04 : r = 4
          · subst h04
            have hd1 := dby_bd (y := y) y1 (by omega)
            have hd2 := dby_bd (y := min 2800 (y + u) + 1) (by omega) (by omega)
            have HO := Lib.hid (made_ok (years_ok (y := y) (z := min 2800 (y + u)) y1 (by omega) (by omega)))
            refine ⟨_, _, HO.out, fun w => ?_⟩
            go_enter Tryd.func27, Tryd.ntmps27
            go_wp2_with (first
              | ((with_reducible refine (HR1.out _).mono ?_); rintro e w1 ⟨rfl, rfl⟩)
              | ((with_reducible refine (HD.out _).mono ?_); rintro e w1 ⟨rfl, rfl⟩; unfold ret4)
              | ((with_reducible refine (HR2.out _).mono ?_); rintro e w1 ⟨rfl, rfl⟩)
              | ((with_reducible refine (HR3.out _).mono ?_); rintro e w1 ⟨rfl, rfl⟩)
              | ((with_reducible refine (rstart_any (y) (by omega) (by omega) _).mono ?_); rintro e w1 ⟨rfl, rfl⟩)
              | ((with_reducible refine (rstart_any (min 2800 (y + u) + 1) (by omega) (by omega) _).mono ?_); rintro e w1 ⟨rfl, rfl⟩))
            exact ret_blk rfl w.heap.size rfl (Blk.at w (iv [_, _]) _ 30 _ rfl rfl) _ Tryd.underlying30 rfl Tryd.sizeSpan rfl ⟨rfl, below_a1 _ _⟩
          · have hr4 : (r == 4) = false := beq_eq_false_iff_ne.2 h04
            have HO : Hid (vaB (1 + x) (min 1022679 (1 + x + v)) = true) := Lib.hid (made_ok ⟨by omega, by omega, by omega⟩)
            refine ⟨_, _, HO.out, fun w => ?_⟩
            go_enter Tryd.func27, Tryd.ntmps27
            go_wp2_with (first
              | ((with_reducible refine (HR1.out _).mono ?_); rintro e w1 ⟨rfl, rfl⟩)
              | ((with_reducible refine (HD.out _).mono ?_); rintro e w1 ⟨rfl, rfl⟩; unfold ret4)
              | ((with_reducible refine (HR2.out _).mono ?_); rintro e w1 ⟨rfl, rfl⟩)
              | ((with_reducible refine (HR4.out _).mono ?_); rintro e w1 ⟨rfl, rfl⟩))
            exact ret_blk rfl w.heap.size rfl (Blk.at w (iv [_, _]) _ 30 _ rfl rfl) _ Tryd.underlying30 rfl Tryd.sizeSpan rfl ⟨rfl, below_a1 _ _⟩
end Go.Proofs.YtkaaejfochdjcaaDoor
