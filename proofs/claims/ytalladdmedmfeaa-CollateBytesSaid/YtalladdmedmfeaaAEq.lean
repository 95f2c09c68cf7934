/-
  slices.Equal at numbers; the reference's SameInts.
-/
import Derived.Test.YtalladdmedmfeaaARead
import Derived.Test.YtalladdmedmfeaaKTool
namespace Go.Proofs.Ytalladdmedmfeaa
open Go.RowKit
open Alp
set_option linter.unusedVariables false
set_option linter.unusedSimpArgs false

set_option maxRecDepth 100000 in
set_option maxHeartbeats 1000000 in
theorem same_lens (A1 A2 : Option Addr) (n1 n2 c1 c2 : Nat) (h : n1 ≠ n2) (w : World) : Calls Try.prog 17 #[.slice A1 n1 c1, .slice A2 n2 c2] w (BoolB w false) := by
  have hne : ((n1 : Int) != (n2 : Int)) = true := bne_iff_ne.2 (by omega)
  clear h
  go_enter Try.func17, Try.ntmps17
  go_wp2_with fail
  go_ret
  exact ⟨rfl, Below.refl _ _⟩
set_option maxRecDepth 100000 in
set_option maxHeartbeats 1000000 in
theorem same_aux (l1 l2 : List Int) (n : Nat) (h1 : n = l1.length) (h2 : n = l2.length) (hm : n ≤ maxLen) (V : Bool) (hV : V = decide (l1 = l2)) (A1 A2 : Option Addr) (c1 c2 : Nat) (b1 o1 b2 o2 : Nat) (w : World)
    (hA : n = 0 ∨ ((A1 = some ⟨b1, o1, none⟩ ∧ IL w b1 o1 l1) ∧ (A2 = some ⟨b2, o2, none⟩ ∧ IL w b2 o2 l2))) : Calls Try.prog 17 #[.slice A1 n c1, .slice A2 n c2] w (BoolB w V) := by
  have hm' : n ≤ 9223372036854775807 := by unfold maxLen at hm; omega
  have hnn : ((n : Int) != (n : Int)) = false := by simp
  have HN := Lib.hid (And.intro h1 h2)
  have HV := Lib.hid hV
  have HA := Lib.hid hA
  clear h1 h2 hV hA
  go_enter Try.func17, Try.ntmps17
  go_wp2_with fail
  go_loopg [5] n (fun g s5 wr => ∃ (k q : Nat), k + g = n ∧ s5 = .int .i64 (k : Int) ∧ Hid (∀ j, j < k → l1.getD j 0 = l2.getD j 0) ∧ wr = w.drewN q)
  case atStart => exact ⟨0, 0, by omega, rfl, Lib.hid fun j h => by omega, rfl⟩
  case round =>
    obtain ⟨k, q, hk, rfl, HI, rfl⟩ := hrel
    by_cases hlt : k < n
    · obtain ⟨g, rfl⟩ : ∃ g, gk = g + 1 := ⟨gk - 1, by omega⟩
      obtain ⟨⟨rfl, hi1⟩, ⟨rfl, hi2⟩⟩ : (A1 = some ⟨b1, o1, none⟩ ∧ IL w b1 o1 l1) ∧ (A2 = some ⟨b2, o2, none⟩ ∧ IL w b2 o2 l2) := by
        rcases HA.out with h | h
        · omega
        · exact h
      obtain ⟨x, hx⟩ : ∃ x, x = l1.getD k 0 := ⟨_, rfl⟩
      obtain ⟨y, hy⟩ : ∃ y, y = l2.getD k 0 := ⟨_, rfl⟩
      have hcx : w.cell? ⟨b1, o1 + k, none⟩ = some (.int .i64 x) := hi1.at (Below.refl _ _) (by rw [← HN.out.1]; exact hlt) hx
      have hcy : w.cell? ⟨b2, o2 + k, none⟩ = some (.int .i64 y) := hi2.at (Below.refl _ _) (by rw [← HN.out.2]; exact hlt) hy
      have HX := Lib.hid hx
      have HY := Lib.hid hy
      clear hx hy hi1 hi2
      by_cases he : x = y
      · subst he
        have hxx : (x != x) = false := by simp
        go_wp2_with fail
        go_quiet (fail)
        go_wp2_with fail
        go_roundg g
        case rel => exact ⟨k + 1, _, by omega, by go_num, Lib.hid fun j hj => by
          rcases Nat.lt_or_ge j k with h | h
          · exact HI.out j h
          · obtain rfl : j = k := by omega
            rw [← HX.out, ← HY.out], rfl⟩
        case measure => omega
      · have hxx : (x != y) = true := bne_iff_ne.2 he
        have HE : Hid (V = false) := Lib.hid (by
          rw [HV.out]
          exact decide_eq_false fun e => he (by rw [HX.out, HY.out, e]))
        clear he
        go_wp2_with fail
        go_quiet (fail)
        go_wp2_with fail
        go_ret
        exact ⟨ret_bool HE.out.symm, below_drewN (below_drewN (Below.refl _ _) _) _⟩
    · obtain rfl : k = n := by omega
      have HE : Hid (V = true) := Lib.hid (by
        rw [HV.out]
        refine decide_eq_true (List.ext_getElem (by rw [← HN.out.1, ← HN.out.2]) fun i hi1 hi2 => ?_)
        have := HI.out i (by rw [HN.out.1]; exact hi1)
        simpa [List.getD, hi1, hi2] using this)
      go_wp2_with fail
      go_ret
      exact ⟨ret_bool HE.out.symm, below_drewN (Below.refl _ _) _⟩
theorem same_any (l1 l2 : List Int) (A1 A2 : Option Addr) (n1 n2 c1 c2 : Nat) (h1 : n1 = l1.length) (h2 : n2 = l2.length) (hm : n1 ≤ maxLen) (V : Bool) (hV : V = decide (l1 = l2)) (w : World) (hr1 : Rd w A1 (iv l1)) (hr2 : Rd w A2 (iv l2)) :
    Calls Try.prog 17 #[.slice A1 n1 c1, .slice A2 n2 c2] w (BoolB w V) := by
  by_cases hne : n1 = n2
  · subst hne
    by_cases h0 : n1 = 0
    · exact same_aux l1 l2 n1 h1 h2 hm V hV A1 A2 c1 c2 0 0 0 0 w (.inl h0)
    · obtain ⟨b1, o1, e1, i1⟩ := il_open hr1 (by intro e; subst e; exact h0 h1)
      obtain ⟨b2, o2, e2, i2⟩ := il_open hr2 (by intro e; subst e; exact h0 h2)
      exact same_aux l1 l2 n1 h1 h2 hm V hV A1 A2 c1 c2 b1 o1 b2 o2 w (.inr ⟨⟨e1, i1⟩, ⟨e2, i2⟩⟩)
  · have : V = false := by
      rw [hV]
      exact decide_eq_false fun e => hne (by rw [h1, h2, e])
    subst this
    exact same_lens A1 A2 n1 n2 c1 c2 hne w
end Go.Proofs.Ytalladdmedmfeaa
