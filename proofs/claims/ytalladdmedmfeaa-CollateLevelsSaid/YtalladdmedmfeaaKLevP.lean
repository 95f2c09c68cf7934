/-
  Levels and folded letters.
-/
import Derived.Test.YtalladdmedmfeaaKRange
import Derived.Test.YtalladdmedmfeaaAFold
namespace Go.Proofs.Ytalladdmedmfeaa
open Go.RowKit
open Alp
namespace Col
set_option linter.unusedVariables false
set_option linter.unusedSimpArgs false

/-- A letter's base is a letter that is its own base, without mark and case. -/
theorem base_own {L : List Lt} (hv : valP L = true) {x : Int} (h : 0 ≤ x ∧ x < (L.length : Int)) : (0 ≤ num L 0 x ∧ num L 0 x < (L.length : Int)) ∧ num L 0 (num L 0 x) = num L 0 x ∧ num L 1 (num L 0 x) = 0 ∧ num L 2 (num L 0 x) = 0 := by
  obtain ⟨_, ⟨h1, h2⟩, h3, _⟩ := (lok_iff _ _ _).1 (((valP_iff L).1 hv).2.2.1 x.toNat (by omega))
  have hb := ((valP_iff L).1 hv).2.2.1 (L.getD x.toNat z).base.toNat (by omega)
  obtain ⟨_, _, _, _, _, _, h4⟩ := (lok_iff _ _ _).1 hb
  have h5 : (L.getD (L.getD x.toNat z).base.toNat z).base = ((L.getD x.toNat z).base.toNat : Int) := by rw [h3]; omega
  rcases h4 with h4 | ⟨h4, h6⟩
  · exact absurd h5 h4
  · exact ⟨⟨h1, h2⟩, h3, h4, h6⟩
theorem num_nn {L : List Lt} (hv : valP L = true) {x : Int} (h : 0 ≤ x ∧ x < (L.length : Int)) : 0 ≤ num L 1 x ∧ 0 ≤ num L 2 x := by
  obtain ⟨_, _, _, ⟨h1, _⟩, ⟨h2, _⟩, _⟩ := (lok_iff _ _ _).1 (((valP_iff L).1 hv).2.2.1 x.toNat (by omega))
  exact ⟨h1, h2⟩
theorem lev0_in {L : List Lt} (hv : valP L = true) (w : List Int) : ∀ x ∈ lev L 0 w, 0 ≤ x ∧ x < (L.length : Int) := fun x hx => by
  obtain ⟨y, hy, rfl⟩ := List.mem_map.1 hx
  exact (base_own hv (ltr_mem hy)).1
theorem fold_lev {L : List Lt} (hv : valP L = true) (w : List Int) : foldP L (lev L 3 w) = lev L 0 w := by
  rw [foldP_yes hv, lev3]
  unfold lev
  refine List.map_congr_left fun x hx => ?_
  unfold foldE
  rw [if_pos (ltr_mem hx)]
  rfl
theorem lev_fold {L : List Lt} (hv : valP L = true) (w : List Int) : lev L 0 (lev L 0 w) = lev L 0 w := by
  rw [lev_eq (lev0_in hv w)]
  conv => lhs; unfold lev
  rw [List.map_map]
  unfold lev
  exact List.map_congr_left fun x hx => (base_own hv (ltr_mem hx)).2.1
theorem lev_zero {L : List Lt} (hv : valP L = true) (w : List Int) : lev L 1 (lev L 0 w) = (ltr L.length w).map (fun _ => 0) ∧ lev L 2 (lev L 0 w) = (ltr L.length w).map (fun _ => 0) := by
  constructor
  · rw [lev_eq (lev0_in hv w)]
    unfold lev
    rw [List.map_map]
    exact List.map_congr_left fun x hx => (base_own hv (ltr_mem hx)).2.2.1
  · rw [lev_eq (lev0_in hv w)]
    unfold lev
    rw [List.map_map]
    exact List.map_congr_left fun x hx => (base_own hv (ltr_mem hx)).2.2.2
theorem cmpL_zero (f : Int → Int) : ∀ (l : List Int), (∀ x ∈ l, 0 ≤ f x) → cmpL (l.map fun _ => 0) (l.map f) ≤ 0
  | [], _ => by simp [cmpL]
  | x :: t, h => by
    have h1 := h x (List.mem_cons_self ..)
    have h2 := cmpL_zero f t fun y hy => h y (List.mem_cons_of_mem _ hy)
    simp only [List.map_cons, cmpL]
    split
    · omega
    · rw [if_neg (by omega)]
      exact h2
/-- A word's folded letters are not greater than it, or they are equal up to level 3. -/
theorem fold_le {L : List Lt} (hv : valP L = true) (w : List Int) : cmpU L (lev L 0 w) w 0 4 ≤ 0 ∨ cmpU L (lev L 0 w) w 0 3 = 0 := by
  have e0 : cmpL (lev L 0 (lev L 0 w)) (lev L 0 w) = 0 := cmpL_eq.2 (lev_fold hv w)
  have e1 : cmpL (lev L 1 (lev L 0 w)) (lev L 1 w) ≤ 0 := by
    rw [(lev_zero hv w).1]
    exact cmpL_zero _ _ fun x hx => (num_nn hv (ltr_mem hx)).1
  have e2 : cmpL (lev L 2 (lev L 0 w)) (lev L 2 w) ≤ 0 := by
    rw [(lev_zero hv w).2]
    exact cmpL_zero _ _ fun x hx => (num_nn hv (ltr_mem hx)).2
  rw [cmpU_succ, if_pos e0, cmpU_succ L _ _ 0 2, if_pos e0, cmpU_succ L _ _ 1 2, cmpU_succ L _ _ 1 1]
  by_cases h1 : cmpL (lev L 1 (lev L 0 w)) (lev L 1 w) = 0
  · rw [if_pos h1, if_pos h1, cmpU_succ L _ _ 2 1, cmpU_succ L _ _ 2 0]
    by_cases h2 : cmpL (lev L 2 (lev L 0 w)) (lev L 2 w) = 0
    · right
      rw [if_pos h2]; rfl
    · left
      rw [if_neg h2]; exact e2
  · left
    rw [if_neg h1]; exact e1
theorem cmp_one (L : List Lt) (v w : List Int) : cmpU L v w 0 1 = 0 ↔ lev L 0 v = lev L 0 w := by
  rw [cmpU_zero]
  exact ⟨fun h => h 0 (by omega), fun h i hi => by obtain rfl : i = 0 := by omega
                                                   exact h⟩
theorem cmp_lower (L : List Lt) (v w : List Int) {n m : Nat} (hm : m ≤ n) (h : cmpU L v w 0 n = 0) : cmpU L v w 0 m = 0 := cmpU_zero.2 fun i hi => cmpU_zero.1 h i (by omega)
end Col
end Go.Proofs.Ytalladdmedmfeaa
