/-
  The two listed tables together: what the laws with the reference's Sum ask.
-/
import Derived.Test.YtbgcnfikcddcpaaDoorHLaw
import Derived.Test.YtbgcnfikcddcpaaDoorHRSum
namespace Go.Proofs.YtbgcnfikcddcpaaDoor
open Go.ChangeShapes Go.WideShapes Go.ChangeAt Go.RowKit
open Sha
set_option linter.unusedVariables false
theorem Tryd.gR : Tryd.prog.globalNamed "wordbook/wordbookref02.constants" = some 0 := by kernel_rfl
theorem Tryd.tR : (Tryd.prog.globals[0]?).map (·.type) = some 111 := by kernel_rfl
theorem laid_R : (Rows.laid_wordbook_wordbookref02_constants : DataW Unit) = .agg (K.map fun u => .lit (.int .u32 u.toNat)) := by kernel_rfl
def laid2 : List (String × DataW Unit) := [("wordbook/hash.roundConstants", Rows.laid_wordbook_hash_roundConstants), ("wordbook/wordbookref02.constants", Rows.laid_wordbook_wordbookref02_constants)]
theorem of_laid2 {W : World} (h : laidMetH Tryd.prog laid2 W) : KH W ∧ KR W := by
  rw [MakeChecks.laidMetH_plain _ _ _ (by kernel_rfl)] at h
  obtain ⟨ps, ⟨g0, t0, cs0, f0, p0, q0, hg0, ht0, hv0, hd0, ⟨g1, t1, cs1, f1, p1, q1, hg1, ht1, hv1, hd1, _, _⟩, _⟩, _, _⟩ := h
  obtain rfl := Option.some.inj (Tryd.gK.symm.trans hg0)
  obtain rfl := Option.some.inj (Tryd.tK.symm.trans ht0)
  obtain rfl := Option.some.inj (Tryd.gR.symm.trans hg1)
  obtain rfl := Option.some.inj (Tryd.tR.symm.trans ht1)
  rw [laid_K] at hd0
  rw [laid_R] at hd1
  exact ⟨kh_of (table_range K Tryd.gK Tryd.underlying111 Tryd.underlying89 Tryd.c29 hv0 hd0) (by rw [K_length]; omega), kh_of (table_range K Tryd.gR Tryd.underlying111 Tryd.underlying89 Tryd.c29 hv1 hd1) (by rw [K_length]; omega)⟩
theorem door_met2 (os : Os) (args : Array Value) : laidMetH Tryd.prog laid2 ((World.doorLaid Tryd.prog 400 os).forCall (fun _ _ => 0) ⟨#[], args, []⟩).memory :=
  laidMetH_of_parts3 (fuel := 8) (laidMet_of_run' 8 (by kernel_rfl) (by kernel_rfl)) (by kernel_rfl) (by kernel_rfl)
end Go.Proofs.YtbgcnfikcddcpaaDoor
