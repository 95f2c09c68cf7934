/-
  The words of layer 4's walks: the two tables that its functions read (the lengths of the months; strconv's powers of ten), as facts on the world, kept by whatever leaves what was there as it was.
-/
import Derived.Test.YtkaaejfochdjcaaDoorHMem
import Derived.Test.YtkaaejfochdjcaaDoorCPure
import Derived.IntWalk
import Derived.Lib.LaidTab
import Derived.Lib.ItoaNum
namespace Go.Proofs.YtkaaejfochdjcaaDoor
open Go.RowKit
set_option linter.unusedVariables false

open Cal
/-- The lengths of the months lie in their table. -/
def MD (w : World) : Prop := (∀ k : Nat, k < 12 → w.cell? ⟨0, k, none⟩ = some (.int .i64 (mds.getD k 0))) ∧ 0 < w.heap.size
/-- The powers of ten lie in theirs. -/
def PT (w : World) : Prop := Lib.TabIs Tryd.prog w "internal/strconv.uint64pow10" .u64 Lib.pow10Tab
def KC (w : World) : Prop := MD w ∧ PT w ∧ 2 < w.heap.size
theorem MD.below {w w' : World} (h : MD w) (hb : Below w.heap.size w w') : MD w' :=
  ⟨fun k hk => (hb.cell (p := ⟨0, k, none⟩) h.2).trans (h.1 k hk), Nat.lt_of_lt_of_le h.2 hb.size⟩
theorem Tryd.gPow : Tryd.prog.globalNamed "internal/strconv.uint64pow10" = some 2 := by kernel_rfl
theorem var_below {w w' : World} {name : String} {g : Nat} (hg : Tryd.prog.globalNamed name = some g) (hlt : g < w.heap.size) (hb : Below w.heap.size w w') : w'.var? Tryd.prog name = w.var? Tryd.prog name := by
  unfold World.var?
  rw [hg]
  simp only [Option.bind_some]
  rw [hb.block g hlt]
theorem KC.below {w w' : World} (h : KC w) (hb : Below w.heap.size w w') : KC w' :=
  ⟨h.1.below hb, by unfold PT Lib.TabIs; rw [var_below Tryd.gPow h.2.2 hb]; exact h.2.1, Nat.lt_of_lt_of_le h.2.2 hb.size⟩
theorem KC.of {w0 w w' : World} (h : KC w) (hb : Below w.heap.size w w') : KC w' := h.below hb
theorem KC.alloc {w : World} (h : KC w) (o : Obj) : KC (w.alloc o) := h.below ((Below.refl _ _).alloc (Nat.le_refl _) o)
theorem MD.drewN {w : World} (h : MD w) (n : Nat) : MD (w.drewN n) := h
theorem KC.drewN {w : World} (h : KC w) (n : Nat) : KC (w.drewN n) := h.below ⟨rfl, rfl, rfl, Nat.le_refl _, fun _ _ => rfl⟩

namespace Cal
theorem ret_bool {a b : Bool} (h : a = b) : Ending.returned (.bool a) = .returned (.bool b) := by rw [h]
theorem ret_int {k : IntKind} {a b : Int} (h : a = b) : Ending.returned (.int k a) = .returned (.int k b) := by rw [h]
end Cal
end Go.Proofs.YtkaaejfochdjcaaDoor
