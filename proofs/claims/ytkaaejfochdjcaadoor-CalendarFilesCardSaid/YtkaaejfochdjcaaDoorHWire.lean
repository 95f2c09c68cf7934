/-
  wire.Bytes and the reference's Bytes, walked (layer 1's texts, for a seat that has no decoder of wire).
-/
import Derived.Test.YtkaaejfochdjcaaDoorWBase2
import Derived.Test.YtkaaejfochdjcaaDoorWEnc2
import Derived.Test.YtkaaejfochdjcaaDoorWGet
import Derived.Test.YtkaaejfochdjcaaDoorWApp
import Derived.Deep.LoopGhost
import Derived.Deep.MidRow
import Derived.ScopeJumps
namespace Go.Proofs.YtkaaejfochdjcaaDoor
open Go.RowKit
set_option linter.unusedVariables false
theorem below_next {w0 w w' : World} (h : Below w0.heap.size w0 w) (k : Below w.heap.size w w') : Below w0.heap.size w0 w' := h.trans (k.mono h.size)
theorem below_a1 (w : World) (o : Obj) : Below w.heap.size w (w.alloc o) := (Below.refl _ _).alloc (Nat.le_refl _) o
theorem below_a2 (w : World) (o o' : Obj) : Below w.heap.size w ((w.alloc o).alloc o') := (below_a1 w o).alloc (by simp) o'
/-! ## both signs together -/

theorem own_mono {w : World} {base base' : Nat} {e : TypeId} {size n : Nat} {v : Value} {xs : List Value} (h : w.ownsRow base e size v n xs) (hb : base' ≤ base) : w.ownsRow base' e size v n xs := by
  refine ⟨h.1, ?_⟩
  rcases h.2 with h | ⟨g, cap, cur, hv, hg, r⟩
  · exact .inl h
  · exact .inr ⟨g, cap, cur, hv, Nat.le_trans hb hg, r⟩
theorem rd_cells0 {w : World} {A : Option Addr} {l : List UInt8} (h : Rd w A (bs l)) (i : Nat) (hi : i < l.length) : ∃ b o, A = some ⟨b, o, none⟩ ∧ w.cell? ⟨b, o + i, none⟩ = some (.int .u8 l[i].toNat) := by
  obtain ⟨b, o, e, hc⟩ := h.open (by intro e; have := congrArg List.length e; rw [bs_length, List.length_nil] at this; omega)
  exact ⟨b, o, e, hc i _ (bs_get hi)⟩

theorem conv_back {P : Program} {src dst e : TypeId} (hs : P.underlying src = some .string) (hd : P.underlying dst = some (.slice e)) (he : P.underlying e = some (.int .u8)) (w : World) (s : ByteArray) :
    ∃ c w', (convert src dst (.string s)).run P w = .ok (.slice (some ⟨w.heap.size, 0, none⟩) s.size c) w' ∧ Rd w' (some ⟨w.heap.size, 0, none⟩) (bs s.data.toList) ∧ Below w.heap.size w w' := by
  refine ⟨_, _, run_bytes_of_string w src dst e s hs hd he, ?_, ⟨rfl, rfl, rfl, by simp, fun k hk => Below.heap_alloc w.drew _ k hk⟩⟩
  refine .inr ⟨w.heap.size, 0, rfl, fun k v hv => ?_⟩
  have hk : k < s.data.size := by have := (List.getElem?_eq_some_iff.1 hv).1; rw [bs_length] at this; simpa using this
  have hcell : (w.drew.alloc (.cells (bytesRow s (grownCap w s.size 0 e)) e ((bytesRow s (grownCap w s.size 0 e)).size, (bytesRow s (grownCap w s.size 0 e)).size + 1))).cell? ⟨w.heap.size, 0 + k, none⟩ = (bytesRow s (grownCap w s.size 0 e))[0 + k]? :=
    cell_of_row _ w.heap.size (0 + k) _ e _ (heap_alloc_new w.drew _)
  rw [hcell]
  unfold bytesRow
  rw [Nat.zero_add, Array.getElem?_append_left (by simpa using hk)]
  simpa [bs, by8] using hv

end Go.Proofs.YtkaaejfochdjcaaDoor
