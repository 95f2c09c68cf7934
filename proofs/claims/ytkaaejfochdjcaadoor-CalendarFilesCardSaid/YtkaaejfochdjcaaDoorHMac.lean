/-
  The walk of hash.Mac.
-/
import Derived.Test.YtkaaejfochdjcaaDoorHMask
namespace Go.Proofs.YtkaaejfochdjcaaDoor
open Go.RowKit
set_option linter.unusedVariables false
namespace Sha
/-- The key that counts. -/
def ekey (k : List UInt8) : List UInt8 := if 64 < k.length then sha k else k
theorem sha_length (m : List UInt8) : (sha m).length = 32 := by rw [sha, outb_length]
theorem ekey_length (k : List UInt8) : (ekey k).length ≤ 64 := by
  unfold ekey
  split
  · rw [sha_length]; omega
  · omega
def mac (k t : List UInt8) : List UInt8 := sha (mask (ekey k) 92 ++ sha (mask (ekey k) 54 ++ t))
attribute [irreducible] ekey mac
end Sha
open Sha
theorem begin_add (m : List UInt8) (h : m.length < 4611686018427387904) (W : World) (hk : KH W) : Calls Tryd.prog 61 #[.agg (Str []).toArray, .string (sb m)] W fun e w' => e = .returned (.agg (Str m).toArray) ∧ Below W.heap.size W w' := add_any [] m (by simpa using h) W hk

theorem conv_blk {W : World} {B n : Nat} {l : List UInt8} {T : TypeId} (c : Nat) (h : Blk W B (bs l) T) (hn : n = l.length) : (convert 53 9 (.slice (some ⟨B, 0, none⟩) n c)).run Tryd.prog W = .ok (.string (sb l)) W :=
  conv_sb c hn (.inr ⟨_, 0, rfl, fun j v hv => by rw [Nat.zero_add]; exact h.cell hv⟩)
theorem sl24_blk {W : World} {B : Nat} {C : List Value} {T : TypeId} (h : Blk W B C T) (w' : World) : (Instr.sliceAt 91 (.pointer (some ⟨B, 0, none⟩)) none none none).run Tryd.prog w' = .ok (.slice (some ⟨B, 0, none⟩) 32 32) w' :=
  slice_arr_all (P := Tryd.prog) (t := 91) Tryd.underlying91 Tryd.size1 B 0 w'
theorem stored32 {W : World} {B : Nat} {T : TypeId} {R : List UInt8} (h : Blk W B (bs (List.replicate 32 0)) T) (hR : (bs R).length = 32) : Stored W (W.setCells B 0 (bs R)) B (bs R) T := by
  have := Stored.of_setCells h 0 (bs R) (by rw [hR, bs_length, List.length_replicate]; omega)
  rw [List.take_zero, List.nil_append, List.drop_of_length_le (by rw [hR, bs_length, List.length_replicate]; omega), List.append_nil] at this
  exact this
/-- A new array of 32 bytes. -/
def Nw (w v : World) (B : Nat) : Prop := w.heap.size ≤ B ∧ Blk v B (bs (List.replicate 32 0)) 91
theorem Nw.step {w v v' : World} {B : Nat} (h : Nw w v B) (hb : Below v.heap.size v v') : Nw w v' B := ⟨h.1, h.2.below hb h.2.lt⟩
theorem Nw.new {w v : World} (h : Below w.heap.size w v) : Nw w (v.alloc (.cells #[.int .u8 0, .int .u8 0, .int .u8 0, .int .u8 0, .int .u8 0, .int .u8 0, .int .u8 0, .int .u8 0, .int .u8 0, .int .u8 0, .int .u8 0, .int .u8 0, .int .u8 0, .int .u8 0, .int .u8 0, .int .u8 0, .int .u8 0, .int .u8 0, .int .u8 0, .int .u8 0, .int .u8 0, .int .u8 0, .int .u8 0, .int .u8 0, .int .u8 0, .int .u8 0, .int .u8 0, .int .u8 0, .int .u8 0, .int .u8 0, .int .u8 0, .int .u8 0] 91)) v.heap.size := ⟨h.size, Blk.new' v _ _ _ rfl⟩
theorem Nw.new0 (w : World) : Nw w (w.drew.alloc (.cells #[.int .u8 0, .int .u8 0, .int .u8 0, .int .u8 0, .int .u8 0, .int .u8 0, .int .u8 0, .int .u8 0, .int .u8 0, .int .u8 0, .int .u8 0, .int .u8 0, .int .u8 0, .int .u8 0, .int .u8 0, .int .u8 0, .int .u8 0, .int .u8 0, .int .u8 0, .int .u8 0, .int .u8 0, .int .u8 0, .int .u8 0, .int .u8 0, .int .u8 0, .int .u8 0, .int .u8 0, .int .u8 0, .int .u8 0, .int .u8 0, .int .u8 0, .int .u8 0] 91)) w.heap.size := ⟨Nat.le_refl _, Blk.new' w.drew _ _ _ rfl⟩

end Go.Proofs.YtkaaejfochdjcaaDoor
