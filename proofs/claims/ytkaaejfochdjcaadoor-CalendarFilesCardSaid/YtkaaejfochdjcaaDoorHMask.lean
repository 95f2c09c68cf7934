/-
  The walk of hash.masked.
-/
import Derived.Test.YtkaaejfochdjcaaDoorHSumB
namespace Go.Proofs.YtkaaejfochdjcaaDoor
open Go.RowKit
set_option linter.unusedVariables false
namespace Sha
/-- A key of at most one block, filled up by zeros. -/
def fill (k : List UInt8) : List UInt8 := k ++ List.replicate (64 - k.length) 0
def mask (k : List UInt8) (x : UInt8) : List UInt8 := (fill k).map (· ^^^ x)
theorem fill_length (k : List UInt8) (h : k.length ≤ 64) : (fill k).length = 64 := by simp [fill]; omega
theorem mask_length (k : List UInt8) (x : UInt8) (h : k.length ≤ 64) : (mask k x).length = 64 := by rw [mask, List.length_map, fill_length k h]
/-- The first i bytes are combined. -/
def msk (i : Nat) (F : List UInt8) (x : UInt8) : List UInt8 := (F.take i).map (· ^^^ x) ++ F.drop i
theorem msk_zero (F : List UInt8) (x : UInt8) : msk 0 F x = F := by simp [msk]
theorem msk_length (i : Nat) (F : List UInt8) (x : UInt8) : (msk i F x).length = F.length := by simp [msk]; omega
theorem msk_get (i : Nat) (F : List UInt8) (x : UInt8) (h : i < F.length) : (msk i F x).getD i 0 = F.getD i 0 := by
  simp [msk, List.getD, List.getElem?_append_right, Nat.min_eq_left (Nat.le_of_lt h)]
theorem msk_set (i : Nat) (F : List UInt8) (x : UInt8) (h : i < F.length) : (msk i F x).set i (F.getD i 0 ^^^ x) = msk (i + 1) F x := by
  have e2 : F.drop i = F[i] :: F.drop (i + 1) := List.drop_eq_getElem_cons h
  unfold msk
  rw [List.set_append_right _ _ (by simp; omega), e2, List.take_succ_eq_append_getElem h]
  have e3 : i - ((F.take i).map (· ^^^ x)).length = 0 := by simp; omega
  have e4 : F.getD i 0 = F[i] := by simp [List.getD, h]
  rw [e3, List.set_cons_zero, e4, List.map_append, List.append_assoc]
  rfl
theorem msk_all (F : List UInt8) (x : UInt8) : msk F.length F x = F.map (· ^^^ x) := by simp [msk]
attribute [irreducible] fill mask msk
end Sha
open Sha
theorem xor_b (x y : UInt8) : bits .xor .u8 (x.toNat : Int) (y.toNat : Int) = ((x ^^^ y).toNat : Int) := by
  have hx := x.toNat_lt
  have hy := y.toNat_lt
  have h8 : ∀ n : Nat, n < 256 → BitVec.ofInt 8 (n : Int) = BitVec.ofNat 8 n := fun n _ => by apply BitVec.eq_of_toNat_eq; simp
  show IntKind.u8.wrap ((BitVec.ofInt 8 (x.toNat : Int) ^^^ BitVec.ofInt 8 (y.toNat : Int)).toNat : Int) = _
  have e : (BitVec.ofInt 8 (x.toNat : Int) ^^^ BitVec.ofInt 8 (y.toNat : Int)).toNat = (x ^^^ y).toNat := by
    rw [h8 _ hx, h8 _ hy]
    simp
  rw [e, IntKind.wrap_u8]
  have := (x ^^^ y).toNat_lt
  omega
theorem slice_arr_all {P : Program} {t e : TypeId} {n : Nat} (hu : P.underlying t = some (.array n e)) (hs : (P.info? e).map (·.size) = some 1) (b o : Nat) (w : World) :
    (Instr.sliceAt t (.pointer (some ⟨b, o, none⟩)) none none none).run P w = .ok (.slice (some ⟨b, o, none⟩) n n) w := by
  cases hq : P.info? e with
  | none => simp [hq] at hs
  | some i => simp [Instr.sliceAt, Instr.sureAddr, run_underlying hu, Instr.sliceBounds, sizeOf, typeInfo, hq, Addr.add_mid]

end Go.Proofs.YtkaaejfochdjcaaDoor
