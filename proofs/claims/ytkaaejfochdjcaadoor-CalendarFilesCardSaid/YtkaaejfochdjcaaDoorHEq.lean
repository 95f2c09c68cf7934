/-
  The walk of hash.Equal.
-/
import Derived.Test.YtkaaejfochdjcaaDoorHMac
namespace Go.Proofs.YtkaaejfochdjcaaDoor
open Go.RowKit
set_option linter.unusedVariables false
namespace Sha
def dif (a b : List UInt8) : Nat → UInt8
  | 0 => 0
  | i + 1 => dif a b i ||| (a.getD i 0 ^^^ b.getD i 0)
theorem dif_zero (a b : List UInt8) : dif a b 0 = 0 := rfl
theorem dif_succ (a b : List UInt8) (i : Nat) : dif a b (i + 1) = dif a b i ||| (a.getD i 0 ^^^ b.getD i 0) := rfl
theorem dif_iff (a b : List UInt8) : ∀ n, dif a b n = 0 ↔ ∀ i, i < n → a.getD i 0 = b.getD i 0
  | 0 => by simp [dif]
  | n + 1 => by
    rw [dif, UInt8.or_eq_zero_iff, UInt8.xor_eq_zero_iff, dif_iff a b n]
    constructor
    · rintro ⟨h1, h2⟩ i hi
      by_cases h : i < n
      · exact h1 i h
      · obtain rfl : i = n := by omega
        exact h2
    · exact fun h => ⟨fun i hi => h i (by omega), h n (by omega)⟩
/-- Are they the same? -/
def eqB (a b : List UInt8) : Bool := a == b
theorem eqB_iff (a b : List UInt8) : eqB a b = true ↔ a = b := by simp [eqB]
theorem eqB_len {a b : List UInt8} (h : a.length ≠ b.length) : eqB a b = false := by
  cases he : eqB a b with
  | false => rfl
  | true => exact absurd (congrArg List.length ((eqB_iff a b).1 he)) h
theorem eqB_dif {a b : List UInt8} (h : a.length = b.length) : eqB a b = (dif a b a.length == 0) := by
  rw [Bool.eq_iff_iff, eqB_iff, beq_iff_eq, dif_iff]
  constructor
  · rintro rfl i _
    rfl
  · intro hi
    apply List.ext_getElem h
    intro i h1 h2
    have := hi i h1
    simpa [List.getD, h1, h2] using this
theorem eqB_refl (a : List UInt8) : eqB a a = true := (eqB_iff a a).2 rfl
theorem eqB_comm (a b : List UInt8) : eqB a b = eqB b a := by rw [Bool.eq_iff_iff, eqB_iff, eqB_iff]; exact ⟨Eq.symm, Eq.symm⟩
attribute [irreducible] dif eqB
end Sha
open Sha
theorem or_b (x y : UInt8) : bits .or .u8 (x.toNat : Int) (y.toNat : Int) = ((x ||| y).toNat : Int) := by
  have hx := x.toNat_lt
  have hy := y.toNat_lt
  have h8 : ∀ n : Nat, n < 256 → BitVec.ofInt 8 (n : Int) = BitVec.ofNat 8 n := fun n _ => by apply BitVec.eq_of_toNat_eq; simp
  show IntKind.u8.wrap ((BitVec.ofInt 8 (x.toNat : Int) ||| BitVec.ofInt 8 (y.toNat : Int)).toNat : Int) = _
  have e : (BitVec.ofInt 8 (x.toNat : Int) ||| BitVec.ofInt 8 (y.toNat : Int)).toNat = (x ||| y).toNat := by
    rw [h8 _ hx, h8 _ hy]
    simp
  rw [e, IntKind.wrap_u8]
  have := (x ||| y).toNat_lt
  omega
/-- A byte of a string. -/
theorem index_sb {P : Program} {t : TypeId} (hu : P.underlying t = some .string) (l : List UInt8) (k : IntKind) (i : Nat) (hi : i < l.length) (w : World) :
    (Instr.index t (.string (sb l)) (.int k (i : Int))).run P w = .ok (.int .u8 (l.getD i 0).toNat) w := by
  have h : (sb l)[i]? = some (l.getD i 0) := by
    show (if h : i < (sb l).size then some ((sb l)[i]) else none) = _
    rw [dif_pos (by rw [sb_size]; exact hi)]
    congr 1
    show (sb l).data[i] = _
    simp [sb, List.getD, hi]
  simp [Instr.index, run_underlying hu, asIntOf, h]

end Go.Proofs.YtkaaejfochdjcaaDoor
