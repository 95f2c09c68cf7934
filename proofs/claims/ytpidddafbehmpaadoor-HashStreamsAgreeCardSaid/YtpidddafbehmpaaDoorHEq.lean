/-
  The walk of hash.Equal.
-/
import Derived.Test.YtpidddafbehmpaaDoorHMac
namespace Go.Proofs.YtpidddafbehmpaaDoor
open Go.RowKit
set_option linter.unusedVariables false
namespace Sha
def dif (a b : List UInt8) : Nat → UInt8
  | 0 => 0
  | i + 1 => dif a b i ||| (a.getD i 0 ^^^ b.getD i 0)
theorem dif_zero (a b : List UInt8) : dif a b 0 = 0 := rfl
theorem dif_succ (a b : List UInt8) (i : Nat) : dif a b (i + 1) = dif a b i ||| (a.getD i 0 ^^^ b.getD i 0) := rfl
theorem dif_iff (a b : List UInt8) : ∀ n, dif a b n = 0 ↔ ∀ i, i < n → a.getD i 0 = b.getD i 0
  | 0 => by simp [dif]
  | n + 1 => by
    rw [dif, UInt8.or_eq_zero_iff, UInt8.xor_eq_zero_iff, dif_iff a b n]
    constructor
    · rintro ⟨h1, h2⟩ i hi
      by_cases h : i < n
      · exact h1 i h
      · obtain rfl : i = n := by omega
        exact h2
    · exact fun h => ⟨fun i hi => h i (by omega), h n (by omega)⟩
/-- Are they the same? -/
def eqB (a b : List UInt8) : Bool := a == b
theorem eqB_iff (a b : List UInt8) : eqB a b = true ↔ a = b := by simp [eqB]
theorem eqB_len {a b : List UInt8} (h : a.length ≠ b.length) : eqB a b = false := by
  cases he : eqB a b with
  | false => rfl
  | true => exact absurd (congrArg List.length ((eqB_iff a b).1 he)) h
theorem eqB_dif {a b : List UInt8} (h : a.length = b.length) : eqB a b = (dif a b a.length == 0) := by
  rw [Bool.eq_iff_iff, eqB_iff, beq_iff_eq, dif_iff]
  constructor
  · rintro rfl i _
    rfl
  · intro hi
    apply List.ext_getElem h
    intro i h1 h2
    have := hi i h1
    simpa [List.getD, h1, h2] using this
theorem eqB_refl (a : List UInt8) : eqB a a = true := (eqB_iff a a).2 rfl
theorem eqB_comm (a b : List UInt8) : eqB a b = eqB b a := by rw [Bool.eq_iff_iff, eqB_iff, eqB_iff]; exact ⟨Eq.symm, Eq.symm⟩
attribute [irreducible] dif eqB
end Sha
open Sha
theorem or_b (x y : UInt8) : bits .or .u8 (x.toNat : Int) (y.toNat : Int) = ((x ||| y).toNat : Int) := by
  have hx := x.toNat_lt
  have hy := y.toNat_lt
  have h8 : ∀ n : Nat, n < 256 → BitVec.ofInt 8 (n : Int) = BitVec.ofNat 8 n := fun n _ => by apply BitVec.eq_of_toNat_eq; simp
  show IntKind.u8.wrap ((BitVec.ofInt 8 (x.toNat : Int) ||| BitVec.ofInt 8 (y.toNat : Int)).toNat : Int) = _
  have e : (BitVec.ofInt 8 (x.toNat : Int) ||| BitVec.ofInt 8 (y.toNat : Int)).toNat = (x ||| y).toNat := by
    rw [h8 _ hx, h8 _ hy]
    simp
  rw [e, IntKind.wrap_u8]
  have := (x ||| y).toNat_lt
  omega
/-- A byte of a string. -/
theorem index_sb {P : Program} {t : TypeId} (hu : P.underlying t = some .string) (l : List UInt8) (k : IntKind) (i : Nat) (hi : i < l.length) (w : World) :
    (Instr.index t (.string (sb l)) (.int k (i : Int))).run P w = .ok (.int .u8 (l.getD i 0).toNat) w := by
  have h : (sb l)[i]? = some (l.getD i 0) := by
    show (if h : i < (sb l).size then some ((sb l)[i]) else none) = _
    rw [dif_pos (by rw [sb_size]; exact hi)]
    congr 1
    show (sb l).data[i] = _
    simp [sb, List.getD, hi]
  simp [Instr.index, run_underlying hu, asIntOf, h]

set_option maxRecDepth 100000 in
set_option maxHeartbeats 1000000 in
theorem equal_any (a b : List UInt8) (ha : a.length ≤ 140737488355328) (hb : b.length ≤ 140737488355328) (w : World) :
    Calls Tryd.prog 24 #[.string (sb a), .string (sb b)] w fun e w' => e = .returned (.bool (eqB a b)) ∧ ∃ m, w' = w.drewN m := by
  have hsa := sb_size a
  have hsb := sb_size b
  by_cases hl : a.length = b.length
  · have hne : ((a.length : Int) != (b.length : Int)) = false := by rw [hl]; simp
    have hne2 : ((a.length : Int)) = (b.length : Int) := by rw [hl]
    have HEQ := Lib.hid (eqB_dif hl)
    obtain ⟨q, hq⟩ : ∃ q, q = eqB a b := ⟨_, rfl⟩
    rw [← hq] at HEQ ⊢
    clear hq
    have HL := Lib.hid hl
    rw [← hl] at hsb
    clear hl hne hne2
    go_enter Tryd.func24, Tryd.ntmps24
    go_wp2_with fail
    go_loopg [5, 14] a.length (fun g s5 s14 wr => ∃ i : Nat, i + g = a.length ∧ s14 = .int .i64 i ∧ s5 = .int .u8 (dif a b i).toNat ∧ ∃ m, wr = w.drewN m)
    case atStart => exact ⟨0, by omega, rfl, by rw [dif_zero]; rfl, 0, rfl⟩
    case round =>
      obtain ⟨i, hi, rfl, rfl, m, rfl⟩ := hrel
      by_cases hlt : i < a.length
      · obtain ⟨g, rfl⟩ : ∃ g, gk = g + 1 := ⟨gk - 1, by omega⟩
        have hxa := fun w' => index_sb (P := Tryd.prog) (t := 9) Tryd.underlying9 a .i64 i hlt w'
        have hxb := fun w' => index_sb (P := Tryd.prog) (t := 9) Tryd.underlying9 b .i64 i (by rw [← HL.out]; exact hlt) w'
        obtain ⟨x, hx⟩ : ∃ x, x = a.getD i 0 := ⟨_, rfl⟩
        obtain ⟨y, hy⟩ : ∃ x, x = b.getD i 0 := ⟨_, rfl⟩
        obtain ⟨d, hd⟩ : ∃ x, x = dif a b i := ⟨_, rfl⟩
        rw [← hx] at hxa
        rw [← hy] at hxb
        rw [← hd]
        have HD := Lib.hid (And.intro hd (And.intro hx hy)); clear hx hy hd
        go_wp2_with fail
        go_quiet (fail)
        go_wp2_with fail
        rename_i nq
        go_roundg g
        case rel => exact ⟨i + 1, by omega, by go_num, by rw [xor_b, or_b, HD.out.1, HD.out.2.1, HD.out.2.2, dif_succ], _, rfl⟩
        case measure => omega
      · obtain rfl : i = a.length := by omega
        obtain ⟨d, hd⟩ : ∃ x, x = dif a b a.length := ⟨_, rfl⟩
        rw [← hd] at HEQ ⊢
        clear hd
        go_wp2_with fail
        go_ret
        refine ⟨?_, m, rfl⟩
        rw [HEQ.out]
        show Ending.returned (Value.bool ((d.toNat : Int) == 0)) = Ending.returned (Value.bool (d == 0))
        have e : ((d.toNat : Int) == 0) = (d == 0) := by
          rw [Bool.eq_iff_iff, beq_iff_eq, beq_iff_eq]
          constructor
          · intro h
            apply UInt8.toNat_inj.1
            show d.toNat = 0
            omega
          · rintro rfl
            rfl
        rw [e]
  · have hf := eqB_len hl
    rw [hf]
    have hne : ((a.length : Int) != (b.length : Int)) = true := by simp; omega
    have hne2 : ¬ ((a.length : Int)) = (b.length : Int) := by omega
    clear hf
    go_enter Tryd.func24, Tryd.ntmps24
    go_wp2_with fail
    go_ret
    exact ⟨rfl, 0, rfl⟩
end Go.Proofs.YtpidddafbehmpaaDoor
