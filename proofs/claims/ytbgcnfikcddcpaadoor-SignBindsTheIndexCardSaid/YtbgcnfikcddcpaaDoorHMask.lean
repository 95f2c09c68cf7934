/-
  The walk of hash.masked.
-/
import Derived.Test.YtbgcnfikcddcpaaDoorHSumB
namespace Go.Proofs.YtbgcnfikcddcpaaDoor
open Go.RowKit
set_option linter.unusedVariables false
namespace Sha
/-- A key of at most one block, filled up by zeros. -/
def fill (k : List UInt8) : List UInt8 := k ++ List.replicate (64 - k.length) 0
def mask (k : List UInt8) (x : UInt8) : List UInt8 := (fill k).map (· ^^^ x)
theorem fill_length (k : List UInt8) (h : k.length ≤ 64) : (fill k).length = 64 := by simp [fill]; omega
theorem mask_length (k : List UInt8) (x : UInt8) (h : k.length ≤ 64) : (mask k x).length = 64 := by rw [mask, List.length_map, fill_length k h]
/-- The first i bytes are combined. -/
def msk (i : Nat) (F : List UInt8) (x : UInt8) : List UInt8 := (F.take i).map (· ^^^ x) ++ F.drop i
theorem msk_zero (F : List UInt8) (x : UInt8) : msk 0 F x = F := by simp [msk]
theorem msk_length (i : Nat) (F : List UInt8) (x : UInt8) : (msk i F x).length = F.length := by simp [msk]; omega
theorem msk_get (i : Nat) (F : List UInt8) (x : UInt8) (h : i < F.length) : (msk i F x).getD i 0 = F.getD i 0 := by
  simp [msk, List.getD, List.getElem?_append_right, Nat.min_eq_left (Nat.le_of_lt h)]
theorem msk_set (i : Nat) (F : List UInt8) (x : UInt8) (h : i < F.length) : (msk i F x).set i (F.getD i 0 ^^^ x) = msk (i + 1) F x := by
  have e2 : F.drop i = F[i] :: F.drop (i + 1) := List.drop_eq_getElem_cons h
  unfold msk
  rw [List.set_append_right _ _ (by simp; omega), e2, List.take_succ_eq_append_getElem h]
  have e3 : i - ((F.take i).map (· ^^^ x)).length = 0 := by simp; omega
  have e4 : F.getD i 0 = F[i] := by simp [List.getD, h]
  rw [e3, List.set_cons_zero, e4, List.map_append, List.append_assoc]
  rfl
theorem msk_all (F : List UInt8) (x : UInt8) : msk F.length F x = F.map (· ^^^ x) := by simp [msk]
attribute [irreducible] fill mask msk
end Sha
open Sha
theorem xor_b (x y : UInt8) : bits .xor .u8 (x.toNat : Int) (y.toNat : Int) = ((x ^^^ y).toNat : Int) := by
  have hx := x.toNat_lt
  have hy := y.toNat_lt
  have h8 : ∀ n : Nat, n < 256 → BitVec.ofInt 8 (n : Int) = BitVec.ofNat 8 n := fun n _ => by apply BitVec.eq_of_toNat_eq; simp
  show IntKind.u8.wrap ((BitVec.ofInt 8 (x.toNat : Int) ^^^ BitVec.ofInt 8 (y.toNat : Int)).toNat : Int) = _
  have e : (BitVec.ofInt 8 (x.toNat : Int) ^^^ BitVec.ofInt 8 (y.toNat : Int)).toNat = (x ^^^ y).toNat := by
    rw [h8 _ hx, h8 _ hy]
    simp
  rw [e, IntKind.wrap_u8]
  have := (x ^^^ y).toNat_lt
  omega
theorem slice_arr_all {P : Program} {t e : TypeId} {n : Nat} (hu : P.underlying t = some (.array n e)) (hs : (P.info? e).map (·.size) = some 1) (b o : Nat) (w : World) :
    (Instr.sliceAt t (.pointer (some ⟨b, o, none⟩)) none none none).run P w = .ok (.slice (some ⟨b, o, none⟩) n n) w := by
  cases hq : P.info? e with
  | none => simp [hq] at hs
  | some i => simp [Instr.sliceAt, Instr.sureAddr, run_underlying hu, Instr.sliceBounds, sizeOf, typeInfo, hq, Addr.add_mid]

set_option maxRecDepth 100000 in
set_option maxHeartbeats 1000000 in
theorem mask_aux (k R : List UInt8) (x : UInt8) (hk : k.length ≤ 64) (hR : R = mask k x) (w : World) :
    Calls Tryd.prog 66 #[.string (sb k), .int .u8 x.toNat] w fun e w' => e = .returned (.string (sb R)) ∧ Below w.heap.size w w' := by
  have hsl := fun w' => slice_arr_all (P := Tryd.prog) (t := 91) Tryd.underlying91 Tryd.size1 w.heap.size 0 w'
  have hB := Blk.new' w (bs Z64) _ 91 rfl
  have HB := Lib.hid hB; clear hB
  obtain ⟨F, hF⟩ : ∃ F, F = fill k := ⟨_, rfl⟩
  have hFl : F.length = 64 := by rw [hF, fill_length k hk]
  have HF := Lib.hid (And.intro hF hFl); clear hF hFl
  have HR := Lib.hid hR; clear hR
  have hqs := sb_size k
  have HN : Hid (k.length = Nat.min k.length 64) := Lib.hid (Nat.min_eq_left hk).symm
  have HP : Hid ((bs Z64).take 0 ++ bs (k.take k.length) ++ (bs Z64).drop (0 + k.length) = bs F) := Lib.hid (by
    rw [HF.out.1, fill, List.take_zero, List.nil_append, List.take_length, bs_append, Nat.zero_add, bs_drop]
    congr 2
    rw [Z64, List.drop_replicate])
  go_enter Tryd.func66, Tryd.ntmps66
  go_wp2_with (refine wpList_copy_str rfl (.tmp 7) (.tmp 8) 58 9 rfl 5 Tryd.underlying58 Tryd.size1 w.heap.size 0 64 64 rfl k rfl HB.out k.length HN.out (by rw [bs_length, Z64_length]; omega) ?_; intro w1 hst1; rw [HP.out] at hst1; have HST1 := Lib.hid hst1; clear hst1)
  go_loopg [10] 64 (fun g s10 wr => ∃ i : Nat, i + g = 64 ∧ s10 = .int .i64 i ∧ Blk wr w.heap.size (bs (msk i F x)) 91 ∧ Below w.heap.size w wr)
  case atStart => exact ⟨0, rfl, rfl, by rw [msk_zero]; exact HST1.out.1, HST1.out.below (below_a1 _ _) (Nat.le_refl _)⟩
  case round =>
    obtain ⟨i, hi, rfl, hT, hBl⟩ := hrel
    by_cases hlt : i < 64
    · obtain ⟨g, rfl⟩ : ∃ g, gk = g + 1 := ⟨gk - 1, by omega⟩
      have hc := hT.cell (bs_getD (msk i F x) i (by rw [msk_length, HF.out.2]; exact hlt))
      rw [msk_get i F x (by rw [HF.out.2]; exact hlt)] at hc
      obtain ⟨c, hce⟩ : ∃ c, c = F.getD i 0 := ⟨_, rfl⟩
      rw [← hce] at hc
      have HC := Lib.hid hce; clear hce
      have HT := Lib.hid hT; clear hT
      have HBL := Lib.hid hBl; clear hBl
      go_wp2_with (refine wpList_store_int rfl 5 (.tmp 18) (.tmp 17) rfl w.heap.size i rfl .u8 (bits .xor .u8 (c.toNat : Int) (x.toNat : Int)) rfl HT.out (by rw [bs_length, msk_length, HF.out.2]; exact hlt) Tryd.size1 ?_; intro w2 hst2; rw [xor_b, bs_set, HC.out, msk_set i F x (by rw [HF.out.2]; exact hlt)] at hst2; have HST2 := Lib.hid hst2; clear hst2)
      go_roundg g
      case rel => exact ⟨i + 1, by omega, by go_num, HST2.out.1, HST2.out.below HBL.out (Nat.le_refl _)⟩
      case measure => omega
    · obtain rfl : i = 64 := by omega
      have hRe : msk 64 F x = R := by rw [HR.out, mask, ← HF.out.1, ← msk_all, HF.out.2]
      rw [hRe] at hT
      have hRl : R.length = 64 := by rw [← hRe, msk_length, HF.out.2]
      have hcv := conv_sb (A := some ⟨w.heap.size, 0, none⟩) (l := R) (n := 64) (w := wr) 64 hRl.symm (.inr ⟨_, 0, rfl, fun j v hv => by rw [Nat.zero_add]; exact hT.cell hv⟩)
      have HBL := Lib.hid hBl; clear hBl
      clear hRe hRl hT
      go_wp2_with fail
      go_ret
      exact ⟨rfl, HBL.out⟩
theorem mask_any (k : List UInt8) (x : UInt8) (hk : k.length ≤ 64) (w : World) :
    Calls Tryd.prog 66 #[.string (sb k), .int .u8 x.toNat] w fun e w' => e = .returned (.string (sb (mask k x))) ∧ Below w.heap.size w w' := mask_aux k _ x hk rfl w
end Go.Proofs.YtbgcnfikcddcpaaDoor
