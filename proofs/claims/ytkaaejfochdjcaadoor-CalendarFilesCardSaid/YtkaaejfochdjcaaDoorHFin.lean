/-
  The walks of hash.Begin and of finishBlock.
-/
import Derived.Test.YtkaaejfochdjcaaDoorHComp
namespace Go.Proofs.YtkaaejfochdjcaaDoor
open Go.RowKit
open Sha
set_option linter.unusedVariables false

/-- A stream's cells. -/
def strm (V : List U) (X : List UInt8) (n : Nat) : List Value := wvs V ++ bs X ++ [.int .u64 n]
def Z64 : List UInt8 := List.replicate 64 0
theorem Z64_length : Z64.length = 64 := by rw [Z64, List.length_replicate]
section
variable {V V' : List U} {X X' : List UInt8} {n n' : Nat}
theorem strm_length (hV : V.length = 8) (hX : X.length = 64) : (strm V X n).length = 73 := by simp [strm, wvs_length, bs_length, hV, hX]
theorem strm_V (hV : V.length = 8) : ((strm V X n).drop 0).take 8 = wvs V := by
  rw [strm, List.append_assoc, List.drop_zero, List.take_append_of_le_length (by rw [wvs_length, hV]; exact Nat.le_refl _), List.take_of_length_le (by rw [wvs_length, hV]; exact Nat.le_refl _)]
theorem strm_X (hV : V.length = 8) (hX : X.length = 64) : ((strm V X n).drop 8).take 64 = bs X := by
  have h8 : (wvs V).length = 8 := by rw [wvs_length, hV]
  have h64 : (bs X).length = 64 := by rw [bs_length, hX]
  rw [strm, List.append_assoc, ← h8, List.drop_left, List.take_append_of_le_length (by rw [h64]; exact Nat.le_refl _), List.take_of_length_le (by rw [h64]; exact Nat.le_refl _)]
theorem strm_n (hV : V.length = 8) (hX : X.length = 64) : (strm V X n)[72]? = some (.int .u64 n) := by
  rw [strm, List.getElem?_append_right (by simp [wvs_length, bs_length, hV, hX])]
  simp [wvs_length, bs_length, hV, hX]
theorem strm_Xat (hV : V.length = 8) (hX : X.length = 64) {j : Nat} (hj : j < 64) : (strm V X n)[8 + j]? = some (.int .u8 (X.getD j 0).toNat) := by
  rw [strm, List.getElem?_append_left (by simp [wvs_length, bs_length, hV, hX]; omega), List.getElem?_append_right (by simp [wvs_length, hV])]
  simp only [wvs_length, hV, Nat.add_sub_cancel_left]
  exact bs_getD X j (by omega)
theorem strm_Vat (hV : V.length = 8) {j : Nat} (hj : j < 8) : (strm V X n)[j]? = some (.int .u32 (V.getD j 0).toNat) := by
  rw [strm, List.append_assoc, List.getElem?_append_left (by rw [wvs_length, hV]; exact hj)]
  exact wvs_get V j (by omega)
theorem strm_setn (hV : V.length = 8) (hX : X.length = 64) : (strm V X n).set 72 (.int .u64 (n' : Nat)) = strm V X n' := by
  rw [strm, List.set_append_right _ _ (by simp [wvs_length, bs_length, hV, hX])]
  simp [strm, wvs_length, bs_length, hV, hX]
theorem strm_setX (hV : V.length = 8) (hX : X.length = 64) {j : Nat} (hj : j < 64) (c : UInt8) : (strm V X n).set (8 + j) (.int .u8 c.toNat) = strm V (X.set j c) n := by
  rw [strm, List.set_append_left _ _ (by simp [wvs_length, bs_length, hV, hX]; omega), List.set_append_right _ _ (by simp [wvs_length, hV])]
  simp only [wvs_length, hV, Nat.add_sub_cancel_left, bs_set]
  rfl
theorem strm_putV (hV : V.length = 8) : (strm V X n).take 0 ++ wvs V' ++ (strm V X n).drop (0 + 8) = strm V' X n := by
  have h8 : (wvs V).length = 8 := by rw [wvs_length, hV]
  rw [List.take_zero, List.nil_append, Nat.zero_add, strm, List.append_assoc, ← h8, List.drop_left, strm, List.append_assoc]
theorem strm_putX (hV : V.length = 8) (hX : X.length = 64) : (strm V X n).take 8 ++ bs X' ++ (strm V X n).drop (8 + 64) = strm V X' n := by
  have h8 : (wvs V).length = 8 := by rw [wvs_length, hV]
  have h72 : (wvs V ++ bs X).length = 8 + 64 := by rw [List.length_append, wvs_length, bs_length, hV, hX]
  rw [strm, ← h72, List.drop_left, List.append_assoc (wvs V), ← h8, List.take_left, strm]
end
theorem strm_one (V : List U) (X : List UInt8) (n : Nat) : ∀ u ∈ strm V X n, u.oneCell' = true := fun u hu => by
  simp only [strm, List.mem_append, List.mem_singleton] at hu
  rcases hu with (hu | hu) | rfl
  · exact wvs_one V u hu
  · exact bs_one X u hu
  · rfl
def Z8 : List U := List.replicate 8 0
theorem Tryd.zero34 : (Tryd.prog.info? 87).map (fun i => (i.zero, i.size)) = some (some (.agg (strm Z8 Z64 0).toArray), 73) := by kernel_rfl
theorem Tryd.size34 : (Tryd.prog.info? 87).map (·.size) = some 73 := by kernel_rfl

set_option maxRecDepth 100000 in
set_option maxHeartbeats 1000000 in
theorem begin_any (w : World) : Calls Tryd.prog 60 #[] w fun e w' => e = .returned (.agg (strm IV Z64 0).toArray) ∧ Below w.heap.size w w' := by
  have hz := (zero_of_info Tryd.zero34).1
  obtain ⟨D, hD⟩ : ∃ D, D = strm IV Z64 0 := ⟨_, rfl⟩
  have hDl : D.length = 73 := by rw [hD]; exact strm_length rfl Z64_length
  have hD1 : ∀ u ∈ D, u.oneCell' = true := by rw [hD]; exact strm_one _ _ _
  have HD := Lib.hid hD; clear hD
  have HDL := Lib.hid hDl; clear hDl
  have HD1 := Lib.hid hD1; clear hD1
  go_enter Tryd.func60, Tryd.ntmps60
  go_wp2_with (refine wpList_store_blk rfl 87 (.tmp 0) (.tmp 2) rfl _ 0 rfl D (by rw [HD.out]; kernel_rfl) (Blk.new w (strm Z8 Z64 0) 87) 73 Tryd.size34 HDL.out (by rw [strm_length rfl Z64_length]; exact Nat.le_refl _) HD1.out ?_; intro w1 hst1; rw [List.take_zero, List.nil_append, List.drop_of_length_le (by rw [strm_length rfl Z64_length]; exact Nat.le_refl _), List.append_nil] at hst1; have HST := Lib.hid hst1; clear hst1)
  refine ret_blk rfl _ rfl HST.out.1 _ Tryd.underlying87 rfl (by rw [HDL.out]; exact Tryd.size34) rfl ⟨by rw [HD.out], HST.out.below ((Below.refl _ _).alloc (Nat.le_refl _) _) (Nat.le_refl _)⟩

set_option maxRecDepth 100000 in
set_option maxHeartbeats 1000000 in
theorem fin_aux (V V' : List U) (X : List UInt8) (n : Nat) (hV : V.length = 8) (hX : X.length = 64) (hV' : V' = comp V X) (w : World) (hK : KH w) :
    Calls Tryd.prog 73 #[.agg (strm V X n).toArray] w fun e w' => e = .returned (.agg (strm V' Z64 n).toArray) ∧ Below w.heap.size w w' := by
  have hz := (zero_of_info Tryd.zero34).1
  have hcomp := fun W => comp_any V X hV hX W
  rw [← hV'] at hcomp
  have hVl : V'.length = 8 := by rw [hV', comp_length _ _ hV]
  have b0 := (Blk.new w (strm V X n) 87).alloc (.cells (strm Z8 Z64 0).toArray 87)
  have b1 := Blk.new (w.alloc (.cells (strm V X n).toArray 87)) (strm Z8 Z64 0) 87
  have hbel := ((Below.refl _ w).alloc (Nat.le_refl _) (.cells (strm V X n).toArray 87)).alloc (by simp) (.cells (strm Z8 Z64 0).toArray 87)
  simp only [World.size_alloc] at b1
  have l0 := strm_length (n := n) hV hX
  have lz := strm_length (V := Z8) (n := 0) rfl Z64_length
  have l1 := strm_length (n := n) hVl hX
  have l2 := strm_length (n := n) hVl Z64_length
  have eV := strm_V (X := X) (n := n) hV
  have eX := strm_X (n := n) hV hX
  have pV := strm_putV (V' := V') (X := X) (n := n) hV
  have pX := strm_putX (X' := Z64) (n := n) hVl hX
  have HI := Lib.hid (And.intro hV (And.intro hX (And.intro hV' hVl))); clear hV hX hV' hVl
  have HL := Lib.hid (And.intro l0 (And.intro lz (And.intro l1 l2))); clear l0 lz l1 l2
  have HE := Lib.hid (And.intro eV (And.intro eX (And.intro pV pX))); clear eV eX pV pX
  have HC := Lib.hid hcomp; clear hcomp
  have HB := Lib.hid (And.intro b0 (And.intro b1 hbel)); clear b0 b1 hbel
  have HK := Lib.hid hK; clear hK
  go_enter Tryd.func73, Tryd.ntmps73
  go_wp2_with (first
    | (refine wpList_load_blk rfl 83 (.tmp 3) rfl _ 0 rfl HB.out.1 _ Tryd.underlying83 rfl 8 Tryd.size30 (by rw [HL.out.1]; omega) ?_; rw [HE.out.1])
    | (refine wpList_load_blk rfl 84 (.tmp 5) rfl _ 8 rfl HB.out.1 _ Tryd.underlying84 rfl 64 Tryd.size31 (by rw [HL.out.1]; omega) ?_; rw [HE.out.2.1])
    | (refine ((HC.out _) (HK.out.below HB.out.2.2 HK.out.2)).mono ?_; rintro e w1 ⟨rfl, hb1⟩; simp only [World.size_alloc] at hb1; have HB1 : Hid (Blk w1 w.heap.size (strm V X n) 87 ∧ Blk w1 (w.heap.size + 1) (strm Z8 Z64 0) 87 ∧ Below w.heap.size w w1) := Lib.hid ⟨HB.out.1.below hb1 (by omega), HB.out.2.1.below hb1 (by omega), HB.out.2.2.trans (hb1.mono (by omega))⟩; clear hb1)
    | (refine wpList_store_blk rfl 83 (.tmp 8) (.tmp 7) rfl _ 0 rfl (wvs V') rfl HB1.out.1 8 Tryd.size30 (by rw [wvs_length]; exact HI.out.2.2.2) (by rw [HL.out.1]; omega) (wvs_one V') ?_; intro w2 hst2; rw [HE.out.2.2.1] at hst2; have HST2 := Lib.hid hst2; clear hst2)
    | (refine wpList_store_blk rfl 84 (.tmp 10) (.tmp 9) rfl _ 8 rfl (bs Z64) rfl HST2.out.1 64 Tryd.size31 (by rw [bs_length, Z64_length]) (by rw [HL.out.2.2.1]; omega) (bs_one Z64) ?_; intro w3 hst3; rw [HE.out.2.2.2] at hst3; have HST3 := Lib.hid hst3; clear hst3)
    | (refine wpList_load_blk rfl 87 (.tmp 1) rfl _ 0 rfl HST3.out.1 _ Tryd.underlying87 rfl 73 Tryd.size34 (by rw [HL.out.2.2.2]; omega) ?_; rw [List.drop_zero, List.take_of_length_le (by rw [HL.out.2.2.2]; omega)])
    | (refine wpList_store_blk rfl 87 (.tmp 2) (.tmp 11) rfl _ 0 rfl (strm V' Z64 n) rfl (HST3.out.other (HST2.out.other HB1.out.2.1 (by omega)) (by omega)) 73 Tryd.size34 HL.out.2.2.2 (by rw [HL.out.2.1]; omega) (strm_one _ _ _) ?_; intro w4 hst4; rw [List.take_zero, List.nil_append, List.drop_of_length_le (by rw [HL.out.2.1]; omega), List.append_nil] at hst4; have HST4 := Lib.hid hst4; clear hst4))
  refine ret_blk rfl _ rfl HST4.out.1 _ Tryd.underlying87 rfl (by rw [HL.out.2.2.2]; exact Tryd.size34) rfl ⟨rfl, HST4.out.below (HST3.out.below (HST2.out.below HB1.out.2.2 (by omega)) (by omega)) (by omega)⟩
theorem fin_any (V : List U) (X : List UInt8) (n : Nat) (hV : V.length = 8) (hX : X.length = 64) (w : World) (hK : KH w) :
    Calls Tryd.prog 73 #[.agg (strm V X n).toArray] w fun e w' => e = .returned (.agg (strm (comp V X) Z64 n).toArray) ∧ Below w.heap.size w w' :=
  fin_aux V _ X n hV hX rfl w hK
end Go.Proofs.YtkaaejfochdjcaaDoor
