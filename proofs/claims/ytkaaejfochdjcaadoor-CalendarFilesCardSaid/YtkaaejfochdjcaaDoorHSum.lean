/-
  The walk of Stream.Sum.
-/
import Derived.Test.YtkaaejfochdjcaaDoorHAdd
namespace Go.Proofs.YtkaaejfochdjcaaDoor
open Go.RowKit
set_option linter.unusedVariables false
namespace Sha
theorem len8_length (n : Nat) : (len8 n).length = 8 := by simp [len8]
/-- The first i bytes of the length are laid. -/
def lay (i : Nat) (X : List UInt8) (n : Nat) : List UInt8 := X.take 56 ++ (len8 n).take i ++ X.drop (56 + i)
theorem lay_zero (X : List UInt8) (n : Nat) : lay 0 X n = X := by simp [lay]
theorem lay_length (i : Nat) (X : List UInt8) (n : Nat) (hX : X.length = 64) (hi : i ≤ 8) : (lay i X n).length = 64 := by
  have := len8_length n
  simp [lay]
  omega
theorem lay_set (i : Nat) (X : List UInt8) (n : Nat) (hX : X.length = 64) (hi : i < 8) : (lay i X n).set (56 + i) (UInt8.ofNat (8 * n / 2 ^ (56 - 8 * i))) = lay (i + 1) X n := by
  have h8 := len8_length n
  have e1 : (len8 n)[i]'(by omega) = UInt8.ofNat (8 * n / 2 ^ (56 - 8 * i)) := by simp [len8]
  have e2 : X.drop (56 + i) = X[56 + i]'(by omega) :: X.drop (56 + (i + 1)) := List.drop_eq_getElem_cons (by omega)
  unfold lay
  rw [List.set_append_right _ _ (by simp; omega), e2, show (len8 n).take (i + 1) = (len8 n).take i ++ [(len8 n)[i]'(by omega)] from List.take_succ_eq_append_getElem (by omega), e1]
  have e3 : 56 + i - (X.take 56 ++ (len8 n).take i).length = 0 := by simp; omega
  rw [e3, List.set_cons_zero]
  simp
theorem lay_eight (X : List UInt8) (n : Nat) (hX : X.length = 64) : lay 8 X n = X.take 56 ++ len8 n := by
  have h8 := len8_length n
  have e1 : (len8 n).take 8 = len8 n := List.take_of_length_le (by omega)
  have e2 : X.drop (56 + 8) = [] := List.drop_of_length_le (by omega)
  rw [lay, e1, e2, List.append_nil]
theorem blk_set (m : List UInt8) : (blk m).set (m.length % 64) 128 = tail m ++ [128] ++ List.replicate (63 - m.length % 64) 0 := by
  have hl := tail_length m
  have e : 64 - m.length % 64 = (63 - m.length % 64) + 1 := by omega
  unfold blk
  rw [List.set_append_right _ _ (by omega), hl, e, List.replicate_succ]
  simp
theorem pad_short (m : List UInt8) (h : m.length % 64 < 56) : hv (padded m) = comp (hv m) (lay 8 ((blk m).set (m.length % 64) 128) m.length) := by
  have hl := tail_length m
  have h8 := len8_length m.length
  have hg : gap m.length = 55 - m.length % 64 := by unfold gap; omega
  have e : padded m = m ++ ([128] ++ List.replicate (55 - m.length % 64) 0 ++ len8 m.length) := by
    rw [padded, hg]; simp
  rw [e, hv_full m _ (by simp [h8]; omega), lay_eight _ _ (by rw [List.length_set, blk_length]), blk_set]
  congr 1
  rw [List.take_append, List.take_of_length_le (by simp [hl]; omega), List.take_replicate]
  simp [hl]
  omega
theorem pad_long (m : List UInt8) (h : 56 ≤ m.length % 64) : hv (padded m) = comp (comp (hv m) ((blk m).set (m.length % 64) 128)) (lay 8 Z64 m.length) := by
  have hl := tail_length m
  have h8 := len8_length m.length
  have hg : gap m.length = (63 - m.length % 64) + 56 := by unfold gap; omega
  obtain ⟨x, hx⟩ : ∃ x, x = [128] ++ List.replicate (63 - m.length % 64) (0 : UInt8) := ⟨_, rfl⟩
  have hxl : x.length = 64 - m.length % 64 := by rw [hx]; simp; omega
  have e : padded m = (m ++ x) ++ (List.replicate 56 0 ++ len8 m.length) := by
    rw [padded, hg, ← List.replicate_append_replicate, hx]; simp
  have hm : (m ++ x).length % 64 = 0 := by rw [List.length_append, hxl]; omega
  have ht : tail (m ++ x) = [] := List.eq_nil_of_length_eq_zero (by rw [tail_length, hm])
  rw [e, hv_full (m ++ x) _ (by rw [hm]; simp [h8]), ht, hv_full m x (by omega), lay_eight _ _ Z64_length, blk_set, hx]
  rw [List.nil_append, List.append_assoc (tail m)]
  rfl
def obyte (V : List U) (i : Nat) : UInt8 := UInt8.ofNat ((V.getD (i / 4) 0).toNat / 2 ^ (24 - 8 * (i % 4)))
def out (i : Nat) (V : List U) : List UInt8 := (List.range i).map (obyte V) ++ List.replicate (32 - i) 0
theorem out_length (i : Nat) (V : List U) (h : i ≤ 32) : (out i V).length = 32 := by simp [out]; omega
theorem out_set (i : Nat) (V : List U) (h : i < 32) : (out i V).set i (obyte V i) = out (i + 1) V := by
  have e : 32 - i = (32 - (i + 1)) + 1 := by omega
  unfold out
  rw [List.set_append_right _ _ (by simp), List.range_succ, e, List.replicate_succ]
  simp
theorem out_all (V : List U) : out 32 V = outb V := by simp [out, outb, obyte]
theorem outb_length (V : List U) : (outb V).length = 32 := by simp [outb]
attribute [irreducible] lay out
end Sha
open Sha
/-- What lies in memory while Sum runs. -/
def TI (w : World) (V : List U) (X : List UInt8) (L : Nat) (wr : World) : Prop := Blk wr w.heap.size (strm V X L) 87 ∧ Blk wr (w.heap.size + 1) (bs (List.replicate 32 0)) 91 ∧ Below w.heap.size w wr
theorem Tryd.size24 : (Tryd.prog.info? 91).map (·.size) = some 32 := by kernel_rfl
theorem c128 : (128 : Int) = (((128 : UInt8)).toNat : Int) := rfl

set_option maxRecDepth 100000 in
set_option maxHeartbeats 2000000 in
theorem sum_aux (m R : List UInt8) (hR : R = sha m) (hlen : m.length < 576460752303423488) (w : World) (hK : KH w) :
    Calls Tryd.prog 63 #[.agg (Str m).toArray] w fun e w' => e = .returned (.agg (bs R).toArray) ∧ Below w.heap.size w w' := by
  have HR := Lib.hid hR; clear hR
  have HK := Lib.hid hK; clear hK
  obtain ⟨L, hL⟩ : ∃ L, L = m.length := ⟨_, rfl⟩
  have hLb : L < 576460752303423488 := by rw [hL]; exact hlen
  clear hlen
  obtain ⟨V0, hV0⟩ : ∃ V, V = hv m := ⟨_, rfl⟩
  obtain ⟨X0, hX0⟩ : ∃ X, X = blk m := ⟨_, rfl⟩
  have hV0l : V0.length = 8 := by rw [hV0, hv_length]
  have hX0l : X0.length = 64 := by rw [hX0, blk_length]
  rw [Str_eq, ← hV0, ← hX0, ← hL]
  have HT0 : Hid (TI w V0 X0 L ((w.alloc (.cells (strm V0 X0 L).toArray 87)).alloc (.cells (bs (List.replicate 32 0)).toArray 91))) := Lib.hid ⟨(Blk.new _ _ _).alloc _, by
    have := Blk.new (w.alloc (.cells (strm V0 X0 L).toArray 87)) (bs (List.replicate 32 0)) 91
    simp only [World.size_alloc] at this
    exact this, ((Below.refl _ _).alloc (Nat.le_refl _) _).alloc (by simp) _⟩
  have hc0 := HT0.out.1.cell (strm_n (n := L) hV0l hX0l)
  have hl73 : (strm V0 X0 L).toArray[72]? = some (.int .u64 L) := by simpa using strm_n (n := L) hV0l hX0l
  have HH := Lib.hid (And.intro hL (And.intro hV0 hX0)); clear hL hV0 hX0
  have HLL := Lib.hid (And.intro hV0l hX0l); clear hV0l hX0l
  obtain ⟨X1', hX1'⟩ : ∃ X, X = X0.set (L % 64) 128 := ⟨_, rfl⟩
  have hX1'l : X1'.length = 64 := by rw [hX1', List.length_set, HLL.out.2]
  have HX1 := Lib.hid (And.intro hX1' hX1'l); clear hX1' hX1'l
  by_cases hlong : 56 ≤ L % 64
  · have hlong' : (56 : Int) ≤ (L : Int) % 64 := by omega
    obtain ⟨V1, hV1⟩ : ∃ V, V = comp V0 X1' := ⟨_, rfl⟩
    have hfin0 := fun W => fin_any V0 X1' L HLL.out.1 HX1.out.2 W
    rw [← hV1] at hfin0
    have HFIN0 := Lib.hid hfin0; clear hfin0
    obtain ⟨X1, hX1e⟩ : ∃ X, X = Z64 := ⟨_, rfl⟩
    have HI : Hid (V1.length = 8 ∧ X1.length = 64) := Lib.hid ⟨by rw [hV1, comp_length _ _ HLL.out.1], by rw [hX1e]; exact Z64_length⟩
    have HFV : Hid (hv (padded m) = comp V1 (lay 8 X1 L)) := Lib.hid (by
      rw [pad_long m (by rw [← HH.out.1]; exact hlong), hV1, hX1e, HX1.out.1, HH.out.2.1, HH.out.2.2, HH.out.1])
    have HX1E := Lib.hid hX1e; clear hX1e hV1
    go_enter Tryd.func63, Tryd.ntmps63
    go_wp2_with (first
      | (refine wpList_store_int rfl 5 (.tmp 12) (.const (.int .u8 128)) rfl w.heap.size (8 + L % 64) rfl .u8 128 rfl HT0.out.1 (by rw [strm_length HLL.out.1 HLL.out.2]; omega) Tryd.size1 ?_; intro w1 hst1; rw [c128, strm_setX HLL.out.1 HLL.out.2 (by omega), ← HX1.out.1] at hst1; have HTA : Hid (TI w V0 X1' L w1) := Lib.hid ⟨hst1.1, hst1.other HT0.out.2.1 (by omega), hst1.below HT0.out.2.2 (Nat.le_refl _)⟩; clear hst1)
      | (refine wpList_load_blk rfl 87 (.tmp 1) rfl _ 0 rfl HTA.out.1 _ Tryd.underlying87 rfl 73 Tryd.size34 (by rw [strm_length HLL.out.1 HX1.out.2]; omega) ?_; rw [List.drop_zero, List.take_of_length_le (by rw [strm_length HLL.out.1 HX1.out.2]; omega)])
      | (refine ((HFIN0.out _) (HK.out.below HTA.out.2.2 HK.out.2)).mono ?_
         rintro e w2 ⟨rfl, hb2⟩
         have HTB : Hid (TI w V0 X1' L w2) := Lib.hid ⟨HTA.out.1.below hb2 HTA.out.1.lt, HTA.out.2.1.below hb2 HTA.out.2.1.lt, HTA.out.2.2.trans (hb2.mono (Nat.le_of_lt HTA.out.1.lt))⟩
         clear hb2)
      | (refine wpList_store_blk rfl 87 (.tmp 1) (.tmp 16) rfl _ 0 rfl (strm V1 Z64 L) rfl HTB.out.1 73 Tryd.size34 (strm_length HI.out.1 Z64_length) (by rw [strm_length HLL.out.1 HX1.out.2]; omega) (strm_one _ _ _) ?_; intro w3 hst3; rw [List.take_zero, List.nil_append, List.drop_of_length_le (by rw [strm_length HLL.out.1 HX1.out.2]; omega), List.append_nil] at hst3; have HT : Hid (TI w V1 X1 L w3) := Lib.hid ⟨by rw [HX1E.out]; exact hst3.1, hst3.other HTB.out.2.1 (by omega), hst3.below HTB.out.2.2 (Nat.le_refl _)⟩; clear hst3))
    clear hc0 hl73
    go_wp2_with fail
    go_loopg [17] 8 (fun g s17 wr => ∃ i : Nat, i + g = 8 ∧ s17 = .int .i64 i ∧ TI w V1 (lay i X1 L) L wr)
    case atStart => exact ⟨0, rfl, rfl, by rw [lay_zero]; exact HT.out⟩
    case round =>
      clear HT
      obtain ⟨i, hi, rfl, hT⟩ := hrel
      have HLAY := Lib.hid (lay_length i X1 L HI.out.2 (by omega))
      by_cases hlt : i < 8
      · obtain ⟨g, rfl⟩ : ∃ g, gk = g + 1 := ⟨gk - 1, by omega⟩
        have hc := hT.1.cell (strm_n (n := L) HI.out.1 HLAY.out)
        obtain ⟨sh, hsh⟩ : ∃ sh : Nat, (56 : Int) - 8 * (i : Int) = (sh : Int) := ⟨56 - 8 * i, by omega⟩
        have hshN : sh = 56 - 8 * i := by omega
        have hsh1 : sh ≤ 56 := by omega
        have HSH := Lib.hid hshN; clear hshN
        have HT := Lib.hid hT; clear hT
        obtain ⟨c, hce⟩ : ∃ c, c = UInt8.ofNat (8 * L / 2 ^ (56 - 8 * i)) := ⟨_, rfl⟩
        have HCE := Lib.hid hce; clear hce
        have hu8 : ((8 * (L : Int)) / 2 ^ sh) % 256 = (c.toNat : Int) := by
          rw [HCE.out, ← HSH.out]
          have : (8 * (L : Int)) / 2 ^ sh = ((8 * L / 2 ^ sh : Nat) : Int) := by simp
          rw [this]
          simp
        have HU8 := Lib.hid hu8; clear hu8
        go_wp2_with (refine wpList_store_int rfl 5 (.tmp 31) (.tmp 29) rfl w.heap.size (8 + (56 + i)) rfl .u8 (8 * (L : Int) / 2 ^ sh % 256) rfl HT.out.1 (by rw [strm_length HI.out.1 HLAY.out]; omega) Tryd.size1 ?_; intro w1 hst1; rw [HU8.out, strm_setX HI.out.1 HLAY.out (by omega), HCE.out, lay_set i X1 L HI.out.2 hlt] at hst1; have HST1 := Lib.hid hst1; clear hst1)
        go_roundg g
        case rel => exact ⟨i + 1, by omega, by go_num, HST1.out.1, HST1.out.other HT.out.2.1 (by omega), HST1.out.below HT.out.2.2 (Nat.le_refl _)⟩
        case measure => omega
      · obtain rfl : i = 8 := by omega
        have HT := Lib.hid hT; clear hT
        obtain ⟨X2, hX2⟩ : ∃ X, X = lay 8 X1 L := ⟨_, rfl⟩
        rw [← hX2] at HT HLAY
        have HX2 := Lib.hid hX2; clear hX2
        obtain ⟨V3, hV3⟩ : ∃ V, V = comp V1 X2 := ⟨_, rfl⟩
        have hfin := fun W => fin_any V1 X2 L HI.out.1 HLAY.out W
        rw [← hV3] at hfin
        have hV3l : V3.length = 8 := by rw [hV3, comp_length _ _ HI.out.1]
        have HFIN := Lib.hid hfin; clear hfin
        have HV3 := Lib.hid (And.intro hV3 hV3l); clear hV3 hV3l
        go_wp2_with (first
          | (refine wpList_load_blk rfl 87 (.tmp 1) rfl _ 0 rfl HT.out.1 _ Tryd.underlying87 rfl 73 Tryd.size34 (by rw [strm_length HI.out.1 HLAY.out]; omega) ?_; rw [List.drop_zero, List.take_of_length_le (by rw [strm_length HI.out.1 HLAY.out]; omega)])
          | (refine ((HFIN.out _) (HK.out.below HT.out.2.2 HK.out.2)).mono ?_
             rintro e w2 ⟨rfl, hb2⟩
             have HT2 : Hid (TI w V1 X2 L w2) := Lib.hid ⟨HT.out.1.below hb2 HT.out.1.lt, HT.out.2.1.below hb2 HT.out.2.1.lt, HT.out.2.2.trans (hb2.mono (Nat.le_of_lt HT.out.1.lt))⟩
             clear hb2)
          | (refine wpList_store_blk rfl 87 (.tmp 1) (.tmp 34) rfl _ 0 rfl (strm V3 Z64 L) rfl HT2.out.1 73 Tryd.size34 (strm_length HV3.out.2 Z64_length) (by rw [strm_length HI.out.1 HLAY.out]; omega) (strm_one _ _ _) ?_; intro w4 hst4; rw [List.take_zero, List.nil_append, List.drop_of_length_le (by rw [strm_length HI.out.1 HLAY.out]; omega), List.append_nil] at hst4; have HT4 : Hid (TI w V3 Z64 L w4) := Lib.hid ⟨hst4.1, hst4.other HT2.out.2.1 (by omega), hst4.below HT2.out.2.2 (Nat.le_refl _)⟩; clear hst4))
        have HN5 : Hid (w.heap.size + 1 < w4.heap.size) := Lib.hid HT4.out.2.1.lt
        have HS5 := Lib.hid (Blk.new' w4 (bs (List.replicate 32 0)) _ 91 rfl)
        have HT5 : Hid (TI w V3 Z64 L (w4.alloc (.cells (bs (List.replicate 32 0)).toArray 91))) := Lib.hid ⟨HT4.out.1.alloc _, HT4.out.2.1.alloc _, HT4.out.2.2.alloc (by have := HN5.out; omega) _⟩
        obtain ⟨S, hS⟩ : ∃ S, S = w4.heap.size := ⟨_, rfl⟩
        rw [← hS] at HS5 HN5 ⊢
        clear hS
        go_loopg [35] 32 (fun g s35 wr => ∃ i : Nat, i + g = 32 ∧ s35 = .int .i64 i ∧ TI w V3 Z64 L wr ∧ Blk wr S (bs (out i V3)) 91)
        case atStart => exact ⟨0, rfl, rfl, HT5.out, by rw [show out 0 V3 = List.replicate 32 0 from by rw [out]; rfl]; exact HS5.out⟩
        case round =>
          clear HT5 HS5 HT4
          obtain ⟨i, hi, rfl, hT, hO⟩ := hrel
          by_cases hlt : i < 32
          · obtain ⟨g, rfl⟩ : ∃ g, gk = g + 1 := ⟨gk - 1, by omega⟩
            have hc := hT.1.cell (strm_Vat (X := Z64) (n := L) HV3.out.2 (j := i / 4) (by omega))
            obtain ⟨v, hv⟩ : ∃ v, v = V3.getD (i / 4) 0 := ⟨_, rfl⟩
            rw [← hv] at hc
            obtain ⟨sh, hsh⟩ : ∃ sh : Nat, (24 : Int) - 8 * ((i : Int) % 4) = (sh : Int) := ⟨24 - 8 * (i % 4), by omega⟩
            have hshN : sh = 24 - 8 * (i % 4) := by omega
            have hsh1 : sh ≤ 24 := by omega
            have HSH := Lib.hid hshN; clear hshN
            have HV := Lib.hid hv; clear hv
            have HT := Lib.hid hT; clear hT
            have HO := Lib.hid hO; clear hO
            have hq4 : ((i : Int) / 4).toNat = i / 4 := by omega
            obtain ⟨c, hce⟩ : ∃ c, c = obyte V3 i := ⟨_, rfl⟩
            have HCE := Lib.hid hce; clear hce
            have hu8 : ((v.toNat : Int) / 2 ^ sh) % 256 = (c.toNat : Int) := by
              rw [HCE.out, obyte, ← HV.out, ← HSH.out]
              have : (v.toNat : Int) / 2 ^ sh = ((v.toNat / 2 ^ sh : Nat) : Int) := by simp
              rw [this]
              simp
            have HU8 := Lib.hid hu8; clear hu8
            have hw32 := w32_lt v
            go_wp2_with (refine wpList_store_int rfl 5 (.tmp 50) (.tmp 49) rfl S i rfl .u8 ((v.toNat : Int) / 2 ^ sh % 256) rfl HO.out (by rw [bs_length, out_length i V3 (by omega)]; omega) Tryd.size1 ?_; intro w1 hst1; rw [HU8.out, bs_set, HCE.out, out_set i V3 hlt] at hst1; have HST1 := Lib.hid hst1; clear hst1)
            go_roundg g
            case rel => exact ⟨i + 1, by omega, by go_num, ⟨HST1.out.other HT.out.1 (by have := HN5.out; omega), HST1.out.other HT.out.2.1 (by have := HN5.out; omega), HST1.out.below HT.out.2.2 (by have := HN5.out; omega)⟩, HST1.out.1⟩
            case measure => omega
          · obtain rfl : i = 32 := by omega
            rw [out_all] at hO
            have hR : bs (outb V3) = bs R := by
              rw [HR.out, sha, HV3.out.1, HX2.out, ← HFV.out]
            rw [hR] at hO
            have hRl : (bs R).length = 32 := by rw [← hR, bs_length, outb_length]
            have HRL := Lib.hid hRl; clear hRl hR
            have HT := Lib.hid hT; clear hT
            have HO := Lib.hid hO; clear hO
            go_wp2_with (first
              | (refine wpList_load_blk rfl 91 (.tmp 5) rfl _ 0 rfl HO.out _ Tryd.underlying91 rfl 32 Tryd.size24 (by rw [HRL.out]; omega) ?_; rw [List.drop_zero, List.take_of_length_le (by rw [HRL.out]; omega)])
              | (refine wpList_store_blk rfl 91 (.tmp 2) (.tmp 52) rfl _ 0 rfl (bs R) rfl HT.out.2.1 32 Tryd.size24 HRL.out (by rw [bs_length, List.length_replicate]; omega) (bs_one _) ?_; intro w6 hst6; rw [List.take_zero, List.nil_append, List.drop_of_length_le (by rw [bs_length, List.length_replicate]; omega), List.append_nil] at hst6; have HST6 := Lib.hid hst6; clear hst6))
            refine ret_blk rfl _ rfl HST6.out.1 _ Tryd.underlying91 rfl (by rw [HRL.out]; exact Tryd.size24) rfl ⟨rfl, HST6.out.below HT.out.2.2 (by omega)⟩
  · have hlong' : ¬ (56 : Int) ≤ (L : Int) % 64 := by omega
    obtain ⟨V1, hV1⟩ : ∃ V, V = V0 := ⟨_, rfl⟩
    obtain ⟨X1, hX1e⟩ : ∃ X, X = X1' := ⟨_, rfl⟩
    have HI : Hid (V1.length = 8 ∧ X1.length = 64) := Lib.hid ⟨by rw [hV1]; exact HLL.out.1, by rw [hX1e]; exact HX1.out.2⟩
    have HFV : Hid (hv (padded m) = comp V1 (lay 8 X1 L)) := Lib.hid (by
      rw [pad_short m (by rw [← HH.out.1]; omega), hV1, hX1e, HX1.out.1, HH.out.2.1, HH.out.2.2, HH.out.1])
    have HE := Lib.hid (And.intro hV1 hX1e); clear hX1e hV1
    go_enter Tryd.func63, Tryd.ntmps63
    go_wp2_with (refine wpList_store_int rfl 5 (.tmp 12) (.const (.int .u8 128)) rfl w.heap.size (8 + L % 64) rfl .u8 128 rfl HT0.out.1 (by rw [strm_length HLL.out.1 HLL.out.2]; omega) Tryd.size1 ?_; intro w1 hst1; rw [c128, strm_setX HLL.out.1 HLL.out.2 (by omega), ← HX1.out.1] at hst1; have HT : Hid (TI w V1 X1 L w1) := Lib.hid ⟨by rw [HE.out.1, HE.out.2]; exact hst1.1, hst1.other HT0.out.2.1 (by omega), hst1.below HT0.out.2.2 (Nat.le_refl _)⟩; clear hst1)
    clear hc0 hl73
    go_wp2_with fail
    go_loopg [17] 8 (fun g s17 wr => ∃ i : Nat, i + g = 8 ∧ s17 = .int .i64 i ∧ TI w V1 (lay i X1 L) L wr)
    case atStart => exact ⟨0, rfl, rfl, by rw [lay_zero]; exact HT.out⟩
    case round =>
      clear HT
      obtain ⟨i, hi, rfl, hT⟩ := hrel
      have HLAY := Lib.hid (lay_length i X1 L HI.out.2 (by omega))
      by_cases hlt : i < 8
      · obtain ⟨g, rfl⟩ : ∃ g, gk = g + 1 := ⟨gk - 1, by omega⟩
        have hc := hT.1.cell (strm_n (n := L) HI.out.1 HLAY.out)
        obtain ⟨sh, hsh⟩ : ∃ sh : Nat, (56 : Int) - 8 * (i : Int) = (sh : Int) := ⟨56 - 8 * i, by omega⟩
        have hshN : sh = 56 - 8 * i := by omega
        have hsh1 : sh ≤ 56 := by omega
        have HSH := Lib.hid hshN; clear hshN
        have HT := Lib.hid hT; clear hT
        obtain ⟨c, hce⟩ : ∃ c, c = UInt8.ofNat (8 * L / 2 ^ (56 - 8 * i)) := ⟨_, rfl⟩
        have HCE := Lib.hid hce; clear hce
        have hu8 : ((8 * (L : Int)) / 2 ^ sh) % 256 = (c.toNat : Int) := by
          rw [HCE.out, ← HSH.out]
          have : (8 * (L : Int)) / 2 ^ sh = ((8 * L / 2 ^ sh : Nat) : Int) := by simp
          rw [this]
          simp
        have HU8 := Lib.hid hu8; clear hu8
        go_wp2_with (refine wpList_store_int rfl 5 (.tmp 31) (.tmp 29) rfl w.heap.size (8 + (56 + i)) rfl .u8 (8 * (L : Int) / 2 ^ sh % 256) rfl HT.out.1 (by rw [strm_length HI.out.1 HLAY.out]; omega) Tryd.size1 ?_; intro w1 hst1; rw [HU8.out, strm_setX HI.out.1 HLAY.out (by omega), HCE.out, lay_set i X1 L HI.out.2 hlt] at hst1; have HST1 := Lib.hid hst1; clear hst1)
        go_roundg g
        case rel => exact ⟨i + 1, by omega, by go_num, HST1.out.1, HST1.out.other HT.out.2.1 (by omega), HST1.out.below HT.out.2.2 (Nat.le_refl _)⟩
        case measure => omega
      · obtain rfl : i = 8 := by omega
        have HT := Lib.hid hT; clear hT
        obtain ⟨X2, hX2⟩ : ∃ X, X = lay 8 X1 L := ⟨_, rfl⟩
        rw [← hX2] at HT HLAY
        have HX2 := Lib.hid hX2; clear hX2
        obtain ⟨V3, hV3⟩ : ∃ V, V = comp V1 X2 := ⟨_, rfl⟩
        have hfin := fun W => fin_any V1 X2 L HI.out.1 HLAY.out W
        rw [← hV3] at hfin
        have hV3l : V3.length = 8 := by rw [hV3, comp_length _ _ HI.out.1]
        have HFIN := Lib.hid hfin; clear hfin
        have HV3 := Lib.hid (And.intro hV3 hV3l); clear hV3 hV3l
        go_wp2_with (first
          | (refine wpList_load_blk rfl 87 (.tmp 1) rfl _ 0 rfl HT.out.1 _ Tryd.underlying87 rfl 73 Tryd.size34 (by rw [strm_length HI.out.1 HLAY.out]; omega) ?_; rw [List.drop_zero, List.take_of_length_le (by rw [strm_length HI.out.1 HLAY.out]; omega)])
          | (refine ((HFIN.out _) (HK.out.below HT.out.2.2 HK.out.2)).mono ?_
             rintro e w2 ⟨rfl, hb2⟩
             have HT2 : Hid (TI w V1 X2 L w2) := Lib.hid ⟨HT.out.1.below hb2 HT.out.1.lt, HT.out.2.1.below hb2 HT.out.2.1.lt, HT.out.2.2.trans (hb2.mono (Nat.le_of_lt HT.out.1.lt))⟩
             clear hb2)
          | (refine wpList_store_blk rfl 87 (.tmp 1) (.tmp 34) rfl _ 0 rfl (strm V3 Z64 L) rfl HT2.out.1 73 Tryd.size34 (strm_length HV3.out.2 Z64_length) (by rw [strm_length HI.out.1 HLAY.out]; omega) (strm_one _ _ _) ?_; intro w4 hst4; rw [List.take_zero, List.nil_append, List.drop_of_length_le (by rw [strm_length HI.out.1 HLAY.out]; omega), List.append_nil] at hst4; have HT4 : Hid (TI w V3 Z64 L w4) := Lib.hid ⟨hst4.1, hst4.other HT2.out.2.1 (by omega), hst4.below HT2.out.2.2 (Nat.le_refl _)⟩; clear hst4))
        have HN5 : Hid (w.heap.size + 1 < w4.heap.size) := Lib.hid HT4.out.2.1.lt
        have HS5 := Lib.hid (Blk.new' w4 (bs (List.replicate 32 0)) _ 91 rfl)
        have HT5 : Hid (TI w V3 Z64 L (w4.alloc (.cells (bs (List.replicate 32 0)).toArray 91))) := Lib.hid ⟨HT4.out.1.alloc _, HT4.out.2.1.alloc _, HT4.out.2.2.alloc (by have := HN5.out; omega) _⟩
        obtain ⟨S, hS⟩ : ∃ S, S = w4.heap.size := ⟨_, rfl⟩
        rw [← hS] at HS5 HN5 ⊢
        clear hS
        go_loopg [35] 32 (fun g s35 wr => ∃ i : Nat, i + g = 32 ∧ s35 = .int .i64 i ∧ TI w V3 Z64 L wr ∧ Blk wr S (bs (out i V3)) 91)
        case atStart => exact ⟨0, rfl, rfl, HT5.out, by rw [show out 0 V3 = List.replicate 32 0 from by rw [out]; rfl]; exact HS5.out⟩
        case round =>
          clear HT5 HS5 HT4
          obtain ⟨i, hi, rfl, hT, hO⟩ := hrel
          by_cases hlt : i < 32
          · obtain ⟨g, rfl⟩ : ∃ g, gk = g + 1 := ⟨gk - 1, by omega⟩
            have hc := hT.1.cell (strm_Vat (X := Z64) (n := L) HV3.out.2 (j := i / 4) (by omega))
            obtain ⟨v, hv⟩ : ∃ v, v = V3.getD (i / 4) 0 := ⟨_, rfl⟩
            rw [← hv] at hc
            obtain ⟨sh, hsh⟩ : ∃ sh : Nat, (24 : Int) - 8 * ((i : Int) % 4) = (sh : Int) := ⟨24 - 8 * (i % 4), by omega⟩
            have hshN : sh = 24 - 8 * (i % 4) := by omega
            have hsh1 : sh ≤ 24 := by omega
            have HSH := Lib.hid hshN; clear hshN
            have HV := Lib.hid hv; clear hv
            have HT := Lib.hid hT; clear hT
            have HO := Lib.hid hO; clear hO
            have hq4 : ((i : Int) / 4).toNat = i / 4 := by omega
            obtain ⟨c, hce⟩ : ∃ c, c = obyte V3 i := ⟨_, rfl⟩
            have HCE := Lib.hid hce; clear hce
            have hu8 : ((v.toNat : Int) / 2 ^ sh) % 256 = (c.toNat : Int) := by
              rw [HCE.out, obyte, ← HV.out, ← HSH.out]
              have : (v.toNat : Int) / 2 ^ sh = ((v.toNat / 2 ^ sh : Nat) : Int) := by simp
              rw [this]
              simp
            have HU8 := Lib.hid hu8; clear hu8
            have hw32 := w32_lt v
            go_wp2_with (refine wpList_store_int rfl 5 (.tmp 50) (.tmp 49) rfl S i rfl .u8 ((v.toNat : Int) / 2 ^ sh % 256) rfl HO.out (by rw [bs_length, out_length i V3 (by omega)]; omega) Tryd.size1 ?_; intro w1 hst1; rw [HU8.out, bs_set, HCE.out, out_set i V3 hlt] at hst1; have HST1 := Lib.hid hst1; clear hst1)
            go_roundg g
            case rel => exact ⟨i + 1, by omega, by go_num, ⟨HST1.out.other HT.out.1 (by have := HN5.out; omega), HST1.out.other HT.out.2.1 (by have := HN5.out; omega), HST1.out.below HT.out.2.2 (by have := HN5.out; omega)⟩, HST1.out.1⟩
            case measure => omega
          · obtain rfl : i = 32 := by omega
            rw [out_all] at hO
            have hR : bs (outb V3) = bs R := by
              rw [HR.out, sha, HV3.out.1, HX2.out, ← HFV.out]
            rw [hR] at hO
            have hRl : (bs R).length = 32 := by rw [← hR, bs_length, outb_length]
            have HRL := Lib.hid hRl; clear hRl hR
            have HT := Lib.hid hT; clear hT
            have HO := Lib.hid hO; clear hO
            go_wp2_with (first
              | (refine wpList_load_blk rfl 91 (.tmp 5) rfl _ 0 rfl HO.out _ Tryd.underlying91 rfl 32 Tryd.size24 (by rw [HRL.out]; omega) ?_; rw [List.drop_zero, List.take_of_length_le (by rw [HRL.out]; omega)])
              | (refine wpList_store_blk rfl 91 (.tmp 2) (.tmp 52) rfl _ 0 rfl (bs R) rfl HT.out.2.1 32 Tryd.size24 HRL.out (by rw [bs_length, List.length_replicate]; omega) (bs_one _) ?_; intro w6 hst6; rw [List.take_zero, List.nil_append, List.drop_of_length_le (by rw [bs_length, List.length_replicate]; omega), List.append_nil] at hst6; have HST6 := Lib.hid hst6; clear hst6))
            refine ret_blk rfl _ rfl HST6.out.1 _ Tryd.underlying91 rfl (by rw [HRL.out]; exact Tryd.size24) rfl ⟨rfl, HST6.out.below HT.out.2.2 (by omega)⟩
theorem sum_any (m : List UInt8) (hlen : m.length < 576460752303423488) (w : World) (hK : KH w) :
    Calls Tryd.prog 63 #[.agg (Str m).toArray] w fun e w' => e = .returned (.agg (bs (sha m)).toArray) ∧ Below w.heap.size w w' := sum_aux m _ rfl hlen w hK
end Go.Proofs.YtkaaejfochdjcaaDoor
