/-
  The walk of hash.Mac.
-/
import Derived.Test.YtbgcnfikcddcpaaDoorHMask
namespace Go.Proofs.YtbgcnfikcddcpaaDoor
open Go.RowKit
set_option linter.unusedVariables false
namespace Sha
/-- The key that counts. -/
def ekey (k : List UInt8) : List UInt8 := if 64 < k.length then sha k else k
theorem sha_length (m : List UInt8) : (sha m).length = 32 := by rw [sha, outb_length]
theorem ekey_length (k : List UInt8) : (ekey k).length ≤ 64 := by
  unfold ekey
  split
  · rw [sha_length]; omega
  · omega
def mac (k t : List UInt8) : List UInt8 := sha (mask (ekey k) 92 ++ sha (mask (ekey k) 54 ++ t))
attribute [irreducible] ekey mac
end Sha
open Sha
theorem begin_add (m : List UInt8) (h : m.length < 4611686018427387904) (W : World) (hk : KH W) : Calls Tryd.prog 59 #[.agg (Str []).toArray, .string (sb m)] W fun e w' => e = .returned (.agg (Str m).toArray) ∧ Below W.heap.size W w' := add_any [] m (by simpa using h) W hk

theorem conv_blk {W : World} {B n : Nat} {l : List UInt8} {T : TypeId} (c : Nat) (h : Blk W B (bs l) T) (hn : n = l.length) : (convert 58 9 (.slice (some ⟨B, 0, none⟩) n c)).run Tryd.prog W = .ok (.string (sb l)) W :=
  conv_sb c hn (.inr ⟨_, 0, rfl, fun j v hv => by rw [Nat.zero_add]; exact h.cell hv⟩)
theorem sl24_blk {W : World} {B : Nat} {C : List Value} {T : TypeId} (h : Blk W B C T) (w' : World) : (Instr.sliceAt 98 (.pointer (some ⟨B, 0, none⟩)) none none none).run Tryd.prog w' = .ok (.slice (some ⟨B, 0, none⟩) 32 32) w' :=
  slice_arr_all (P := Tryd.prog) (t := 98) Tryd.underlying98 Tryd.size1 B 0 w'
theorem stored32 {W : World} {B : Nat} {T : TypeId} {R : List UInt8} (h : Blk W B (bs (List.replicate 32 0)) T) (hR : (bs R).length = 32) : Stored W (W.setCells B 0 (bs R)) B (bs R) T := by
  have := Stored.of_setCells h 0 (bs R) (by rw [hR, bs_length, List.length_replicate]; omega)
  rw [List.take_zero, List.nil_append, List.drop_of_length_le (by rw [hR, bs_length, List.length_replicate]; omega), List.append_nil] at this
  exact this
/-- A new array of 32 bytes. -/
def Nw (w v : World) (B : Nat) : Prop := w.heap.size ≤ B ∧ Blk v B (bs (List.replicate 32 0)) 98
theorem Nw.step {w v v' : World} {B : Nat} (h : Nw w v B) (hb : Below v.heap.size v v') : Nw w v' B := ⟨h.1, h.2.below hb h.2.lt⟩
theorem Nw.new {w v : World} (h : Below w.heap.size w v) : Nw w (v.alloc (.cells #[.int .u8 0, .int .u8 0, .int .u8 0, .int .u8 0, .int .u8 0, .int .u8 0, .int .u8 0, .int .u8 0, .int .u8 0, .int .u8 0, .int .u8 0, .int .u8 0, .int .u8 0, .int .u8 0, .int .u8 0, .int .u8 0, .int .u8 0, .int .u8 0, .int .u8 0, .int .u8 0, .int .u8 0, .int .u8 0, .int .u8 0, .int .u8 0, .int .u8 0, .int .u8 0, .int .u8 0, .int .u8 0, .int .u8 0, .int .u8 0, .int .u8 0, .int .u8 0] 98)) v.heap.size := ⟨h.size, Blk.new' v _ _ _ rfl⟩
theorem Nw.new0 (w : World) : Nw w (w.drew.alloc (.cells #[.int .u8 0, .int .u8 0, .int .u8 0, .int .u8 0, .int .u8 0, .int .u8 0, .int .u8 0, .int .u8 0, .int .u8 0, .int .u8 0, .int .u8 0, .int .u8 0, .int .u8 0, .int .u8 0, .int .u8 0, .int .u8 0, .int .u8 0, .int .u8 0, .int .u8 0, .int .u8 0, .int .u8 0, .int .u8 0, .int .u8 0, .int .u8 0, .int .u8 0, .int .u8 0, .int .u8 0, .int .u8 0, .int .u8 0, .int .u8 0, .int .u8 0, .int .u8 0] 98)) w.heap.size := ⟨Nat.le_refl _, Blk.new' w.drew _ _ _ rfl⟩

set_option maxRecDepth 100000 in
set_option maxHeartbeats 4000000 in
theorem mac_aux (k t E I O R1 R2 : List UInt8) (hE : E = ekey k) (hI : I = mask E 54) (hO : O = mask E 92) (hR1 : R1 = sha (I ++ t)) (hR2 : R2 = sha (O ++ R1)) (ht : t.length < 288230376151711744) (hk' : k.length < 288230376151711744) (w : World) (hK : KH w) :
    Calls Tryd.prog 52 #[.string (sb k), .string (sb t)] w fun e w' => e = .returned (.string (sb R2)) ∧ Below w.heap.size w w' := by
  have hEl : E.length ≤ 64 := by rw [hE]; exact ekey_length k
  have hIl : I.length = 64 := by rw [hI]; exact mask_length E 54 hEl
  have hOl : O.length = 64 := by rw [hO]; exact mask_length E 92 hEl
  have hR1l : R1.length = 32 := by rw [hR1, sha_length]
  have hR2l : R2.length = 32 := by rw [hR2, sha_length]
  obtain ⟨S0, hS0⟩ : ∃ S, S = Str [] := ⟨_, rfl⟩
  obtain ⟨S1, hS1⟩ : ∃ S, S = Str I := ⟨_, rfl⟩
  obtain ⟨S2, hS2⟩ : ∃ S, S = Str (I ++ t) := ⟨_, rfl⟩
  obtain ⟨S3, hS3⟩ : ∃ S, S = Str O := ⟨_, rfl⟩
  obtain ⟨S4, hS4⟩ : ∃ S, S = Str (O ++ R1) := ⟨_, rfl⟩
  have HBG := Lib.hid (fun W => by have := begin_str W; rw [← hS0] at this; exact this)
  have HA1 := Lib.hid (fun W hk => by have := begin_add I (by omega) W hk; rw [← hS0, ← hS1] at this; exact this)
  have HA2 := Lib.hid (fun W hk => by have := add_any I t (by omega) W hk; rw [← hS1, ← hS2] at this; exact this)
  have HS1 := Lib.hid (fun W hk => by have := sum_any (I ++ t) (by simp; omega) W hk; rw [← hS2, ← hR1] at this; exact this)
  have HA3 := Lib.hid (fun W hk => by have := begin_add O (by omega) W hk; rw [← hS0, ← hS3] at this; exact this)
  have HA4 := Lib.hid (fun W hk => by have := add_any O R1 (by omega) W hk; rw [← hS3, ← hS4] at this; exact this)
  have HS2 := Lib.hid (fun W hk => by have := sum_any (O ++ R1) (by simp; omega) W hk; rw [← hS4, ← hR2] at this; exact this)
  have HMI : Hid (∀ W, Calls Tryd.prog 66 #[.string (sb E), .int .u8 54] W fun e w' => e = .returned (.string (sb I)) ∧ Below W.heap.size W w') := Lib.hid (fun W => by rw [hI]; exact mask_any E 54 hEl W)
  have HMO : Hid (∀ W, Calls Tryd.prog 66 #[.string (sb E), .int .u8 92] W fun e w' => e = .returned (.string (sb O)) ∧ Below W.heap.size W w') := Lib.hid (fun W => by rw [hO]; exact mask_any E 92 hEl W)
  have HL1 : Hid ((bs R1).length = 32) := Lib.hid (by rw [bs_length, hR1l])
  have HL2 : Hid ((bs R2).length = (bs (List.replicate 32 0)).length ∧ (bs R2).length = 32) := Lib.hid ⟨by rw [bs_length, hR2l, bs_length, List.length_replicate], by rw [bs_length, hR2l]⟩
  have HL3 : Hid (32 = R1.length ∧ 32 = R2.length) := Lib.hid ⟨hR1l.symm, hR2l.symm⟩
  have HE := Lib.hid hE
  have HK := Lib.hid hK; clear hK
  clear hS0 hS1 hS2 hS3 hS4 hE hI hO hR1 hR2 hEl hIl hOl hR1l hR2l
  have hsz := sb_size k
  have hl2 := HL2.out.2
  by_cases hlong : 64 < k.length
  · have hEs : E = sha k := by rw [HE.out, ekey, if_pos hlong]
    have hEl : (bs E).length = 32 := by rw [bs_length, hEs, sha_length]
    have hhs := fun (A : Option Addr) (c : Nat) (W : World) (hr : Rd W A (bs k)) (hk : KH W) => hsum_any k A (sb k).size c hsz (by omega) W hr hk
    rw [← hEs] at hhs
    have HHS := Lib.hid hhs; clear hhs
    have HEL := Lib.hid hEl; clear hEl
    clear hEs
    obtain ⟨c0, w0, hcb, hr0, hbl0⟩ := conv_back (P := Tryd.prog) (src := 9) (dst := 58) Tryd.underlying9 Tryd.underlying58 Tryd.underlying5 w (sb k)
    have HR0 := Lib.hid hr0; clear hr0
    have HBL0 := Lib.hid hbl0; clear hbl0
    go_enter Tryd.func52, Tryd.ntmps52
    go_wp2_with (first
      | (refine (HHS.out _ _ _ (by have := HR0.out; rw [sb_list] at this; exact this) (HK.out.below HBL0.out HK.out.2)).mono ?_; rintro e x1 ⟨rfl, hb1⟩; have HX1 : Hid (Below w.heap.size w x1) := Lib.hid (below_next HBL0.out hb1); clear hb1)
      | (refine wpList_store_blk rfl 98 (.tmp 5) (.tmp 13) rfl _ 0 rfl (bs E) rfl (Blk.new' x1 (bs (List.replicate 32 0)) _ 98 rfl) 32 Tryd.size24 HEL.out (by rw [bs_length, List.length_replicate]; omega) (bs_one _) ?_; intro x2 hst2; rw [List.take_zero, List.nil_append, List.drop_of_length_le (by rw [bs_length, List.length_replicate]; omega), List.append_nil] at hst2; have HB0 : Hid (Below w.heap.size w x2) := Lib.hid (hst2.below (HX1.out.alloc (HX1.out.size) _) HX1.out.size); have hslE := fun w' => slice_arr_all (P := Tryd.prog) (t := 98) Tryd.underlying98 Tryd.size1 x1.heap.size 0 w'; have hcvE := conv_sb (A := some ⟨x1.heap.size, 0, none⟩) (l := E) (n := 32) (w := x2) 32 (by have := HEL.out; rw [bs_length] at this; exact this.symm) (.inr ⟨_, 0, rfl, fun j v hv => by rw [Nat.zero_add]; exact hst2.1.cell hv⟩); clear hst2)
      | (refine (HBG.out _).mono ?_; rintro e w1 ⟨rfl, hb1⟩; have HB1 : Hid (Below w.heap.size w w1) := Lib.hid (below_next HB0.out hb1); clear hb1)
      | ((with_reducible refine (HMI.out _).mono ?_); rintro e w2 ⟨rfl, hb2⟩; have HB2 : Hid (Below w.heap.size w w2) := Lib.hid (below_next HB1.out hb2); clear hb2)
      | ((with_reducible refine (HA1.out _ ?_).mono ?_); exact (HK.out.below HB2.out HK.out.2); rintro e w3 ⟨rfl, hb3⟩; have HB3 : Hid (Below w.heap.size w w3) := Lib.hid (below_next HB2.out hb3); clear hb3)
      | ((with_reducible refine (HA2.out _ ?_).mono ?_); exact (HK.out.below HB3.out HK.out.2); rintro e w4 ⟨rfl, hb4⟩; have HB4 : Hid (Below w.heap.size w w4) := Lib.hid (below_next HB3.out hb4); clear hb4)
      | ((with_reducible refine (HS1.out _ ?_).mono ?_); exact (HK.out.below HB4.out HK.out.2); rintro e w5 ⟨rfl, hb5⟩; have HB5 : Hid (Below w.heap.size w w5) := Lib.hid (below_next HB4.out hb5); clear hb5)
      | (refine wpList_store_blk rfl 98 (.tmp 6) (.tmp 22) rfl _ 0 rfl (bs R1) rfl (Blk.new' w5 (bs (List.replicate 32 0)) _ 98 rfl) 32 Tryd.size24 HL1.out (by rw [bs_length, List.length_replicate]; omega) (bs_one _) ?_; intro w6 hst6; rw [List.take_zero, List.nil_append, List.drop_of_length_le (by rw [bs_length, List.length_replicate]; omega), List.append_nil] at hst6; have HB6 : Hid (Below w.heap.size w w6) := Lib.hid (hst6.below (HB5.out.alloc (HB5.out.size) _) HB5.out.size); have HM6 : Hid (Blk w6 w5.heap.size (bs R1) 98) := Lib.hid hst6.1; clear hst6))
    have HCV : Hid (∀ W, Below w6.heap.size w6 W → (convert 58 9 (.slice (some ⟨w5.heap.size, 0, none⟩) 32 32)).run Tryd.prog W = .ok (.string (sb R1)) W) := Lib.hid fun W hW => conv_blk 32 (HM6.out.below hW HM6.out.lt) HL3.out.1
    have hsl5 := sl24_blk HM6.out
    have HB60 := Lib.hid (Below.refl w6.heap.size w6)
    have HC0 : Hid (Below w6.heap.size w6 w6.drew) := Lib.hid HB60.out.drew
    have K6 := Lib.hid (HK.out.below HB6.out HK.out.2)
    go_region_held3 (fun w' => (convert 58 9 (.slice (some ⟨w5.heap.size, 0, none⟩) 32 32)).run Tryd.prog w' = .ok (.string (sb R1)) w' ∧ True) (first | exact ⟨HCV.out _ HC7.out, trivial⟩ | exact ⟨HCV.out _ HC5.out, trivial⟩ | exact ⟨HCV.out _ (HC5.out.alloc HC5.out.size _), trivial⟩ | exact ⟨HCV.out _ HC4.out, trivial⟩ | exact ⟨HCV.out _ (HC4.out.alloc HC4.out.size _), trivial⟩ | exact ⟨HCV.out _ HC3.out, trivial⟩ | exact ⟨HCV.out _ (HC3.out.alloc HC3.out.size _), trivial⟩ | exact ⟨HCV.out _ HC2.out, trivial⟩ | exact ⟨HCV.out _ (HC2.out.alloc HC2.out.size _), trivial⟩ | exact ⟨HCV.out _ HC1.out, trivial⟩ | exact ⟨HCV.out _ (HC1.out.alloc HC1.out.size _), trivial⟩ | exact ⟨HCV.out _ HC0.out, trivial⟩ | exact ⟨HCV.out _ (HC0.out.alloc HC0.out.size _), trivial⟩ | exact ⟨HCV.out _ HB60.out, trivial⟩) (first
      | (go_at_call 58; refine (HBG.out _).mono ?_; rintro e v1 ⟨rfl, hbx⟩; have HC1 : Hid (Below w6.heap.size w6 v1) := Lib.hid (by first | exact below_next HC0.out hbx | exact below_next (HC0.out.alloc HC0.out.size _) hbx); (first | (have HN1 := Lib.hid (HN0.out.step hbx)) | (have HN1 := Lib.hid ((Nw.new0 w6).step hbx)) | skip); clear hbx)
      | (go_at_call 66; refine (HMO.out _).mono ?_; rintro e v2 ⟨rfl, hbx⟩; have HC2 : Hid (Below w6.heap.size w6 v2) := Lib.hid (by first | exact below_next HC1.out hbx | exact below_next (HC1.out.alloc HC1.out.size _) hbx); (first | (have HN2 := Lib.hid (HN1.out.step hbx)) | (have HN2 := Lib.hid ((Nw.new HC1.out).step hbx)) | skip); clear hbx)
      | (go_at_call 59; (with_reducible refine (HA3.out _ ?_).mono ?_); (first | exact (K6.out.below HC2.out K6.out.2) | exact (K6.out.below (HC2.out.alloc HC2.out.size _) K6.out.2)); rintro e v3 ⟨rfl, hbx⟩; have HC3 : Hid (Below w6.heap.size w6 v3) := Lib.hid (by first | exact below_next HC2.out hbx | exact below_next (HC2.out.alloc HC2.out.size _) hbx); (first | (have HN3 := Lib.hid (HN2.out.step hbx)) | (have HN3 := Lib.hid ((Nw.new HC2.out).step hbx)) | skip); clear hbx)
      | (go_at_call 59; (with_reducible refine (HA4.out _ ?_).mono ?_); (first | exact (K6.out.below HC3.out K6.out.2) | exact (K6.out.below (HC3.out.alloc HC3.out.size _) K6.out.2)); rintro e v4 ⟨rfl, hbx⟩; have HC4 : Hid (Below w6.heap.size w6 v4) := Lib.hid (by first | exact below_next HC3.out hbx | exact below_next (HC3.out.alloc HC3.out.size _) hbx); (first | (have HN4 := Lib.hid (HN3.out.step hbx)) | (have HN4 := Lib.hid ((Nw.new HC3.out).step hbx)) | skip); clear hbx)
      | (go_at_call 61; (with_reducible refine (HS2.out _ ?_).mono ?_); (first | exact (K6.out.below HC4.out K6.out.2) | exact (K6.out.below (HC4.out.alloc HC4.out.size _) K6.out.2)); rintro e v5 ⟨rfl, hbx⟩; have HC5 : Hid (Below w6.heap.size w6 v5) := Lib.hid (by first | exact below_next HC4.out hbx | exact below_next (HC4.out.alloc HC4.out.size _) hbx); (first | (have HN5 := Lib.hid (HN4.out.step hbx)) | (have HN5 := Lib.hid ((Nw.new HC4.out).step hbx)) | skip); (first | (have HSS := Lib.hid (stored32 (R := R2) HN5.out.2 HL2.out.2); have HC7 := Lib.hid (HSS.out.below HC5.out HN5.out.1)) | (have HSS := Lib.hid (stored32 (R := R2) (Nw.new HC5.out).2 HL2.out.2); have HC7 := Lib.hid (HSS.out.below (HC5.out.alloc HC5.out.size _) HC5.out.size))); have hone := bs_one R2; have hi24 := Tryd.size24; (first | (have hth := HN5.out.2.there 0 32 (by rw [bs_length, List.length_replicate]; omega)) | (have hth := (Nw.new HC5.out).2.there 0 32 (by rw [bs_length, List.length_replicate]; omega))); clear hbx))
    all_goals clear hone hth hi24
    all_goals have hsl9 := sl24_blk HSS.out.1
    all_goals have hcv9 := conv_blk (n := 32) (l := R2) 32 HSS.out.1 HL3.out.2
    all_goals go_wp2_with fail
    all_goals go_ret
    all_goals exact ⟨rfl, below_next HB6.out HC7.out⟩
  · have hEs : E = k := by rw [HE.out, ekey, if_neg hlong]
    have HB0 : Hid (Below w.heap.size w w) := Lib.hid (Below.refl _ _)
    rw [hEs] at HMI HMO
    clear hEs
    go_enter Tryd.func52, Tryd.ntmps52
    go_wp2_with (first
      | (refine (HBG.out _).mono ?_; rintro e w1 ⟨rfl, hb1⟩; have HB1 : Hid (Below w.heap.size w w1) := Lib.hid (below_next HB0.out hb1); clear hb1)
      | ((with_reducible refine (HMI.out _).mono ?_); rintro e w2 ⟨rfl, hb2⟩; have HB2 : Hid (Below w.heap.size w w2) := Lib.hid (below_next HB1.out hb2); clear hb2)
      | ((with_reducible refine (HA1.out _ ?_).mono ?_); exact (HK.out.below HB2.out HK.out.2); rintro e w3 ⟨rfl, hb3⟩; have HB3 : Hid (Below w.heap.size w w3) := Lib.hid (below_next HB2.out hb3); clear hb3)
      | ((with_reducible refine (HA2.out _ ?_).mono ?_); exact (HK.out.below HB3.out HK.out.2); rintro e w4 ⟨rfl, hb4⟩; have HB4 : Hid (Below w.heap.size w w4) := Lib.hid (below_next HB3.out hb4); clear hb4)
      | ((with_reducible refine (HS1.out _ ?_).mono ?_); exact (HK.out.below HB4.out HK.out.2); rintro e w5 ⟨rfl, hb5⟩; have HB5 : Hid (Below w.heap.size w w5) := Lib.hid (below_next HB4.out hb5); clear hb5)
      | (refine wpList_store_blk rfl 98 (.tmp 6) (.tmp 22) rfl _ 0 rfl (bs R1) rfl (Blk.new' w5 (bs (List.replicate 32 0)) _ 98 rfl) 32 Tryd.size24 HL1.out (by rw [bs_length, List.length_replicate]; omega) (bs_one _) ?_; intro w6 hst6; rw [List.take_zero, List.nil_append, List.drop_of_length_le (by rw [bs_length, List.length_replicate]; omega), List.append_nil] at hst6; have HB6 : Hid (Below w.heap.size w w6) := Lib.hid (hst6.below (HB5.out.alloc (HB5.out.size) _) HB5.out.size); have HM6 : Hid (Blk w6 w5.heap.size (bs R1) 98) := Lib.hid hst6.1; clear hst6))
    have HCV : Hid (∀ W, Below w6.heap.size w6 W → (convert 58 9 (.slice (some ⟨w5.heap.size, 0, none⟩) 32 32)).run Tryd.prog W = .ok (.string (sb R1)) W) := Lib.hid fun W hW => conv_blk 32 (HM6.out.below hW HM6.out.lt) HL3.out.1
    have hsl5 := sl24_blk HM6.out
    have HB60 := Lib.hid (Below.refl w6.heap.size w6)
    have HC0 : Hid (Below w6.heap.size w6 w6.drew) := Lib.hid HB60.out.drew
    have K6 := Lib.hid (HK.out.below HB6.out HK.out.2)
    go_region_held3 (fun w' => (convert 58 9 (.slice (some ⟨w5.heap.size, 0, none⟩) 32 32)).run Tryd.prog w' = .ok (.string (sb R1)) w' ∧ True) (first | exact ⟨HCV.out _ HC7.out, trivial⟩ | exact ⟨HCV.out _ HC5.out, trivial⟩ | exact ⟨HCV.out _ (HC5.out.alloc HC5.out.size _), trivial⟩ | exact ⟨HCV.out _ HC4.out, trivial⟩ | exact ⟨HCV.out _ (HC4.out.alloc HC4.out.size _), trivial⟩ | exact ⟨HCV.out _ HC3.out, trivial⟩ | exact ⟨HCV.out _ (HC3.out.alloc HC3.out.size _), trivial⟩ | exact ⟨HCV.out _ HC2.out, trivial⟩ | exact ⟨HCV.out _ (HC2.out.alloc HC2.out.size _), trivial⟩ | exact ⟨HCV.out _ HC1.out, trivial⟩ | exact ⟨HCV.out _ (HC1.out.alloc HC1.out.size _), trivial⟩ | exact ⟨HCV.out _ HC0.out, trivial⟩ | exact ⟨HCV.out _ (HC0.out.alloc HC0.out.size _), trivial⟩ | exact ⟨HCV.out _ HB60.out, trivial⟩) (first
      | (go_at_call 58; refine (HBG.out _).mono ?_; rintro e v1 ⟨rfl, hbx⟩; have HC1 : Hid (Below w6.heap.size w6 v1) := Lib.hid (by first | exact below_next HC0.out hbx | exact below_next (HC0.out.alloc HC0.out.size _) hbx); (first | (have HN1 := Lib.hid (HN0.out.step hbx)) | (have HN1 := Lib.hid ((Nw.new0 w6).step hbx)) | skip); clear hbx)
      | (go_at_call 66; refine (HMO.out _).mono ?_; rintro e v2 ⟨rfl, hbx⟩; have HC2 : Hid (Below w6.heap.size w6 v2) := Lib.hid (by first | exact below_next HC1.out hbx | exact below_next (HC1.out.alloc HC1.out.size _) hbx); (first | (have HN2 := Lib.hid (HN1.out.step hbx)) | (have HN2 := Lib.hid ((Nw.new HC1.out).step hbx)) | skip); clear hbx)
      | (go_at_call 59; (with_reducible refine (HA3.out _ ?_).mono ?_); (first | exact (K6.out.below HC2.out K6.out.2) | exact (K6.out.below (HC2.out.alloc HC2.out.size _) K6.out.2)); rintro e v3 ⟨rfl, hbx⟩; have HC3 : Hid (Below w6.heap.size w6 v3) := Lib.hid (by first | exact below_next HC2.out hbx | exact below_next (HC2.out.alloc HC2.out.size _) hbx); (first | (have HN3 := Lib.hid (HN2.out.step hbx)) | (have HN3 := Lib.hid ((Nw.new HC2.out).step hbx)) | skip); clear hbx)
      | (go_at_call 59; (with_reducible refine (HA4.out _ ?_).mono ?_); (first | exact (K6.out.below HC3.out K6.out.2) | exact (K6.out.below (HC3.out.alloc HC3.out.size _) K6.out.2)); rintro e v4 ⟨rfl, hbx⟩; have HC4 : Hid (Below w6.heap.size w6 v4) := Lib.hid (by first | exact below_next HC3.out hbx | exact below_next (HC3.out.alloc HC3.out.size _) hbx); (first | (have HN4 := Lib.hid (HN3.out.step hbx)) | (have HN4 := Lib.hid ((Nw.new HC3.out).step hbx)) | skip); clear hbx)
      | (go_at_call 61; (with_reducible refine (HS2.out _ ?_).mono ?_); (first | exact (K6.out.below HC4.out K6.out.2) | exact (K6.out.below (HC4.out.alloc HC4.out.size _) K6.out.2)); rintro e v5 ⟨rfl, hbx⟩; have HC5 : Hid (Below w6.heap.size w6 v5) := Lib.hid (by first | exact below_next HC4.out hbx | exact below_next (HC4.out.alloc HC4.out.size _) hbx); (first | (have HN5 := Lib.hid (HN4.out.step hbx)) | (have HN5 := Lib.hid ((Nw.new HC4.out).step hbx)) | skip); (first | (have HSS := Lib.hid (stored32 (R := R2) HN5.out.2 HL2.out.2); have HC7 := Lib.hid (HSS.out.below HC5.out HN5.out.1)) | (have HSS := Lib.hid (stored32 (R := R2) (Nw.new HC5.out).2 HL2.out.2); have HC7 := Lib.hid (HSS.out.below (HC5.out.alloc HC5.out.size _) HC5.out.size))); have hone := bs_one R2; have hi24 := Tryd.size24; (first | (have hth := HN5.out.2.there 0 32 (by rw [bs_length, List.length_replicate]; omega)) | (have hth := (Nw.new HC5.out).2.there 0 32 (by rw [bs_length, List.length_replicate]; omega))); clear hbx))
    all_goals clear hone hth hi24
    all_goals have hsl9 := sl24_blk HSS.out.1
    all_goals have hcv9 := conv_blk (n := 32) (l := R2) 32 HSS.out.1 HL3.out.2
    all_goals go_wp2_with fail
    all_goals go_ret
    all_goals exact ⟨rfl, below_next HB6.out HC7.out⟩
theorem mac_any (k t : List UInt8) (ht : t.length < 288230376151711744) (hk : k.length < 288230376151711744) (w : World) (hK : KH w) :
    Calls Tryd.prog 52 #[.string (sb k), .string (sb t)] w fun e w' => e = .returned (.string (sb (mac k t))) ∧ Below w.heap.size w w' :=
  mac_aux k t _ _ _ _ _ rfl rfl rfl rfl (by rw [mac]) ht hk w hK
end Go.Proofs.YtbgcnfikcddcpaaDoor
