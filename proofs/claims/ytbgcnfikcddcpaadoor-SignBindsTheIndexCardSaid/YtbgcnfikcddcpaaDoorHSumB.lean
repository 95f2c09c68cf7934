/-
  The walk of hash.Sum.
-/
import Derived.Test.YtbgcnfikcddcpaaDoorHSum
import Derived.Test.YtbgcnfikcddcpaaDoorWConv
import Derived.Test.YtbgcnfikcddcpaaDoorHWire
import Derived.Deep.RegionWith
import Derived.Deep.RegionHeld3
import Derived.Deep.RegionLaw
namespace Go.Proofs.YtbgcnfikcddcpaaDoor
open Go.RowKit
open Sha
set_option linter.unusedVariables false

theorem KH.step {w w0 w' : World} (h : KH w) (hb : Below w.heap.size w w0) (hb' : Below w0.heap.size w0 w') : KH w' := (h.below hb h.2).below hb' (h.below hb h.2).2
theorem begin_str (w : World) : Calls Tryd.prog 58 #[] w fun e w' => e = .returned (.agg (Str []).toArray) ∧ Below w.heap.size w w' := by
  rw [Str_nil]
  exact begin_any w
theorem conv_sb {w : World} {A : Option Addr} {l : List UInt8} {n : Nat} (c : Nat) (hn : n = l.length) (h : Rd w A (bs l)) : (convert 58 9 (.slice A n c)).run Tryd.prog w = .ok (.string (sb l)) w := by
  subst hn
  exact conv_rd Tryd.underlying58 Tryd.underlying5 Tryd.underlying9 h c

abbrev Z32 : Array Value := #[.int .u8 0, .int .u8 0, .int .u8 0, .int .u8 0, .int .u8 0, .int .u8 0, .int .u8 0, .int .u8 0, .int .u8 0, .int .u8 0, .int .u8 0, .int .u8 0, .int .u8 0, .int .u8 0, .int .u8 0, .int .u8 0, .int .u8 0, .int .u8 0, .int .u8 0, .int .u8 0, .int .u8 0, .int .u8 0, .int .u8 0, .int .u8 0, .int .u8 0, .int .u8 0, .int .u8 0, .int .u8 0, .int .u8 0, .int .u8 0, .int .u8 0, .int .u8 0]
set_option maxRecDepth 100000 in
set_option maxHeartbeats 1000000 in
theorem hsum_aux (l R : List UInt8) (hR : R = sha l) (A : Option Addr) (c : Nat) (hl : l.length < 576460752303423488) (w : World) (hr : Rd w A (bs l)) (hK : KH w) :
    Calls Tryd.prog 65 #[.slice A l.length c] w fun e w' => e = .returned (.agg (bs R).toArray) ∧ Below w.heap.size w w' := by
  obtain ⟨S1, hS1⟩ : ∃ S, S = Str [] := ⟨_, rfl⟩
  obtain ⟨S2, hS2⟩ : ∃ S, S = Str l := ⟨_, rfl⟩
  have hb := fun W => begin_str W
  rw [← hS1] at hb
  have ha := fun W hk => add_any [] l (by simp; omega) W hk
  rw [List.nil_append, ← hS1, ← hS2] at ha
  have hs := fun W hk => sum_any l hl W hk
  rw [← hS2, ← hR] at hs
  have hRl : (bs R).length = (bs (List.replicate 32 0)).length := by rw [bs_length, hR, sha, outb_length, bs_length, List.length_replicate]
  have hRl2 : (bs R).length = 32 := by rw [bs_length, hR, sha, outb_length]
  have HR := Lib.hid hR; clear hR
  have HB := Lib.hid hb; clear hb
  have HA := Lib.hid ha; clear ha
  have HS := Lib.hid hs; clear hs
  have HRL := Lib.hid hRl; clear hRl
  have HR0 := Lib.hid hr; clear hr
  have HK := Lib.hid hK; clear hK
  obtain ⟨n, hn⟩ : ∃ n, n = l.length := ⟨_, rfl⟩
  rw [← hn]
  have HN := Lib.hid hn; clear hn
  clear hS1 hS2
  have hcv := fun W (h : Rd W A (bs l)) => conv_sb c HN.out h
  have HB0 : Hid (Below w.heap.size w (w.alloc (.cells Z32 98))) := Lib.hid (below_a1 w _)
  have hcv0 : (convert 58 9 (.slice A n c)).run Tryd.prog (w.alloc (.cells #[.int .u8 0, .int .u8 0, .int .u8 0, .int .u8 0, .int .u8 0, .int .u8 0, .int .u8 0, .int .u8 0, .int .u8 0, .int .u8 0, .int .u8 0, .int .u8 0, .int .u8 0, .int .u8 0, .int .u8 0, .int .u8 0, .int .u8 0, .int .u8 0, .int .u8 0, .int .u8 0, .int .u8 0, .int .u8 0, .int .u8 0, .int .u8 0, .int .u8 0, .int .u8 0, .int .u8 0, .int .u8 0, .int .u8 0, .int .u8 0, .int .u8 0, .int .u8 0] 98)).drew = .ok (.string (sb l)) (w.alloc (.cells #[.int .u8 0, .int .u8 0, .int .u8 0, .int .u8 0, .int .u8 0, .int .u8 0, .int .u8 0, .int .u8 0, .int .u8 0, .int .u8 0, .int .u8 0, .int .u8 0, .int .u8 0, .int .u8 0, .int .u8 0, .int .u8 0, .int .u8 0, .int .u8 0, .int .u8 0, .int .u8 0, .int .u8 0, .int .u8 0, .int .u8 0, .int .u8 0, .int .u8 0, .int .u8 0, .int .u8 0, .int .u8 0, .int .u8 0, .int .u8 0, .int .u8 0, .int .u8 0] 98)).drew := hcv _ ((HR0.out.below HB0.out).drew)
  have HCV := Lib.hid hcv; clear hcv
  have HZ0 : Hid (Blk (w.alloc (.cells Z32 98)) w.heap.size (bs (List.replicate 32 0)) 98) := Lib.hid (Blk.new' _ _ _ _ rfl)
  go_enter Tryd.func65, Tryd.ntmps65
  go_wp2_with fail
  go_region_with (first
    | (go_at_call 58; refine (HB.out _).mono ?_; rintro e w1 ⟨rfl, hb1⟩; have HB1 : Hid (Below w.heap.size w w1) := Lib.hid (below_next HB0.out.drew hb1); have hcv1 := HCV.out _ (HR0.out.below HB1.out); have HZ1 : Hid (Blk w1 w.heap.size (bs (List.replicate 32 0)) 98) := Lib.hid (HZ0.out.drew.below hb1 HZ0.out.lt); clear hb1)
    | (go_at_call 59; refine (HA.out _ (HK.out.below HB1.out HK.out.2)).mono ?_; rintro e w2 ⟨rfl, hb2⟩; have HB2 : Hid (Below w.heap.size w w2) := Lib.hid (below_next HB1.out hb2); have HZ2 : Hid (Blk w2 w.heap.size (bs (List.replicate 32 0)) 98) := Lib.hid (HZ1.out.below hb2 HZ1.out.lt); clear hb2)
    | (go_at_call 61; refine (HS.out _ (HK.out.below HB2.out HK.out.2)).mono ?_; rintro e w3 ⟨rfl, hb3⟩; have HB3 : Hid (Below w.heap.size w w3) := Lib.hid (below_next HB2.out hb3); obtain ⟨w4, hst4, hs4⟩ := blk_store_all (P := Tryd.prog) (HZ2.out.below hb3 HZ2.out.lt) (bs R) HRL.out (bs_one R); have HST4 := Lib.hid hs4; clear hb3 hs4))
  all_goals go_wp2_with fail
  all_goals refine ret_blk rfl _ rfl HST4.out.1 _ Tryd.underlying98 rfl (by rw [hRl2]; exact Tryd.size24) rfl ⟨rfl, HST4.out.below HB3.out (Nat.le_refl _)⟩
theorem hsum_any (l : List UInt8) (A : Option Addr) (n c : Nat) (hn : n = l.length) (hl : l.length < 576460752303423488) (w : World) (hr : Rd w A (bs l)) (hK : KH w) :
    Calls Tryd.prog 65 #[.slice A n c] w fun e w' => e = .returned (.agg (bs (sha l)).toArray) ∧ Below w.heap.size w w' := by
  subst hn
  exact hsum_aux l _ rfl A c hl w hr hK
end Go.Proofs.YtbgcnfikcddcpaaDoor
