/-
  The walk of the reference's GetInt, way by way.
-/
import Derived.Test.YtelkekicceoaoaaWREnc
import Derived.Test.YtelkekicceoaoaaWGetA
import Derived.Deep.RegionWith
namespace Go.Proofs.Ytelkekicceoaoaa
open Go.RowKit
set_option linter.unusedVariables false

theorem run_cut0 {P : Program} {t e : TypeId} {i : TypeInfo} (h : P.underlying t = some (.slice e)) (hi : P.info? e = some i) (b o n k c : Nat) (hk : k + 1 ≤ c) (w : World) :
    (Instr.slice t (.slice (some ⟨b, o, none⟩) (n + 1) c) none (some (.int .i64 ((k : Int) + 1))) none).run P w = .ok (.slice (some ⟨b, o, none⟩) (k + 1) c) w := by
  have h1 : (0 : Int) ≤ (k : Int) + 1 := by omega
  have h2 : (k : Int) + 1 ≤ (c : Int) := by omega
  have h3 : ((k : Int) + 1).toNat = k + 1 := by omega
  simp [Instr.slice, Instr.sliceBounds, Instr.sliceBound, asIntOf, run_underlying h, sizeOf, typeInfo, hi, h1, h2, h3, go_sem]
theorem same_yes (E T : List UInt8) (B A : Option Addr) (d c n : Nat) (w : World) (hT : T.length = n) (hm : E.length ≤ 1000000) (he : E = T) (h1 : Rd w B (bs E)) (h2 : Rd w A (bs T)) :
    Calls Try.prog 13 #[.slice B E.length d, .slice A n c] w fun e w' => e = .returned (.bool true) ∧ ∃ m, w' = w.drewN m := by
  subst he
  subst hT
  exact same_rd E B A d c w (by unfold maxLen; omega) h1 h2
theorem same_not (E T : List UInt8) (B A : Option Addr) (d c n : Nat) (w : World) (hT : T.length = n) (hm : E.length ≤ 1000000) (he : E ≠ T) (h1 : Rd w B (bs E)) (h2 : Rd w A (bs T)) :
    Calls Try.prog 13 #[.slice B E.length d, .slice A n c] w fun e w' => e = .returned (.bool false) ∧ ∃ m, w' = w.drewN m := by
  subst hT
  exact same_rd_ne E T B A d c w (by unfold maxLen; omega) he h1 h2

set_option maxRecDepth 100000 in
set_option maxHeartbeats 400000 in
theorem rget_nil (A : Option Addr) (c : Nat) (w : World) :
    Calls Try.prog 25 #[.slice A 0 c] w fun e w' => e = ret3 (0, 0, 3) ∧ Below w.heap.size w w' := by
  have hb0 := Below.refl w.heap.size w
  go_enter Try.func25, Try.ntmps25
  go_wp2_with fail
  go_ret3
  exact ⟨rfl, hb0⟩

set_option maxRecDepth 100000 in
set_option maxHeartbeats 400000 in
theorem rget_neg_far (b o c k n : Nat) (w : World) (hk : k ≤ 127) (hc : n + 1 ≤ c) (hm : c ≤ 9223372036854775807) (h0 : w.cell? ⟨b, o, none⟩ = some (.int .u8 (127 - (k : Int)))) (h8 : 8 < k) :
    Calls Try.prog 25 #[.slice (some ⟨b, o, none⟩) (n + 1) c] w fun e w' => e = ret3 (0, 0, 2) ∧ Below w.heap.size w w' := by
  have hkk : (127 : Int) - (127 - (k : Int)) = k := by omega
  have hb0 := Below.refl w.heap.size w
  have hne : ((n : Int) + 1 == 0) = false := by rw [beq_eq_false_iff_ne]; omega
  go_enter Try.func25, Try.ntmps25
  go_wp2_with fail
  go_ret3
  exact ⟨rfl, hb0⟩

set_option maxRecDepth 100000 in
set_option maxHeartbeats 400000 in
theorem rget_neg_more (b o c k n : Nat) (w : World) (hk : k ≤ 127) (hc : n + 1 ≤ c) (hm : c ≤ 9223372036854775807) (h0 : w.cell? ⟨b, o, none⟩ = some (.int .u8 (127 - (k : Int)))) (h8 : k ≤ 8) (hn : n < k) :
    Calls Try.prog 25 #[.slice (some ⟨b, o, none⟩) (n + 1) c] w fun e w' => e = ret3 (0, 0, 3) ∧ Below w.heap.size w w' := by
  have hkk : (127 : Int) - (127 - (k : Int)) = k := by omega
  have hb0 := Below.refl w.heap.size w
  have hne : ((n : Int) + 1 == 0) = false := by rw [beq_eq_false_iff_ne]; omega
  go_enter Try.func25, Try.ntmps25
  go_wp2_with fail
  go_ret3
  exact ⟨rfl, hb0⟩

set_option maxRecDepth 100000 in
set_option maxHeartbeats 800000 in
theorem rget_neg (b o c k n : Nat) (w : World) (hk : k ≤ 8) (hn : k ≤ n) (hc : n + 1 ≤ c) (hm : c ≤ 9223372036854775807) (h0 : w.cell? ⟨b, o, none⟩ = some (.int .u8 (127 - (k : Int))))
    (D V : Nat → Nat) (hD : ∀ j, D j ≤ 255) (hV0 : V 0 = 0) (hVs : ∀ j, V (j + 1) = 256 * V j + (255 - D j)) (hr : ∀ j, j < k → w.cell? ⟨b, o + 1 + j, none⟩ = some (.int .u8 (D j)))
    (G : Int × Nat × Int) (T : List UInt8) (hT : T.length = k + 1) (hRT : Rd w (some ⟨b, o, none⟩) (bs T)) (hbig : ∀ j, j < k → 36028797018963967 < V j → G = (0, 0, 2)) (hyes : V k ≤ 9223372036854775807 → en (-1 - (V k : Int)) = T → G = ((-1 - (V k : Int)), k + 1, 0)) (hno : V k ≤ 9223372036854775807 → en (-1 - (V k : Int)) ≠ T → G = (0, 0, 2)) :
    Calls Try.prog 25 #[.slice (some ⟨b, o, none⟩) (n + 1) c] w fun e w' => e = ret3 G ∧ Below w.heap.size w w' := by
  have hkk : (127 : Int) - (127 - (k : Int)) = k := by omega
  obtain ⟨i0, hi0, hz0, hz1, hz2⟩ := info_parts Try.info5
  have hb0 := Below.refl w.heap.size w
  have hne : ((n : Int) + 1 == 0) = false := by rw [beq_eq_false_iff_ne]; omega
  have HR := Lib.hid hr; clear hr
  have HD := Lib.hid hD; clear hD
  have H0 := Lib.hid hV0; clear hV0
  have HS := Lib.hid hVs; clear hVs
  have HT := Lib.hid hT; clear hT
  have HRT := Lib.hid hRT; clear hRT
  have HB := Lib.hid hbig; clear hbig
  have HY := Lib.hid hyes; clear hyes
  have HN := Lib.hid hno; clear hno
  go_enter Try.func25, Try.ntmps25
  go_wp2_with fail
  go_loopg [7, 8] k (fun g m i wr => ∃ j : Nat, j + g = k ∧ i = .int .i64 ((j : Int) + 1) ∧ m = .int .i64 (V j) ∧ V j ≤ 9223372036854775807 ∧ w = wr)
  case atStart => exact ⟨0, by omega, rfl, by rw [H0.out]; rfl, by rw [H0.out]; omega, rfl⟩
  case round =>
    obtain ⟨j, hj, rfl, rfl, hVj, rfl⟩ := hrel
    cases gk with
    | zero =>
      obtain rfl : k = j := by omega
      have HVj := Lib.hid hVj
      obtain ⟨E, hE⟩ : ∃ E, E = en (-1 - (V k : Int)) := ⟨_, rfl⟩
      have hlen9 : E.length ≤ 9 := by rw [hE]; exact en_len9 _
      have HNI := Lib.hid (show inI (-1 - (V k : Int)) by unfold inI; have := HVj.out; omega)
      have HE := Lib.hid hE; clear hE
      have hsl := run_cut0 (P := Try.prog) (t := 28) Try.underlying28 hi0 b o n k c (by omega)
      have hwk : IntKind.i64.wrap ((k : Int) + 1) = (k : Int) + 1 := by rw [IntKind.wrap_i64]; omega
      by_cases hET : E = T
      · have HG := Lib.hid (HY.out HVj.out (HE.out.symm.trans hET))
        have hsame := fun (w1 : World) (B : Option Addr) (d : Nat) (h1 : Rd w1 B (bs E)) (h2 : Rd w1 (some ⟨b, o, none⟩) (bs T)) => same_yes E T B _ d c (k + 1) w1 HT.out (by omega) hET h1 h2
        have HSA := Lib.hid hsame
        clear hsame hET
        go_wp2_with fail
        go_region_with (first | (go_at_call 15; refine (st_own (w := w) (rint_any (-1 - (V k : Int)) HNI.out _) E HE.out.symm ((Below.refl _ _).drew)).mono ?_; rintro e w1 ⟨B, d, rfl, h, hn1⟩; have HQ := Lib.hid h; have HN1 := Lib.hid hn1; clear h hn1) | (go_at_call 13; refine (HSA.out _ _ _ HQ.out.1 (HRT.out.below HN1.out)).mono ?_; rintro e w2 ⟨rfl, m, rfl⟩))
        all_goals (go_wp2_with fail)
        all_goals go_ret3
        all_goals exact ⟨by rw [HG.out]; rfl, below_drewN HN1.out m⟩
      · have HG := Lib.hid (HN.out HVj.out (fun h => hET (HE.out.trans h)))
        have hsame := fun (w1 : World) (B : Option Addr) (d : Nat) (h1 : Rd w1 B (bs E)) (h2 : Rd w1 (some ⟨b, o, none⟩) (bs T)) => same_not E T B _ d c (k + 1) w1 HT.out (by omega) hET h1 h2
        have HSA := Lib.hid hsame
        clear hsame hET
        go_wp2_with fail
        go_region_with (first | (go_at_call 15; refine (st_own (w := w) (rint_any (-1 - (V k : Int)) HNI.out _) E HE.out.symm ((Below.refl _ _).drew)).mono ?_; rintro e w1 ⟨B, d, rfl, h, hn1⟩; have HQ := Lib.hid h; have HN1 := Lib.hid hn1; clear h hn1) | (go_at_call 13; refine (HSA.out _ _ _ HQ.out.1 (HRT.out.below HN1.out)).mono ?_; rintro e w2 ⟨rfl, m, rfl⟩))
        all_goals (go_wp2_with fail)
        all_goals go_ret3
        all_goals exact ⟨by rw [HG.out]; rfl, below_drewN HN1.out m⟩
    | succ g =>
      have hlt : j < k := by omega
      have hcell := HR.out j hlt
      have hd := HD.out j
      have ha : o + 1 + j = o + (j + 1) := by omega
      rw [ha] at hcell
      have hd2 : (255 : Int) - (D j : Int) = ((255 - D j : Nat) : Int) := by have := HD.out j; omega
      by_cases hVb : 36028797018963967 < V j
      · have HG := Lib.hid (HB.out j hlt hVb)
        go_wp2_with fail
        go_ret3
        exact ⟨by rw [HG.out]; rfl, hb0⟩
      · go_wp2_with fail
        go_roundg g
        case measure => omega
        case rel => exact ⟨j + 1, by omega, by go_num, by rw [HS.out]; go_num, by rw [HS.out]; omega, rfl⟩

set_option maxRecDepth 100000 in
set_option maxHeartbeats 400000 in
theorem rget_pos_far (b o c k n : Nat) (w : World) (hk : k ≤ 127) (hc : n + 1 ≤ c) (hm : c ≤ 9223372036854775807) (h0 : w.cell? ⟨b, o, none⟩ = some (.int .u8 (128 + (k : Int)))) (h8 : 8 < k) :
    Calls Try.prog 25 #[.slice (some ⟨b, o, none⟩) (n + 1) c] w fun e w' => e = ret3 (0, 0, 2) ∧ Below w.heap.size w w' := by
  have hkk : (128 : Int) + (k : Int) - 128 = k := by omega
  have hb0 := Below.refl w.heap.size w
  have hne : ((n : Int) + 1 == 0) = false := by rw [beq_eq_false_iff_ne]; omega
  go_enter Try.func25, Try.ntmps25
  go_wp2_with fail
  go_ret3
  exact ⟨rfl, hb0⟩

set_option maxRecDepth 100000 in
set_option maxHeartbeats 400000 in
theorem rget_pos_more (b o c k n : Nat) (w : World) (hk : k ≤ 127) (hc : n + 1 ≤ c) (hm : c ≤ 9223372036854775807) (h0 : w.cell? ⟨b, o, none⟩ = some (.int .u8 (128 + (k : Int)))) (h8 : k ≤ 8) (hn : n < k) :
    Calls Try.prog 25 #[.slice (some ⟨b, o, none⟩) (n + 1) c] w fun e w' => e = ret3 (0, 0, 3) ∧ Below w.heap.size w w' := by
  have hkk : (128 : Int) + (k : Int) - 128 = k := by omega
  have hb0 := Below.refl w.heap.size w
  have hne : ((n : Int) + 1 == 0) = false := by rw [beq_eq_false_iff_ne]; omega
  go_enter Try.func25, Try.ntmps25
  go_wp2_with fail
  go_ret3
  exact ⟨rfl, hb0⟩

set_option maxRecDepth 100000 in
set_option maxHeartbeats 800000 in
theorem rget_pos (b o c k n : Nat) (w : World) (hk : k ≤ 8) (hn : k ≤ n) (hc : n + 1 ≤ c) (hm : c ≤ 9223372036854775807) (h0 : w.cell? ⟨b, o, none⟩ = some (.int .u8 (128 + (k : Int))))
    (D V : Nat → Nat) (hD : ∀ j, D j ≤ 255) (hV0 : V 0 = 0) (hVs : ∀ j, V (j + 1) = 256 * V j + D j) (hr : ∀ j, j < k → w.cell? ⟨b, o + 1 + j, none⟩ = some (.int .u8 (D j)))
    (G : Int × Nat × Int) (T : List UInt8) (hT : T.length = k + 1) (hRT : Rd w (some ⟨b, o, none⟩) (bs T)) (hbig : ∀ j, j < k → 36028797018963967 < V j → G = (0, 0, 2)) (hyes : V k ≤ 9223372036854775807 → en (V k : Int) = T → G = ((V k : Int), k + 1, 0)) (hno : V k ≤ 9223372036854775807 → en (V k : Int) ≠ T → G = (0, 0, 2)) :
    Calls Try.prog 25 #[.slice (some ⟨b, o, none⟩) (n + 1) c] w fun e w' => e = ret3 G ∧ Below w.heap.size w w' := by
  have hkk : (128 : Int) + (k : Int) - 128 = k := by omega
  obtain ⟨i0, hi0, hz0, hz1, hz2⟩ := info_parts Try.info5
  have hb0 := Below.refl w.heap.size w
  have hne : ((n : Int) + 1 == 0) = false := by rw [beq_eq_false_iff_ne]; omega
  have HR := Lib.hid hr; clear hr
  have HD := Lib.hid hD; clear hD
  have H0 := Lib.hid hV0; clear hV0
  have HS := Lib.hid hVs; clear hVs
  have HT := Lib.hid hT; clear hT
  have HRT := Lib.hid hRT; clear hRT
  have HB := Lib.hid hbig; clear hbig
  have HY := Lib.hid hyes; clear hyes
  have HN := Lib.hid hno; clear hno
  go_enter Try.func25, Try.ntmps25
  go_wp2_with fail
  go_loopg [7, 8] k (fun g m i wr => ∃ j : Nat, j + g = k ∧ i = .int .i64 ((j : Int) + 1) ∧ m = .int .i64 (V j) ∧ V j ≤ 9223372036854775807 ∧ w = wr)
  case atStart => exact ⟨0, by omega, rfl, by rw [H0.out]; rfl, by rw [H0.out]; omega, rfl⟩
  case round =>
    obtain ⟨j, hj, rfl, rfl, hVj, rfl⟩ := hrel
    cases gk with
    | zero =>
      obtain rfl : k = j := by omega
      have HVj := Lib.hid hVj
      obtain ⟨E, hE⟩ : ∃ E, E = en (V k : Int) := ⟨_, rfl⟩
      have hlen9 : E.length ≤ 9 := by rw [hE]; exact en_len9 _
      have HNI := Lib.hid (show inI (V k : Int) by unfold inI; have := HVj.out; omega)
      have HE := Lib.hid hE; clear hE
      have hsl := run_cut0 (P := Try.prog) (t := 28) Try.underlying28 hi0 b o n k c (by omega)
      have hwk : IntKind.i64.wrap ((k : Int) + 1) = (k : Int) + 1 := by rw [IntKind.wrap_i64]; omega
      by_cases hET : E = T
      · have HG := Lib.hid (HY.out HVj.out (HE.out.symm.trans hET))
        have hsame := fun (w1 : World) (B : Option Addr) (d : Nat) (h1 : Rd w1 B (bs E)) (h2 : Rd w1 (some ⟨b, o, none⟩) (bs T)) => same_yes E T B _ d c (k + 1) w1 HT.out (by omega) hET h1 h2
        have HSA := Lib.hid hsame
        clear hsame hET
        go_wp2_with fail
        go_region_with (first | (go_at_call 15; refine (st_own (w := w) (rint_any (V k : Int) HNI.out _) E HE.out.symm ((Below.refl _ _).drew)).mono ?_; rintro e w1 ⟨B, d, rfl, h, hn1⟩; have HQ := Lib.hid h; have HN1 := Lib.hid hn1; clear h hn1) | (go_at_call 13; refine (HSA.out _ _ _ HQ.out.1 (HRT.out.below HN1.out)).mono ?_; rintro e w2 ⟨rfl, m, rfl⟩))
        all_goals (go_wp2_with fail)
        all_goals go_ret3
        all_goals exact ⟨by rw [HG.out]; rfl, below_drewN HN1.out m⟩
      · have HG := Lib.hid (HN.out HVj.out (fun h => hET (HE.out.trans h)))
        have hsame := fun (w1 : World) (B : Option Addr) (d : Nat) (h1 : Rd w1 B (bs E)) (h2 : Rd w1 (some ⟨b, o, none⟩) (bs T)) => same_not E T B _ d c (k + 1) w1 HT.out (by omega) hET h1 h2
        have HSA := Lib.hid hsame
        clear hsame hET
        go_wp2_with fail
        go_region_with (first | (go_at_call 15; refine (st_own (w := w) (rint_any (V k : Int) HNI.out _) E HE.out.symm ((Below.refl _ _).drew)).mono ?_; rintro e w1 ⟨B, d, rfl, h, hn1⟩; have HQ := Lib.hid h; have HN1 := Lib.hid hn1; clear h hn1) | (go_at_call 13; refine (HSA.out _ _ _ HQ.out.1 (HRT.out.below HN1.out)).mono ?_; rintro e w2 ⟨rfl, m, rfl⟩))
        all_goals (go_wp2_with fail)
        all_goals go_ret3
        all_goals exact ⟨by rw [HG.out]; rfl, below_drewN HN1.out m⟩
    | succ g =>
      have hlt : j < k := by omega
      have hcell := HR.out j hlt
      have hd := HD.out j
      have ha : o + 1 + j = o + (j + 1) := by omega
      rw [ha] at hcell
      by_cases hVb : 36028797018963967 < V j
      · have HG := Lib.hid (HB.out j hlt hVb)
        go_wp2_with fail
        go_ret3
        exact ⟨by rw [HG.out]; rfl, hb0⟩
      · go_wp2_with fail
        go_roundg g
        case measure => omega
        case rel => exact ⟨j + 1, by omega, by go_num, by rw [HS.out]; go_num, by rw [HS.out]; omega, rfl⟩

end Go.Proofs.Ytelkekicceoaoaa
