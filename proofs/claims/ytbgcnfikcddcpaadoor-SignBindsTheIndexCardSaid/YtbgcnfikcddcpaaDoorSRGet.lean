/-
  The reference's Same and GetInt, walked: the same answer as wire's.
-/
import Derived.Test.YtbgcnfikcddcpaaDoorSGet
import Derived.Test.YtbgcnfikcddcpaaDoorSInts
import Derived.Test.YtbgcnfikcddcpaaDoorHSched
import Derived.Deep.RegionWith
import Derived.Deep.MidRow
import Derived.Stop.BytesEq
namespace Go.Proofs.YtbgcnfikcddcpaaDoor
open Go.RowKit
set_option linter.unusedVariables false
theorem ret_bool {a b : Bool} (h : a = b) : Ending.returned (.bool a) = .returned (.bool b) := by rw [h]
set_option maxHeartbeats 400000 in
theorem same_len (A A' : Option Addr) (n n' c c' : Nat) (w : World) (h : n ≠ n') : Calls Tryd.prog 64 #[.slice A n c, .slice A' n' c'] w fun e w' => e = .returned (.bool false) ∧ w = w' := by
  have hb : ((n : Int) != (n' : Int)) = true := by rw [bne_iff_ne]; omega
  go_enter Tryd.func64, Tryd.ntmps64
  go_wp2
  go_ret
  exact ⟨rfl, rfl⟩
set_option maxHeartbeats 400000 in
theorem same_zero (A A' : Option Addr) (c c' : Nat) (w : World) : Calls Tryd.prog 64 #[.slice A 0 c, .slice A' 0 c'] w fun e w' => e = .returned (.bool true) ∧ w = w' := by
  go_enter Tryd.func64, Tryd.ntmps64
  go_wp2
  refine wp_loop_rounds 1 ?_
  rw [rounds_succ]
  go_wp2
  go_ret
  exact ⟨rfl, rfl⟩
set_option maxHeartbeats 400000 in
theorem same_all (b o b' o' n c c' : Nat) (D : Nat → Nat) (w : World) (hn : n ≤ maxLen) (hr : ∀ j, j < n → w.cell? ⟨b, o + j, none⟩ = some (.int .u8 (D j : Nat))) (hr' : ∀ j, j < n → w.cell? ⟨b', o' + j, none⟩ = some (.int .u8 (D j : Nat))) :
    Calls Tryd.prog 64 #[.slice (some ⟨b, o, none⟩) n c, .slice (some ⟨b', o', none⟩) n c'] w fun e w' => e = .returned (.bool true) ∧ ∃ m, w' = w.drewN m := by
  unfold maxLen at hn
  have HR := Lib.hid hr; clear hr
  have HR' := Lib.hid hr'; clear hr'
  go_enter Tryd.func64, Tryd.ntmps64
  go_wp2
  go_loopw [5] (fun i wr => ∃ j m : Nat, j ≤ n ∧ i = .int .i64 j ∧ wr = w.drewN m) (fun i _ => n - (intOf i).toNat)
  case atStart => exact ⟨0, 0, by omega, rfl, rfl⟩
  case round =>
    obtain ⟨j, m, hj, rfl, rfl⟩ := hrel
    by_cases hlt : j < n
    · have h1 := HR.out j hlt
      have h2 := HR'.out j hlt
      go_wp2
      go_quiet (fail)
      go_wp2
      go_roundw
      case rel => exact ⟨j + 1, _, by omega, by go_num, rfl⟩
      case measure => simp [intOf]; omega
    · go_wp2
      go_ret
      exact ⟨rfl, _, rfl⟩
set_option maxHeartbeats 400000 in
theorem same_diff (b o b' o' n c c' p : Nat) (D E : Nat → Nat) (w : World) (hn : n ≤ maxLen) (hr : ∀ j, j < n → w.cell? ⟨b, o + j, none⟩ = some (.int .u8 (D j : Nat))) (hr' : ∀ j, j < n → w.cell? ⟨b', o' + j, none⟩ = some (.int .u8 (E j : Nat)))
    (hp : p < n) (hd : D p ≠ E p) (hs : ∀ j, j < p → D j = E j) :
    Calls Tryd.prog 64 #[.slice (some ⟨b, o, none⟩) n c, .slice (some ⟨b', o', none⟩) n c'] w fun e w' => e = .returned (.bool false) ∧ ∃ m, w' = w.drewN m := by
  unfold maxLen at hn
  have HR := Lib.hid hr; clear hr
  have HR' := Lib.hid hr'; clear hr'
  have HS := Lib.hid hs; clear hs
  have HD := Lib.hid hd; clear hd
  go_enter Tryd.func64, Tryd.ntmps64
  go_wp2
  go_loopw [5] (fun i wr => ∃ j m : Nat, j ≤ p ∧ i = .int .i64 j ∧ wr = w.drewN m) (fun i _ => n - (intOf i).toNat)
  case atStart => exact ⟨0, 0, by omega, rfl, rfl⟩
  case round =>
    obtain ⟨j, m, hj, rfl, rfl⟩ := hrel
    have h1 := HR.out j (by omega)
    have h2 := HR'.out j (by omega)
    have hlt : j < n := by omega
    by_cases hjp : j < p
    · have he : ((D j : Int) != (E j : Int)) = false := by rw [HS.out j hjp]; simp
      go_wp2
      go_quiet (fail)
      go_wp2
      go_roundw
      case rel => exact ⟨j + 1, _, by omega, by go_num, rfl⟩
      case measure => simp [intOf]; omega
    · have he : ((D j : Int) != (E j : Int)) = true := by rw [bne_iff_ne]; have : j = p := by omega
                                                          subst this; have := HD.out; omega
      go_wp2
      go_quiet (fail)
      go_wp2
      go_ret
      exact ⟨rfl, m + nq, by rw [World.drewN_drewN]⟩
theorem same_rd (l : List UInt8) (A A' : Option Addr) (c c' : Nat) (w : World) (hm : l.length ≤ maxLen) (h : Rd w A (bs l)) (h' : Rd w A' (bs l)) :
    Calls Tryd.prog 64 #[.slice A l.length c, .slice A' l.length c'] w fun e w' => e = .returned (.bool true) ∧ ∃ m, w' = w.drewN m := by
  by_cases hl : l = []
  · subst hl
    exact (same_zero A A' c c' w).mono fun e w' ⟨h1, h2⟩ => ⟨h1, 0, h2.symm⟩
  · obtain ⟨b, o, rfl, hc⟩ := h.open (by simpa [bs] using hl)
    obtain ⟨b', o', rfl, hc'⟩ := h'.open (by simpa [bs] using hl)
    exact same_all b o b' o' l.length c c' (fun j => (l[j]?.getD 0).toNat) w hm (fun j hj => by rw [hc j _ (bs_get hj), List.getElem?_eq_getElem hj]; rfl) (fun j hj => by rw [hc' j _ (bs_get hj), List.getElem?_eq_getElem hj]; rfl)
theorem first_diff {α : Type} [DecidableEq α] : ∀ (l l' : List α), l.length = l'.length → l ≠ l' → ∃ p, p < l.length ∧ l[p]? ≠ l'[p]? ∧ ∀ j, j < p → l[j]? = l'[j]? := by
  intro l
  induction l with
  | nil => intro l' h hne; exact absurd (List.eq_nil_of_length_eq_zero h.symm).symm hne
  | cons a r ih =>
    intro l' h hne
    cases l' with
    | nil => simp at h
    | cons b r' =>
      by_cases hab : a = b
      · subst hab
        obtain ⟨p, hp, h1, h2⟩ := ih r' (by simpa using h) (fun e => hne (by rw [e]))
        refine ⟨p + 1, by simp; omega, by simpa using h1, fun j hj => ?_⟩
        cases j with
        | zero => rfl
        | succ j => simpa using h2 j (by omega)
      · exact ⟨0, by simp, by simpa using hab, fun j hj => absurd hj (by omega)⟩
theorem same_rd_ne (l l' : List UInt8) (A A' : Option Addr) (c c' : Nat) (w : World) (hm : l.length ≤ maxLen) (hne : l ≠ l') (h : Rd w A (bs l)) (h' : Rd w A' (bs l')) :
    Calls Tryd.prog 64 #[.slice A l.length c, .slice A' l'.length c'] w fun e w' => e = .returned (.bool false) ∧ ∃ m, w' = w.drewN m := by
  by_cases hlen : l.length = l'.length
  · obtain ⟨p, hp, h1, h2⟩ := first_diff l l' hlen hne
    have hl : l ≠ [] := by rintro rfl; simp at hp
    have hl' : l' ≠ [] := by rintro rfl; simp at hlen; exact hl hlen
    obtain ⟨b, o, rfl, hc⟩ := h.open (by simpa [bs] using hl)
    obtain ⟨b', o', rfl, hc'⟩ := h'.open (by simpa [bs] using hl')
    rw [← hlen]
    refine same_diff b o b' o' l.length c c' p (fun j => (l[j]?.getD 0).toNat) (fun j => (l'[j]?.getD 0).toNat) w hm (fun j hj => by rw [hc j _ (bs_get hj), List.getElem?_eq_getElem hj]; rfl) (fun j hj => by rw [hc' j _ (bs_get (hlen ▸ hj)), List.getElem?_eq_getElem (hlen ▸ hj)]; rfl) hp ?_ (fun j hj => by simp only [h2 j hj])
    intro e
    apply h1
    rw [List.getElem?_eq_getElem hp, List.getElem?_eq_getElem (hlen ▸ hp)] at e ⊢
    simp only [Option.getD_some] at e
    rw [UInt8.toNat_inj.1 e]
  · exact (same_len A A' l.length l'.length c c' w hlen).mono fun e w' ⟨h1, h2⟩ => ⟨h1, 0, h2.symm⟩
theorem run_cut0 {P : Program} {t e : TypeId} {i : TypeInfo} (h : P.underlying t = some (.slice e)) (hi : P.info? e = some i) (b o n k c : Nat) (hk : k + 1 ≤ c) (w : World) :
    (Instr.slice t (.slice (some ⟨b, o, none⟩) (n + 1) c) none (some (.int .i64 ((k : Int) + 1))) none).run P w = .ok (.slice (some ⟨b, o, none⟩) (k + 1) c) w := by
  have h1 : (0 : Int) ≤ (k : Int) + 1 := by omega
  have h2 : (k : Int) + 1 ≤ (c : Int) := by omega
  have h3 : ((k : Int) + 1).toNat = k + 1 := by omega
  simp [Instr.slice, Instr.sliceBounds, Instr.sliceBound, asIntOf, run_underlying h, sizeOf, typeInfo, hi, h1, h2, h3, go_sem]
theorem same_yes (E T : List UInt8) (B A : Option Addr) (d c n : Nat) (w : World) (hT : T.length = n) (hm : E.length ≤ 1000000) (he : E = T) (h1 : Rd w B (bs E)) (h2 : Rd w A (bs T)) :
    Calls Tryd.prog 64 #[.slice B E.length d, .slice A n c] w fun e w' => e = .returned (.bool true) ∧ ∃ m, w' = w.drewN m := by
  subst he
  subst hT
  exact same_rd E B A d c w (by unfold maxLen; omega) h1 h2
theorem same_not (E T : List UInt8) (B A : Option Addr) (d c n : Nat) (w : World) (hT : T.length = n) (hm : E.length ≤ 1000000) (he : E ≠ T) (h1 : Rd w B (bs E)) (h2 : Rd w A (bs T)) :
    Calls Tryd.prog 64 #[.slice B E.length d, .slice A n c] w fun e w' => e = .returned (.bool false) ∧ ∃ m, w' = w.drewN m := by
  subst hT
  exact same_rd_ne E T B A d c w (by unfold maxLen; omega) he h1 h2

set_option maxRecDepth 100000 in
set_option maxHeartbeats 400000 in
theorem rget_nil (A : Option Addr) (c : Nat) (w : World) :
    Calls Tryd.prog 45 #[.slice A 0 c] w fun e w' => e = ret3 (0, 0, 3) ∧ Below w.heap.size w w' := by
  have hb0 := Below.refl w.heap.size w
  go_enter Tryd.func45, Tryd.ntmps45
  go_wp2_with fail
  go_ret3
  exact ⟨rfl, hb0⟩

set_option maxRecDepth 100000 in
set_option maxHeartbeats 400000 in
theorem rget_neg_far (b o c k n : Nat) (w : World) (hk : k ≤ 127) (hc : n + 1 ≤ c) (hm : c ≤ 9223372036854775807) (h0 : w.cell? ⟨b, o, none⟩ = some (.int .u8 (127 - (k : Int)))) (h8 : 8 < k) :
    Calls Tryd.prog 45 #[.slice (some ⟨b, o, none⟩) (n + 1) c] w fun e w' => e = ret3 (0, 0, 2) ∧ Below w.heap.size w w' := by
  have hkk : (127 : Int) - (127 - (k : Int)) = k := by omega
  have hb0 := Below.refl w.heap.size w
  have hne : ((n : Int) + 1 == 0) = false := by rw [beq_eq_false_iff_ne]; omega
  go_enter Tryd.func45, Tryd.ntmps45
  go_wp2_with fail
  go_ret3
  exact ⟨rfl, hb0⟩

set_option maxRecDepth 100000 in
set_option maxHeartbeats 400000 in
theorem rget_neg_more (b o c k n : Nat) (w : World) (hk : k ≤ 127) (hc : n + 1 ≤ c) (hm : c ≤ 9223372036854775807) (h0 : w.cell? ⟨b, o, none⟩ = some (.int .u8 (127 - (k : Int)))) (h8 : k ≤ 8) (hn : n < k) :
    Calls Tryd.prog 45 #[.slice (some ⟨b, o, none⟩) (n + 1) c] w fun e w' => e = ret3 (0, 0, 3) ∧ Below w.heap.size w w' := by
  have hkk : (127 : Int) - (127 - (k : Int)) = k := by omega
  have hb0 := Below.refl w.heap.size w
  have hne : ((n : Int) + 1 == 0) = false := by rw [beq_eq_false_iff_ne]; omega
  go_enter Tryd.func45, Tryd.ntmps45
  go_wp2_with fail
  go_ret3
  exact ⟨rfl, hb0⟩

set_option maxRecDepth 100000 in
set_option maxHeartbeats 800000 in
theorem rget_neg (b o c k n : Nat) (w : World) (hk : k ≤ 8) (hn : k ≤ n) (hc : n + 1 ≤ c) (hm : c ≤ 9223372036854775807) (h0 : w.cell? ⟨b, o, none⟩ = some (.int .u8 (127 - (k : Int))))
    (D V : Nat → Nat) (hD : ∀ j, D j ≤ 255) (hV0 : V 0 = 0) (hVs : ∀ j, V (j + 1) = 256 * V j + (255 - D j)) (hr : ∀ j, j < k → w.cell? ⟨b, o + 1 + j, none⟩ = some (.int .u8 (D j)))
    (G : Int × Nat × Int) (T : List UInt8) (hT : T.length = k + 1) (hRT : Rd w (some ⟨b, o, none⟩) (bs T)) (hbig : ∀ j, j < k → 36028797018963967 < V j → G = (0, 0, 2)) (hyes : V k ≤ 9223372036854775807 → en (-1 - (V k : Int)) = T → G = ((-1 - (V k : Int)), k + 1, 0)) (hno : V k ≤ 9223372036854775807 → en (-1 - (V k : Int)) ≠ T → G = (0, 0, 2)) :
    Calls Tryd.prog 45 #[.slice (some ⟨b, o, none⟩) (n + 1) c] w fun e w' => e = ret3 G ∧ Below w.heap.size w w' := by
  have hkk : (127 : Int) - (127 - (k : Int)) = k := by omega
  obtain ⟨i0, hi0, hz0, hz1, hz2⟩ := info_parts Tryd.info5
  have hb0 := Below.refl w.heap.size w
  have hne : ((n : Int) + 1 == 0) = false := by rw [beq_eq_false_iff_ne]; omega
  have HR := Lib.hid hr; clear hr
  have HD := Lib.hid hD; clear hD
  have H0 := Lib.hid hV0; clear hV0
  have HS := Lib.hid hVs; clear hVs
  have HT := Lib.hid hT; clear hT
  have HRT := Lib.hid hRT; clear hRT
  have HB := Lib.hid hbig; clear hbig
  have HY := Lib.hid hyes; clear hyes
  have HN := Lib.hid hno; clear hno
  go_enter Tryd.func45, Tryd.ntmps45
  go_wp2_with fail
  go_loopg [7, 8] k (fun g m i wr => ∃ j : Nat, j + g = k ∧ i = .int .i64 ((j : Int) + 1) ∧ m = .int .i64 (V j) ∧ V j ≤ 9223372036854775807 ∧ w = wr)
  case atStart => exact ⟨0, by omega, rfl, by rw [H0.out]; rfl, by rw [H0.out]; omega, rfl⟩
  case round =>
    obtain ⟨j, hj, rfl, rfl, hVj, rfl⟩ := hrel
    cases gk with
    | zero =>
      obtain rfl : k = j := by omega
      have HVj := Lib.hid hVj
      obtain ⟨E, hE⟩ : ∃ E, E = en (-1 - (V k : Int)) := ⟨_, rfl⟩
      have hlen9 : E.length ≤ 9 := by rw [hE]; exact en_len9 _
      have HNI := Lib.hid (show inI (-1 - (V k : Int)) by unfold inI; have := HVj.out; omega)
      have HE := Lib.hid hE; clear hE
      have hsl := run_cut0 (P := Tryd.prog) (t := 58) Tryd.underlying58 hi0 b o n k c (by omega)
      have hwk : IntKind.i64.wrap ((k : Int) + 1) = (k : Int) + 1 := by rw [IntKind.wrap_i64]; omega
      by_cases hET : E = T
      · have HG := Lib.hid (HY.out HVj.out (HE.out.symm.trans hET))
        have hsame := fun (w1 : World) (B : Option Addr) (d : Nat) (h1 : Rd w1 B (bs E)) (h2 : Rd w1 (some ⟨b, o, none⟩) (bs T)) => same_yes E T B _ d c (k + 1) w1 HT.out (by omega) hET h1 h2
        have HSA := Lib.hid hsame
        clear hsame hET
        go_wp2_with fail
        go_region_with (first | (go_at_call 36; refine (st_own (w := w) (rint_any (-1 - (V k : Int)) HNI.out _) E HE.out.symm ((Below.refl _ _).drew)).mono ?_; rintro e w1 ⟨B, d, rfl, h, hn1⟩; have HQ := Lib.hid h; have HN1 := Lib.hid hn1; clear h hn1) | (go_at_call 64; refine (HSA.out _ _ _ HQ.out.1 (HRT.out.below HN1.out)).mono ?_; rintro e w2 ⟨rfl, m, rfl⟩))
        all_goals (go_wp2_with fail)
        all_goals go_ret3
        all_goals exact ⟨by rw [HG.out]; rfl, below_drewN HN1.out m⟩
      · have HG := Lib.hid (HN.out HVj.out (fun h => hET (HE.out.trans h)))
        have hsame := fun (w1 : World) (B : Option Addr) (d : Nat) (h1 : Rd w1 B (bs E)) (h2 : Rd w1 (some ⟨b, o, none⟩) (bs T)) => same_not E T B _ d c (k + 1) w1 HT.out (by omega) hET h1 h2
        have HSA := Lib.hid hsame
        clear hsame hET
        go_wp2_with fail
        go_region_with (first | (go_at_call 36; refine (st_own (w := w) (rint_any (-1 - (V k : Int)) HNI.out _) E HE.out.symm ((Below.refl _ _).drew)).mono ?_; rintro e w1 ⟨B, d, rfl, h, hn1⟩; have HQ := Lib.hid h; have HN1 := Lib.hid hn1; clear h hn1) | (go_at_call 64; refine (HSA.out _ _ _ HQ.out.1 (HRT.out.below HN1.out)).mono ?_; rintro e w2 ⟨rfl, m, rfl⟩))
        all_goals (go_wp2_with fail)
        all_goals go_ret3
        all_goals exact ⟨by rw [HG.out]; rfl, below_drewN HN1.out m⟩
    | succ g =>
      have hlt : j < k := by omega
      have hcell := HR.out j hlt
      have hd := HD.out j
      have ha : o + 1 + j = o + (j + 1) := by omega
      rw [ha] at hcell
      have hd2 : (255 : Int) - (D j : Int) = ((255 - D j : Nat) : Int) := by have := HD.out j; omega
      by_cases hVb : 36028797018963967 < V j
      · have HG := Lib.hid (HB.out j hlt hVb)
        go_wp2_with fail
        go_ret3
        exact ⟨by rw [HG.out]; rfl, hb0⟩
      · go_wp2_with fail
        go_roundg g
        case measure => omega
        case rel => exact ⟨j + 1, by omega, by go_num, by rw [HS.out]; go_num, by rw [HS.out]; omega, rfl⟩

set_option maxRecDepth 100000 in
set_option maxHeartbeats 400000 in
theorem rget_pos_far (b o c k n : Nat) (w : World) (hk : k ≤ 127) (hc : n + 1 ≤ c) (hm : c ≤ 9223372036854775807) (h0 : w.cell? ⟨b, o, none⟩ = some (.int .u8 (128 + (k : Int)))) (h8 : 8 < k) :
    Calls Tryd.prog 45 #[.slice (some ⟨b, o, none⟩) (n + 1) c] w fun e w' => e = ret3 (0, 0, 2) ∧ Below w.heap.size w w' := by
  have hkk : (128 : Int) + (k : Int) - 128 = k := by omega
  have hb0 := Below.refl w.heap.size w
  have hne : ((n : Int) + 1 == 0) = false := by rw [beq_eq_false_iff_ne]; omega
  go_enter Tryd.func45, Tryd.ntmps45
  go_wp2_with fail
  go_ret3
  exact ⟨rfl, hb0⟩

set_option maxRecDepth 100000 in
set_option maxHeartbeats 400000 in
theorem rget_pos_more (b o c k n : Nat) (w : World) (hk : k ≤ 127) (hc : n + 1 ≤ c) (hm : c ≤ 9223372036854775807) (h0 : w.cell? ⟨b, o, none⟩ = some (.int .u8 (128 + (k : Int)))) (h8 : k ≤ 8) (hn : n < k) :
    Calls Tryd.prog 45 #[.slice (some ⟨b, o, none⟩) (n + 1) c] w fun e w' => e = ret3 (0, 0, 3) ∧ Below w.heap.size w w' := by
  have hkk : (128 : Int) + (k : Int) - 128 = k := by omega
  have hb0 := Below.refl w.heap.size w
  have hne : ((n : Int) + 1 == 0) = false := by rw [beq_eq_false_iff_ne]; omega
  go_enter Tryd.func45, Tryd.ntmps45
  go_wp2_with fail
  go_ret3
  exact ⟨rfl, hb0⟩

set_option maxRecDepth 100000 in
set_option maxHeartbeats 800000 in
theorem rget_pos (b o c k n : Nat) (w : World) (hk : k ≤ 8) (hn : k ≤ n) (hc : n + 1 ≤ c) (hm : c ≤ 9223372036854775807) (h0 : w.cell? ⟨b, o, none⟩ = some (.int .u8 (128 + (k : Int))))
    (D V : Nat → Nat) (hD : ∀ j, D j ≤ 255) (hV0 : V 0 = 0) (hVs : ∀ j, V (j + 1) = 256 * V j + D j) (hr : ∀ j, j < k → w.cell? ⟨b, o + 1 + j, none⟩ = some (.int .u8 (D j)))
    (G : Int × Nat × Int) (T : List UInt8) (hT : T.length = k + 1) (hRT : Rd w (some ⟨b, o, none⟩) (bs T)) (hbig : ∀ j, j < k → 36028797018963967 < V j → G = (0, 0, 2)) (hyes : V k ≤ 9223372036854775807 → en (V k : Int) = T → G = ((V k : Int), k + 1, 0)) (hno : V k ≤ 9223372036854775807 → en (V k : Int) ≠ T → G = (0, 0, 2)) :
    Calls Tryd.prog 45 #[.slice (some ⟨b, o, none⟩) (n + 1) c] w fun e w' => e = ret3 G ∧ Below w.heap.size w w' := by
  have hkk : (128 : Int) + (k : Int) - 128 = k := by omega
  obtain ⟨i0, hi0, hz0, hz1, hz2⟩ := info_parts Tryd.info5
  have hb0 := Below.refl w.heap.size w
  have hne : ((n : Int) + 1 == 0) = false := by rw [beq_eq_false_iff_ne]; omega
  have HR := Lib.hid hr; clear hr
  have HD := Lib.hid hD; clear hD
  have H0 := Lib.hid hV0; clear hV0
  have HS := Lib.hid hVs; clear hVs
  have HT := Lib.hid hT; clear hT
  have HRT := Lib.hid hRT; clear hRT
  have HB := Lib.hid hbig; clear hbig
  have HY := Lib.hid hyes; clear hyes
  have HN := Lib.hid hno; clear hno
  go_enter Tryd.func45, Tryd.ntmps45
  go_wp2_with fail
  go_loopg [7, 8] k (fun g m i wr => ∃ j : Nat, j + g = k ∧ i = .int .i64 ((j : Int) + 1) ∧ m = .int .i64 (V j) ∧ V j ≤ 9223372036854775807 ∧ w = wr)
  case atStart => exact ⟨0, by omega, rfl, by rw [H0.out]; rfl, by rw [H0.out]; omega, rfl⟩
  case round =>
    obtain ⟨j, hj, rfl, rfl, hVj, rfl⟩ := hrel
    cases gk with
    | zero =>
      obtain rfl : k = j := by omega
      have HVj := Lib.hid hVj
      obtain ⟨E, hE⟩ : ∃ E, E = en (V k : Int) := ⟨_, rfl⟩
      have hlen9 : E.length ≤ 9 := by rw [hE]; exact en_len9 _
      have HNI := Lib.hid (show inI (V k : Int) by unfold inI; have := HVj.out; omega)
      have HE := Lib.hid hE; clear hE
      have hsl := run_cut0 (P := Tryd.prog) (t := 58) Tryd.underlying58 hi0 b o n k c (by omega)
      have hwk : IntKind.i64.wrap ((k : Int) + 1) = (k : Int) + 1 := by rw [IntKind.wrap_i64]; omega
      by_cases hET : E = T
      · have HG := Lib.hid (HY.out HVj.out (HE.out.symm.trans hET))
        have hsame := fun (w1 : World) (B : Option Addr) (d : Nat) (h1 : Rd w1 B (bs E)) (h2 : Rd w1 (some ⟨b, o, none⟩) (bs T)) => same_yes E T B _ d c (k + 1) w1 HT.out (by omega) hET h1 h2
        have HSA := Lib.hid hsame
        clear hsame hET
        go_wp2_with fail
        go_region_with (first | (go_at_call 36; refine (st_own (w := w) (rint_any (V k : Int) HNI.out _) E HE.out.symm ((Below.refl _ _).drew)).mono ?_; rintro e w1 ⟨B, d, rfl, h, hn1⟩; have HQ := Lib.hid h; have HN1 := Lib.hid hn1; clear h hn1) | (go_at_call 64; refine (HSA.out _ _ _ HQ.out.1 (HRT.out.below HN1.out)).mono ?_; rintro e w2 ⟨rfl, m, rfl⟩))
        all_goals (go_wp2_with fail)
        all_goals go_ret3
        all_goals exact ⟨by rw [HG.out]; rfl, below_drewN HN1.out m⟩
      · have HG := Lib.hid (HN.out HVj.out (fun h => hET (HE.out.trans h)))
        have hsame := fun (w1 : World) (B : Option Addr) (d : Nat) (h1 : Rd w1 B (bs E)) (h2 : Rd w1 (some ⟨b, o, none⟩) (bs T)) => same_not E T B _ d c (k + 1) w1 HT.out (by omega) hET h1 h2
        have HSA := Lib.hid hsame
        clear hsame hET
        go_wp2_with fail
        go_region_with (first | (go_at_call 36; refine (st_own (w := w) (rint_any (V k : Int) HNI.out _) E HE.out.symm ((Below.refl _ _).drew)).mono ?_; rintro e w1 ⟨B, d, rfl, h, hn1⟩; have HQ := Lib.hid h; have HN1 := Lib.hid hn1; clear h hn1) | (go_at_call 64; refine (HSA.out _ _ _ HQ.out.1 (HRT.out.below HN1.out)).mono ?_; rintro e w2 ⟨rfl, m, rfl⟩))
        all_goals (go_wp2_with fail)
        all_goals go_ret3
        all_goals exact ⟨by rw [HG.out]; rfl, below_drewN HN1.out m⟩
    | succ g =>
      have hlt : j < k := by omega
      have hcell := HR.out j hlt
      have hd := HD.out j
      have ha : o + 1 + j = o + (j + 1) := by omega
      rw [ha] at hcell
      by_cases hVb : 36028797018963967 < V j
      · have HG := Lib.hid (HB.out j hlt hVb)
        go_wp2_with fail
        go_ret3
        exact ⟨by rw [HG.out]; rfl, hb0⟩
      · go_wp2_with fail
        go_roundg g
        case measure => omega
        case rel => exact ⟨j + 1, by omega, by go_num, by rw [HS.out]; go_num, by rw [HS.out]; omega, rfl⟩
theorem Vt_mono (neg : Bool) (t : List UInt8) (j : Nat) : ∀ i, Vt neg t j ≤ Vt neg t (j + i) := by
  intro i
  induction i with
  | zero => exact Nat.le_refl _
  | succ i ih => rw [← Nat.add_assoc, Vt]; omega
theorem gB_two (neg : Bool) (k : Nat) (t : List UInt8) (h1 : ¬ 8 < k) (h2 : ¬ t.length < k) : gB neg k t = (0, 0, 2) ∨ (gB neg k t = (if neg then -1 - (Vt neg t k : Int) else (Vt neg t k : Int), 1 + k, 0) ∧ Vt neg t k < 9223372036854775808) := by
  rw [Vt_eq neg t k (by omega)]
  unfold gB
  rw [if_neg h1, if_neg h2]
  by_cases h3 : ((t.take k).map (flip neg)).head? = some 0
  · rw [if_pos h3]; exact .inl rfl
  · rw [if_neg h3]
    by_cases h4 : 9223372036854775808 ≤ val ((t.take k).map (flip neg))
    · rw [if_pos h4]; exact .inl rfl
    · rw [if_neg h4]; exact .inr ⟨rfl, by omega⟩
theorem gB_far (neg : Bool) (k j : Nat) (t : List UInt8) (h1 : ¬ 8 < k) (h2 : ¬ t.length < k) (hj : j < k) (hV : 36028797018963967 < Vt neg t j) : gB neg k t = (0, 0, 2) := by
  rcases gB_two neg k t h1 h2 with h | ⟨_, h⟩
  · exact h
  · exfalso
    have h5 := Vt_mono neg t (j + 1) (k - (j + 1))
    rw [show j + 1 + (k - (j + 1)) = k from by omega, Vt] at h5
    omega

theorem rgetInt_any (l : List UInt8) (A : Option Addr) (c : Nat) (w : World) (hc : l.length ≤ c) (hm : c ≤ maxLen) (hr : Rd w A (bs l)) :
    Calls Tryd.prog 45 #[.slice A l.length c] w fun e w' => e = ret3 (gI l) ∧ Below w.heap.size w w' := by
  have hm' : c ≤ 9223372036854775807 := by unfold maxLen at hm; omega
  cases l with
  | nil => exact rget_nil A c w
  | cons h t =>
    have h255 : h.toNat < 256 := h.toNat_lt
    obtain ⟨b, o, rfl, hcell⟩ := hr.open (by simp [bs])
    have h0 : w.cell? ⟨b, o, none⟩ = some (.int .u8 h.toNat) := hcell 0 _ rfl
    have ht : ∀ j (hj : j < t.length), w.cell? ⟨b, o + 1 + j, none⟩ = some (.int .u8 t[j].toNat) := fun j hj => by
      have := hcell (1 + j) (.int .u8 t[j].toNat) (by simp [bs, by8, Nat.add_comm 1 j, hj])
      rw [← Nat.add_assoc] at this
      exact this
    have hc' : t.length + 1 ≤ c := by simpa using hc
    rw [List.length_cons]
    have key : ∀ (neg : Bool) (k : Nat), k ≤ 127 → h.toNat = (if neg then 127 - k else 128 + k) → gI (h :: t) = gB neg k t → Calls Tryd.prog 45 #[.slice (some ⟨b, o, none⟩) (t.length + 1) c] w fun e w' => e = ret3 (gI (h :: t)) ∧ Below w.heap.size w w' := by
      intro neg k hk hh hgi
      rw [hgi]
      have hx : w.cell? ⟨b, o, none⟩ = some (.int .u8 (if neg then 127 - (k : Int) else 128 + (k : Int))) := by
        rw [h0, hh]; cases neg <;> simp <;> omega
      have hD : ∀ j, j < k → k ≤ t.length → w.cell? ⟨b, o + 1 + j, none⟩ = some (.int .u8 (t[j]?.getD 0).toNat) := fun j hj hkt => by
        have hj' : j < t.length := by omega
        rw [ht j hj', List.getElem?_eq_getElem hj']; rfl
      have hlast : ∀ j : Nat, (t[j]?.getD 0).toNat ≤ 255 := fun j => by have := (t[j]?.getD 0).toNat_lt; omega
      by_cases h8 : 8 < k
      · have e : gB neg k t = (0, 0, 2) := by unfold gB; rw [if_pos h8]
        rw [e]
        cases neg
        · exact rget_pos_far b o c k _ w hk hc' hm' hx h8
        · exact rget_neg_far b o c k _ w hk hc' hm' hx h8
      · by_cases hn : t.length < k
        · have e : gB neg k t = (0, 0, 3) := by unfold gB; rw [if_neg h8, if_pos hn]
          rw [e]
          cases neg
          · exact rget_pos_more b o c k _ w hk hc' hm' hx (by omega) hn
          · exact rget_neg_more b o c k _ w hk hc' hm' hx (by omega) hn
        · have hT : ((h :: t).take (k + 1)).length = k + 1 := by simp; omega
          have hRT : Rd w (some ⟨b, o, none⟩) (bs ((h :: t).take (k + 1))) := by
            refine .inr ⟨b, o, rfl, fun i v hv => hcell i v ?_⟩
            rw [← bs_take, List.getElem?_take] at hv
            split at hv
            · exact hv
            · cases hv
          have hbig : ∀ j, j < k → 36028797018963967 < Vt neg t j → gB neg k t = (0, 0, 2) := fun j hj hV => gB_far neg k j t h8 hn hj hV
          have hr' : ∀ j, j < k → w.cell? ⟨b, o + 1 + j, none⟩ = some (.int .u8 (t[j]?.getD 0).toNat) := fun j hj => hD j hj (by omega)
          have hyes : ∀ nn : Int, inI nn → en nn = (h :: t).take (k + 1) → gB neg k t = (nn, k + 1, 0) := fun nn hI he => by
            have h1 := gI_en nn hI ((h :: t).drop (k + 1))
            rw [he, hT, List.take_append_drop, hgi] at h1
            exact h1
          have hno : en (if neg then -1 - (Vt neg t k : Int) else (Vt neg t k : Int)) ≠ (h :: t).take (k + 1) → gB neg k t = (0, 0, 2) := fun hne => by
            rcases gB_two neg k t h8 hn with h1 | ⟨h1, _⟩
            · exact h1
            · exfalso
              have h2 := (gI_ok (l := h :: t) (by rw [hgi, h1])).2.2.2.2
              rw [hgi, h1] at h2
              simp only at h2
              rw [Nat.add_comm 1 k] at h2
              exact hne h2.symm
          cases neg
          · exact rget_pos b o c k _ w (by omega) (by omega) hc' hm' hx (fun j => (t[j]?.getD 0).toNat) (Vt false t) hlast rfl (fun _ => rfl) hr' _ _ hT hRT hbig (fun hV he => hyes _ (by unfold inI; omega) he) (fun _ hne => hno hne)
          · exact rget_neg b o c k _ w (by omega) (by omega) hc' hm' hx (fun j => (t[j]?.getD 0).toNat) (Vt true t) hlast rfl (fun _ => rfl) hr' _ _ hT hRT hbig (fun hV he => hyes _ (by unfold inI; omega) he) (fun _ hne => hno hne)
    by_cases hlt : h.toNat < 128
    · exact key true (127 - h.toNat) (by omega) (by simp; omega) (by rw [gI_cons, if_pos hlt])
    · exact key false (h.toNat - 128) (by omega) (by simp; omega) (by rw [gI_cons, if_neg hlt])
end Go.Proofs.YtbgcnfikcddcpaaDoor
