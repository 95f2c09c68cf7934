/-
  alphabet.Safe, Fold.
-/
import Derived.Test.YtolkmjgklgimpaaDoorAEq
import Derived.Laws.MakeOwn
namespace Go.Proofs.YtolkmjgklgimpaaDoor
open Go.RowKit
open Alp
set_option linter.unusedVariables false
set_option linter.unusedSimpArgs false

theorem wrG_len {L : List Lt} (hv : valP L = true) (w : List Int) {s : B} (h : wrG L w = some s) : s.length ≤ 4 * w.length := by
  induction w generalizing s with
  | nil => obtain rfl : [] = s := by simpa [wrG] using h
           exact Nat.le_refl _
  | cons x t ih =>
    rw [wrG_cons] at h
    by_cases hx : 0 ≤ x ∧ x < L.length
    · rw [if_pos hx] at h
      cases ht : wrG L t with
      | none => rw [ht] at h; cases h
      | some s' =>
        rw [ht] at h
        obtain rfl : (L.getD x.toNat z).text ++ s' = s := by simpa using h
        have := ih ht
        have := (val_plain hv (getD_mem (L := L) (i := x.toNat) (by omega))).2.1
        simp only [List.length_append, List.length_cons]
        omega
    · rw [if_neg hx] at h; cases h
theorem readP_end {L : List Lt} (hv : valP L = true) (s : B) : (readP L s).2 = -1 ∨ 0 ≤ (readP L s).2 := by
  rw [readP_val hv]
  obtain ⟨_, c, _, _, _, h | h⟩ := readG_long hv (s.length + 1) s 0 (by omega)
  · exact .inl h.1
  · exact .inr (by rw [h.1]; omega)
theorem safe_eq {L : List Lt} (hv : valP L = true) {w : List Int} {s : B} (h : wrG L w = some s) : safeP L w = (decide ((readP L s).2 < 0) && decide ((readP L s).1 = w)) := by
  unfold safeP
  rw [writeP_yes hv, h]
  show (decide ((0 : Int) = 0) && decide (readP L s = (w, -1))) = _
  have := readP_end hv s
  by_cases h1 : (readP L s).2 < 0
  · rw [decide_eq_true h1]
    have h2 : (readP L s).2 = -1 := by omega
    simp only [decide_true, Bool.true_and]
    congr 1
    refine propext ⟨fun e => by rw [e], fun e => Prod.ext e h2⟩
  · rw [decide_eq_false h1]
    simp only [decide_true, Bool.true_and, Bool.false_and, decide_eq_false_iff_not]
    intro e
    rw [e] at h1
    exact h1 (show (-1 : Int) < 0 by decide)
theorem safe_no {L : List Lt} {w : List Int} (h : (writeP L w).2 ≠ 0) : safeP L w = false := by unfold safeP; rw [decide_eq_false h]; rfl
theorem w_out2 {w w' : World} {s : B} {x : Int} {e : Ending} (h : WPost w (s, x) e w') : e = .returned (.tuple #[.string (tb s), .int .i64 x]) ∧ Below w.heap.size w w' := h
theorem r_out2 {w w' : World} {l : List Int} {y : Int} {e : Ending} (h : RPost w (l, y) e w') : ∃ (A : Option Addr) (c n : Nat), e = .returned (.tuple #[.slice A n c, .int .i64 y]) ∧ n = l.length ∧ Rd w' A (iv l) ∧ n ≤ c ∧ c ≤ maxLen ∧ Below w.heap.size w w' := h
set_option maxRecDepth 100000 in
set_option maxHeartbeats 1000000 in
theorem safe_any (L : List Lt) (ws : List Int) (hq2 : ws.length ≤ 100000) (A : Option Addr) (n c : Nat) (hn : n = L.length) (hc : n ≤ c) (hm : c ≤ maxLen) (hs : ∀ l ∈ L, l.text.length ≤ maxLen)
    (Aw : Option Addr) (m cw : Nat) (hmn : m = ws.length) (hcw : m ≤ cw) (hmw : cw ≤ maxLen) (V : Bool) (hV : V = safeP L ws) (w : World) (hr : Rd w A (lv L)) (hrw : Rd w Aw (iv ws)) :
    Calls Tryd.prog 19 #[.slice A n c, .slice Aw m cw] w (BoolB w V) := by
  have HW := Lib.hid (write_any L ws (by omega) A n c hn hc hm hs Aw m cw hmn hcw hmw _ rfl w hr hrw)
  obtain ⟨⟨s, x⟩, hR⟩ : ∃ R, R = writeP L ws := ⟨_, rfl⟩
  rw [← hR] at HW
  by_cases hx : x = 0
  · subst hx
    have hv : valP L = true := by
      cases h : valP L
      · rw [writeP_no h] at hR; simp at hR
      · rfl
    have hw : wrG L ws = some s := by
      rw [writeP_yes hv] at hR
      cases h : wrG L ws with
      | none => rw [h] at hR; simp [wrR] at hR
      | some s' => rw [h] at hR; simp [wrR] at hR; rw [hR]
    have hV2 := hV.trans (safe_eq hv hw)
    have HR : Hid (∀ W, Below w.heap.size w W → Calls Tryd.prog 12 #[.slice A n c, .string (tb s)] W (RPost W (readP L s))) := Lib.hid fun W hb => read_any L s (by have := wrG_len hv ws hw; omega) A n c hn hc hm hs _ rfl W (hr.below hb)
    have HE : Hid (∀ (l1 : List Int) (A1 : Option Addr) (n1 c1 : Nat) (b : Bool) W, n1 = l1.length → n1 ≤ maxLen → b = decide (l1 = ws) → Rd W A1 (iv l1) → Below w.heap.size w W → Calls Tryd.prog 38 #[.slice A1 n1 c1, .slice Aw m cw] W (BoolB W b)) := Lib.hid fun l1 A1 n1 c1 b W h1 h2 h3 h4 hb => equal_any l1 ws A1 Aw n1 m c1 cw h1 hmn h2 b h3 W h4 (hrw.below hb)
    obtain ⟨⟨l1, y⟩, hRR⟩ : ∃ R, R = readP L s := ⟨_, rfl⟩
    rw [← hRR] at HR hV2
    clear hRR
    have HV := Lib.hid hV2
    clear hV hV2 hR hw hv hn hr hrw hmn hs
    by_cases hy : y < 0
    · go_enter Tryd.func19, Tryd.ntmps19
      go_wp2_with (first
        | ((with_reducible refine HW.out.mono ?_); rintro e w1 hb1; obtain ⟨rfl, hb2⟩ := w_out2 hb1; have HB := Lib.hid hb2; clear hb1 hb2)
        | ((with_reducible refine (HR.out _ HB.out).mono ?_); rintro e w2 hb1; obtain ⟨A1, c1, n1, rfl, h1, h2, h3, h4, hb2⟩ := r_out2 hb1; have HB2 : Hid (Below w.heap.size w w2 ∧ n1 = l1.length ∧ Rd w2 A1 (iv l1) ∧ n1 ≤ maxLen) := Lib.hid ⟨below_next HB.out hb2, h1, h2, Nat.le_trans h3 h4⟩; clear hb1 hb2 h1 h2 h3 h4)
        | ((with_reducible refine (HE.out l1 A1 n1 c1 (decide (l1 = ws)) _ HB2.out.2.1 HB2.out.2.2.2 rfl HB2.out.2.2.1 HB2.out.1).mono ?_); rintro e w3 hb1; obtain ⟨rfl, hb2⟩ := boolb_out hb1; have HB3 := Lib.hid (below_next HB2.out.1 hb2); clear hb1 hb2))
      go_ret
      have hV : V = decide (l1 = ws) := by rw [HV.out, decide_eq_true hy]; rfl
      rw [hV]
      exact ⟨rfl, HB3.out⟩
    · have hyd : decide (y < 0) = false := decide_eq_false hy
      go_enter Tryd.func19, Tryd.ntmps19
      go_wp2_with (first
        | ((with_reducible refine HW.out.mono ?_); rintro e w1 hb1; obtain ⟨rfl, hb2⟩ := w_out2 hb1; have HB := Lib.hid hb2; clear hb1 hb2)
        | ((with_reducible refine (HR.out _ HB.out).mono ?_); rintro e w2 hb1; obtain ⟨A1, c1, n1, rfl, h1, h2, h3, h4, hb2⟩ := r_out2 hb1; have HB2 : Hid (Below w.heap.size w w2) := Lib.hid (below_next HB.out hb2); clear hb1 hb2 h1 h2 h3 h4))
      go_ret
      have hV : V = false := by rw [HV.out, decide_eq_false (by omega)]; rfl
      rw [hV]
      exact ⟨rfl, HB2.out⟩
  · have hV2 : V = false := hV.trans (safe_no (by rw [← hR]; exact hx))
    have hxn : (x != 0) = true := bne_iff_ne.2 hx
    subst hV2
    clear hV hR hn hr hrw hmn hs hx
    go_enter Tryd.func19, Tryd.ntmps19
    go_wp2_with ((with_reducible refine HW.out.mono ?_); rintro e w1 hb1; obtain ⟨rfl, hb2⟩ := w_out2 hb1; have HB := Lib.hid hb2; clear hb1 hb2)
    go_ret
    exact ⟨rfl, HB.out⟩
end Go.Proofs.YtolkmjgklgimpaaDoor
