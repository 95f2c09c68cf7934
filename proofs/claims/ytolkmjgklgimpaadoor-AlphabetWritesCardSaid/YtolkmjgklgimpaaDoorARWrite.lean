/-
  The reference's Write, Safe and Fold, of valid alphabets.
-/
import Derived.Test.YtolkmjgklgimpaaDoorARRead
namespace Go.Proofs.YtolkmjgklgimpaaDoor
open Go.RowKit
open Alp
set_option linter.unusedVariables false
set_option linter.unusedSimpArgs false

theorem small_of {L : List Lt} (hv : valP L = true) : ∀ l ∈ L, l.text.length ≤ maxLen := fun l hl => by have := (val_plain hv hl).2.1; unfold maxLen; omega
set_option maxRecDepth 100000 in
set_option maxHeartbeats 4000000 in
theorem rwrite_aux (L : List Lt) (hv : valP L = true) (ws : List Int) (m : Nat) (hm : m = ws.length) (hm2 : m ≤ 1000) (R : Option B) (hR : R = wrG L ws) (b o q cq : Nat) (hq : q = L.length) (hcq : q ≤ cq) (hcq2 : cq ≤ maxLen)
    (Aw : Option Addr) (cw : Nat) (hcw : m ≤ cw) (hmw : cw ≤ maxLen) (w : World) (hr : Rd w (some ⟨b, o, none⟩) (lv L)) (hl : RL w b o L) (bw ow : Nat) (hA : m = 0 ∨ Aw = some ⟨bw, ow, none⟩ ∧ IL w bw ow ws) :
    Calls Tryd.prog 18 #[.slice (some ⟨b, o, none⟩) q cq, .slice Aw m cw] w (WPost w (wrR R)) := by
  have HC := Lib.hid (rvalid_any L (some ⟨b, o, none⟩) q cq hq hcq hcq2 (small_of hv) true hv.symm w hr)
  have hq' : cq ≤ 9223372036854775807 := by unfold maxLen at hcq2; omega
  have hw' : cw ≤ 9223372036854775807 := by unfold maxLen at hmw; omega
  have HQ := Lib.hid hq
  have HM := Lib.hid hm
  have HR := Lib.hid hR
  have HV := Lib.hid hv
  have HL := Lib.hid hl
  have HA := Lib.hid hA
  clear hq hm hR hv hr hl hA
  go_enter Tryd.func18, Tryd.ntmps18
  go_wp2_with ((with_reducible refine HC.out.mono ?_); rintro e w1 hb1; obtain ⟨rfl, hb2⟩ := boolb_out hb1; have HB := Lib.hid hb2; clear hb1 hb2)
  go_loopg [6, 7] m (fun g s6 s7 wr => ∃ (k : Nat) (D : B), k + g = m ∧ s7 = .int .i64 (k : Int) ∧ s6 = .string (tb D) ∧ Hid (D.length ≤ 4 * k ∧ R = (wrG L (ws.drop k)).map (D ++ ·)) ∧ wr = w1)
  case atStart => exact ⟨0, [], by omega, rfl, rfl, Lib.hid ⟨Nat.le_refl _, by rw [HR.out]; simp⟩, rfl⟩
  case round =>
    obtain ⟨k, D, hk, rfl, rfl, HI, rfl⟩ := hrel
    by_cases hlt : k < m
    · obtain ⟨g, rfl⟩ : ∃ g, gk = g + 1 := ⟨gk - 1, by omega⟩
      obtain ⟨x, hx⟩ : ∃ x, x = ws.getD k 0 := ⟨_, rfl⟩
      have hkw : k < ws.length := by rw [← HM.out]; exact hlt
      obtain ⟨rfl, hil⟩ : Aw = some ⟨bw, ow, none⟩ ∧ IL w bw ow ws := by
        rcases HA.out with h | h
        · omega
        · exact h
      have hcx : wr.cell? ⟨bw, ow + k, none⟩ = some (.int .i64 x) := hil.at HB.out hkw hx
      have HD : Hid (ws.drop k = x :: ws.drop (k + 1)) := Lib.hid (drop_getD hkw hx)
      clear hx hil
      by_cases h0 : 0 ≤ x
      · have hd0 : decide (x < 0) = false := decide_eq_false (by omega)
        by_cases hxq : x < q
        · obtain ⟨i, rfl⟩ : ∃ i : Nat, x = i := ⟨x.toNat, by omega⟩
          have hiq : i < q := by omega
          have hd1 : decide ((q : Int) ≤ (i : Int)) = false := decide_eq_false (by omega)
          obtain ⟨l, hle⟩ : ∃ l, l = L.getD i z := ⟨_, rfl⟩
          have hct : wr.cell? ⟨b, o + i * 5, none⟩ = some (.string (tb l.text)) := (HL.out.below HB.out).c0 (by rw [← HQ.out]; exact hiq) hle
          have hlen : l.text.length ≤ 4 := by rw [hle]; exact (val_plain HV.out (getD_mem (by rw [← HQ.out]; exact hiq))).2.1
          have HW : Hid (R = (wrG L (ws.drop (k + 1))).map ((D ++ l.text) ++ ·)) := Lib.hid (by
            rw [HI.out.2, HD.out, wrG_cons, if_pos ⟨by omega, by rw [← HQ.out]; omega⟩, Int.toNat_natCast, ← hle, Option.map_map]
            congr 1
            funext s
            simp)
          have hDk := HI.out.1
          have hcat := fun W => cat_tb (P := Tryd.prog) (a := D) (b := l.text) rfl (by rw [List.length_append]; omega) W
          have HLN : Hid ((D ++ l.text).length ≤ 4 * (k + 1)) := Lib.hid (by rw [List.length_append]; omega)
          clear hle hlen hDk
          go_wp2_with fail
          go_roundg g
          case rel => exact ⟨k + 1, D ++ l.text, by omega, by go_num, rfl, Lib.hid ⟨HLN.out, HW.out⟩, rfl⟩
          case measure => omega
        · have HRE : Hid (R = none) := Lib.hid (by rw [HI.out.2, HD.out, wrG_cons, if_neg (by rw [← HQ.out]; exact fun h => hxq h.2)]; rfl)
          have hd1 : decide ((q : Int) ≤ x) = true := decide_eq_true (by omega)
          go_wp2_with fail
          go_ret2
          rw [HRE.out]
          exact ⟨rfl, HB.out⟩
      · have HRE : Hid (R = none) := Lib.hid (by rw [HI.out.2, HD.out, wrG_cons, if_neg (fun h => h0 h.1)]; rfl)
        have hd0 : decide (x < 0) = true := decide_eq_true (by omega)
        go_wp2_with fail
        go_ret2
        rw [HRE.out]
        exact ⟨rfl, HB.out⟩
    · obtain rfl : k = m := by omega
      have HRE : Hid (R = some D) := Lib.hid (by rw [HI.out.2, List.drop_of_length_le (by rw [← HM.out]; exact Nat.le_refl _)]; simp [wrG])
      go_wp2_with fail
      go_ret2
      rw [HRE.out]
      exact ⟨rfl, HB.out⟩
theorem rwrite_any (L : List Lt) (hv : valP L = true) (ws : List Int) (hm2 : ws.length ≤ 1000) (A : Option Addr) (q cq : Nat) (hq : q = L.length) (hcq : q ≤ cq) (hcq2 : cq ≤ maxLen)
    (Aw : Option Addr) (m cw : Nat) (hmn : m = ws.length) (hcw : m ≤ cw) (hmw : cw ≤ maxLen) (R : B × Int) (hR : R = writeP L ws) (w : World) (hr : Rd w A (lv L)) (hrw : Rd w Aw (iv ws)) :
    Calls Tryd.prog 18 #[.slice A q cq, .slice Aw m cw] w (WPost w R) := by
  rw [hR, writeP_yes hv]
  obtain ⟨b, o, rfl, hl⟩ := rl_open hr (by intro e; subst e; simp [valP] at hv)
  by_cases h0 : ws = []
  · exact rwrite_aux L hv ws m hmn (by omega) _ rfl b o q cq hq hcq hcq2 Aw cw hcw hmw w hr hl 0 0 (.inl (by rw [hmn, h0]; rfl))
  · obtain ⟨bw, ow, hA, hil⟩ := il_open hrw h0
    exact rwrite_aux L hv ws m hmn (by omega) _ rfl b o q cq hq hcq hcq2 Aw cw hcw hmw w hr hl bw ow (.inr ⟨hA, hil⟩)
theorem writeP_len {L : List Lt} (hv : valP L = true) (ws : List Int) : (writeP L ws).1.length ≤ 4 * ws.length := by
  rw [writeP_yes hv]
  cases h : wrG L ws with
  | none => simp [wrR]
  | some s => exact wrG_len hv ws h
set_option maxRecDepth 100000 in
set_option maxHeartbeats 2000000 in
theorem rsafe_any (L : List Lt) (hv : valP L = true) (ws : List Int) (hm2 : ws.length ≤ 1000) (A : Option Addr) (q cq : Nat) (hq : q = L.length) (hcq : q ≤ cq) (hcq2 : cq ≤ maxLen)
    (Aw : Option Addr) (m cw : Nat) (hmn : m = ws.length) (hcw : m ≤ cw) (hmw : cw ≤ maxLen) (V : Bool) (hV : V = safeP L ws) (w : World) (hr : Rd w A (lv L)) (hrw : Rd w Aw (iv ws)) :
    Calls Tryd.prog 20 #[.slice A q cq, .slice Aw m cw] w (BoolB w V) := by
  have HW := Lib.hid (rwrite_any L hv ws hm2 A q cq hq hcq hcq2 Aw m cw hmn hcw hmw _ rfl w hr hrw)
  have hlen := writeP_len hv ws
  have hV2 : V = (decide ((writeP L ws).2 = 0) && decide (readP L (writeP L ws).1 = (ws, -1))) := hV
  obtain ⟨⟨s, x⟩, hR⟩ : ∃ R, R = writeP L ws := ⟨_, rfl⟩
  rw [← hR] at HW hlen hV2
  have HR : Hid (∀ W, Below w.heap.size w W → Calls Tryd.prog 13 #[.slice A q cq, .string (tb s)] W (RPost W (readP L s))) := Lib.hid fun W hb => rread_any L s (by simp only at hlen; omega) A q cq hq hcq hcq2 (small_of hv) _ rfl W (hr.below hb)
  have HE : Hid (∀ (l1 : List Int) (A1 : Option Addr) (n1 c1 : Nat) (b : Bool) W, n1 = l1.length → n1 ≤ maxLen → b = decide (l1 = ws) → Rd W A1 (iv l1) → Below w.heap.size w W → Calls Tryd.prog 14 #[.slice A1 n1 c1, .slice Aw m cw] W (BoolB W b)) := Lib.hid fun l1 A1 n1 c1 b W h1 h2 h3 h4 hb => same_any l1 ws A1 Aw n1 m c1 cw h1 hmn h2 b h3 W h4 (hrw.below hb)
  obtain ⟨⟨l1, y⟩, hRR⟩ : ∃ R, R = readP L s := ⟨_, rfl⟩
  rw [← hRR] at HR
  simp only at hV2
  rw [← hRR] at hV2
  have HV := Lib.hid hV2
  clear hV hV2 hR hRR hv hq hr hrw hmn hlen
  have arm1 : True := trivial
  by_cases hx : x = 0
  · subst hx
    by_cases hy : y = -1
    · subst hy
      go_enter Tryd.func20, Tryd.ntmps20
      go_wp2_with (first
        | ((with_reducible refine HW.out.mono ?_); rintro e w1 hb1; obtain ⟨rfl, hb2⟩ := w_out2 hb1; have HB := Lib.hid hb2; clear hb1 hb2)
        | ((with_reducible refine (HR.out _ HB.out).mono ?_); rintro e w2 hb1; obtain ⟨A1, c1, n1, rfl, h1, h2, h3, h4, hb2⟩ := r_out2 hb1; have HB2 : Hid (Below w.heap.size w w2 ∧ n1 = l1.length ∧ Rd w2 A1 (iv l1) ∧ n1 ≤ maxLen) := Lib.hid ⟨below_next HB.out hb2, h1, h2, Nat.le_trans h3 h4⟩; clear hb1 hb2 h1 h2 h3 h4)
        | ((with_reducible refine (HE.out l1 A1 n1 c1 (decide (l1 = ws)) _ HB2.out.2.1 HB2.out.2.2.2 rfl HB2.out.2.2.1 HB2.out.1).mono ?_); rintro e w3 hb1; obtain ⟨rfl, hb2⟩ := boolb_out hb1; have HB3 := Lib.hid (below_next HB2.out.1 hb2); clear hb1 hb2))
      go_ret
      have hV : V = decide (l1 = ws) := by
        rw [HV.out]
        simp
      rw [hV]
      exact ⟨rfl, HB3.out⟩
    · have hyd : (y == -1) = false := beq_eq_false_iff_ne.2 hy
      go_enter Tryd.func20, Tryd.ntmps20
      go_wp2_with (first
        | ((with_reducible refine HW.out.mono ?_); rintro e w1 hb1; obtain ⟨rfl, hb2⟩ := w_out2 hb1; have HB := Lib.hid hb2; clear hb1 hb2)
        | ((with_reducible refine (HR.out _ HB.out).mono ?_); rintro e w2 hb1; obtain ⟨A1, c1, n1, rfl, h1, h2, h3, h4, hb2⟩ := r_out2 hb1; have HB2 : Hid (Below w.heap.size w w2) := Lib.hid (below_next HB.out hb2); clear hb1 hb2 h1 h2 h3 h4))
      go_ret
      have hV : V = false := by
        rw [HV.out, Bool.and_eq_false_iff]
        exact .inr (decide_eq_false fun e => hy (Prod.mk.inj e).2)
      rw [hV]
      exact ⟨rfl, HB2.out⟩
  · have hxd : (x == 0) = false := beq_eq_false_iff_ne.2 hx
    go_enter Tryd.func20, Tryd.ntmps20
    go_wp2_with (first
      | ((with_reducible refine HW.out.mono ?_); rintro e w1 hb1; obtain ⟨rfl, hb2⟩ := w_out2 hb1; have HB := Lib.hid hb2; clear hb1 hb2)
      | ((with_reducible refine (HR.out _ HB.out).mono ?_); rintro e w2 hb1; obtain ⟨A1, c1, n1, rfl, h1, h2, h3, h4, hb2⟩ := r_out2 hb1; have HB2 : Hid (Below w.heap.size w w2) := Lib.hid (below_next HB.out hb2); clear hb1 hb2 h1 h2 h3 h4))
    go_ret
    have hV : V = false := by rw [HV.out, decide_eq_false hx]; rfl
    rw [hV]
    exact ⟨rfl, HB2.out⟩

theorem fold_step {L : List Lt} {ws : List Int} {k : Nat} (hk : k < ws.length) {x : Int} (hx : x = ws.getD k 0) : (ws.take (k + 1)).map (foldE L) = (ws.take k).map (foldE L) ++ [foldE L x] := by
  rw [List.take_succ_eq_append_getElem hk, List.map_append, hx]
  simp [List.getD, hk]
set_option maxRecDepth 100000 in
set_option maxHeartbeats 4000000 in
theorem rfold_aux (L : List Lt) (hv : valP L = true) (ws : List Int) (m : Nat) (hm : m = ws.length) (hm2 : m ≤ 1000) (b o q cq : Nat) (hq : q = L.length) (hcq : q ≤ cq) (hcq2 : cq ≤ maxLen)
    (Aw : Option Addr) (cw : Nat) (hcw : m ≤ cw) (hmw : cw ≤ maxLen) (w : World) (hr : Rd w (some ⟨b, o, none⟩) (lv L)) (hl : RL w b o L) (bw ow : Nat) (hA : m = 0 ∨ Aw = some ⟨bw, ow, none⟩ ∧ IL w bw ow ws) :
    Calls Tryd.prog 22 #[.slice (some ⟨b, o, none⟩) q cq, .slice Aw m cw] w (LPost w (foldP L ws)) := by
  have HC := Lib.hid (rvalid_any L (some ⟨b, o, none⟩) q cq hq hcq hcq2 (small_of hv) true hv.symm w hr)
  obtain ⟨i0, hi0, hz0, hz1, hz2⟩ := info_parts Tryd.infoInt
  have hq' : cq ≤ 9223372036854775807 := by unfold maxLen at hcq2; omega
  have hw' : cw ≤ 9223372036854775807 := by unfold maxLen at hmw; omega
  have HQ := Lib.hid hq
  have HM := Lib.hid hm
  have HV := Lib.hid hv
  have HL := Lib.hid hl
  have HA := Lib.hid hA
  clear hq hm hv hr hl hA
  go_enter Tryd.func22, Tryd.ntmps22
  go_wp2_with ((with_reducible refine HC.out.mono ?_); rintro e w1 hb1; obtain ⟨rfl, hb2⟩ := boolb_out hb1; have HB := Lib.hid hb2; clear hb1 hb2)
  go_loopg [5, 7, 8] m (fun g s5 s7 s8 wr => ∃ (k : Nat), k + g = m ∧ s7 = .int .i64 (k : Int) ∧ Hid (wr.ownsRow w1.heap.size 3 1 s5 k (iv ((ws.take k).map (foldE L))) ∧ Below w1.heap.size w1 wr))
  case atStart => exact ⟨0, by omega, rfl, Lib.hid ⟨⟨rfl, .inl ⟨rfl, rfl⟩⟩, Below.refl _ _⟩⟩
  case round =>
    obtain ⟨k, hk, rfl, HI⟩ := hrel
    obtain ⟨A2, c2, hv2, hrd, hmc, hm3⟩ := Rd.of_own HI.out.1
    subst hv2
    have HRD := Lib.hid hrd
    have HBW : Hid (Below w.heap.size w wr) := Lib.hid (below_next HB.out HI.out.2)
    clear hrd
    by_cases hlt : k < m
    · obtain ⟨g, rfl⟩ : ∃ g, gk = g + 1 := ⟨gk - 1, by omega⟩
      obtain ⟨x, hx⟩ : ∃ x, x = ws.getD k 0 := ⟨_, rfl⟩
      have hkw : k < ws.length := by rw [← HM.out]; exact hlt
      obtain ⟨rfl, hil⟩ : Aw = some ⟨bw, ow, none⟩ ∧ IL w bw ow ws := by
        rcases HA.out with h | h
        · omega
        · exact h
      have hcx : wr.cell? ⟨bw, ow + k, none⟩ = some (.int .i64 x) := hil.at HBW.out hkw hx
      obtain ⟨y, hy⟩ : ∃ y, y = foldE L x := ⟨_, rfl⟩
      have HF : Hid ((ws.take (k + 1)).map (foldE L) = (ws.take k).map (foldE L) ++ [y]) := Lib.hid (by rw [fold_step hkw hx, hy])
      have hs1 : k + 1 ≤ maxLen := by unfold maxLen; omega
      have hs2 : (k + 1) * 8 ≤ 140737488355328 := by omega
      clear hx hil
      by_cases h0 : 0 ≤ x
      · have hd0 : decide (0 ≤ x) = true := decide_eq_true h0
        by_cases hxq : x < q
        · obtain ⟨i, rfl⟩ : ∃ i : Nat, x = i := ⟨x.toNat, by omega⟩
          have hiq : i < q := by omega
          obtain ⟨l, hle⟩ : ∃ l, l = L.getD i z := ⟨_, rfl⟩
          have hct : wr.cell? ⟨b, o + i * 5 + 1, none⟩ = some (.int .i64 l.base) := (HL.out.below HBW.out).c1 (by rw [← HQ.out]; exact hiq) hle
          have HY : Hid (y = l.base) := Lib.hid (by rw [hy]; unfold foldE; rw [if_pos ⟨by omega, by rw [← HQ.out]; omega⟩, Int.toNat_natCast, hle])
          clear hle hy
          go_wp2_with (at_builtin; refine wpList_own_src rfl (.tmp 37) (.tmp 39) 22 22 rfl w1.heap.size 3 i0 _ 1 8 Tryd.underlying22 hi0 hz0 hz1 hz2 rfl _ _ _ rfl (own_alc HI.out.1 _) _ 1 [.int .i64 l.base] rfl (src_one Tryd.underlying22 hz1 _ _ _ rfl) hs1 hs2 (below_al HI.out.2 _).size ?_; intro v4 w4 hown4 hg4 hat4; have HX4 : Hid (w4.ownsRow w1.heap.size 3 1 v4 (k + 1) (iv ((ws.take k).map (foldE L)) ++ [.int .i64 l.base]) ∧ Below w1.heap.size w1 w4) := Lib.hid ⟨hown4, below_own (below_al HI.out.2 _) hg4 (fun g hg => (HI.out.1.lt _ hg).1)⟩; clear hown4 hg4 hat4)
          go_roundg g
          case rel => exact ⟨k + 1, by omega, by go_num, Lib.hid ⟨by rw [HF.out, iv_snoc, HY.out]; exact HX4.out.1, HX4.out.2⟩⟩
          case measure => omega
        · have hd1 : decide (x < (q : Int)) = false := decide_eq_false hxq
          have HY : Hid (y = x) := Lib.hid (by rw [hy]; unfold foldE; rw [if_neg (by rw [← HQ.out]; exact fun h => hxq h.2)])
          clear hy
          go_wp2_with (at_builtin; refine wpList_own_src rfl (.tmp 37) (.tmp 39) 22 22 rfl w1.heap.size 3 i0 _ 1 8 Tryd.underlying22 hi0 hz0 hz1 hz2 rfl _ _ _ rfl (own_alc HI.out.1 _) _ 1 [.int .i64 x] rfl (src_one Tryd.underlying22 hz1 _ _ _ rfl) hs1 hs2 (below_al HI.out.2 _).size ?_; intro v4 w4 hown4 hg4 hat4; have HX4 : Hid (w4.ownsRow w1.heap.size 3 1 v4 (k + 1) (iv ((ws.take k).map (foldE L)) ++ [.int .i64 x]) ∧ Below w1.heap.size w1 w4) := Lib.hid ⟨hown4, below_own (below_al HI.out.2 _) hg4 (fun g hg => (HI.out.1.lt _ hg).1)⟩; clear hown4 hg4 hat4)
          go_roundg g
          case rel => exact ⟨k + 1, by omega, by go_num, Lib.hid ⟨by rw [HF.out, iv_snoc, HY.out]; exact HX4.out.1, HX4.out.2⟩⟩
          case measure => omega
      · have hd0 : decide (0 ≤ x) = false := decide_eq_false h0
        have HY : Hid (y = x) := Lib.hid (by rw [hy]; unfold foldE; rw [if_neg (fun h => h0 h.1)])
        clear hy
        go_wp2_with (at_builtin; refine wpList_own_src rfl (.tmp 37) (.tmp 39) 22 22 rfl w1.heap.size 3 i0 _ 1 8 Tryd.underlying22 hi0 hz0 hz1 hz2 rfl _ _ _ rfl (own_alc HI.out.1 _) _ 1 [.int .i64 x] rfl (src_one Tryd.underlying22 hz1 _ _ _ rfl) hs1 hs2 (below_al HI.out.2 _).size ?_; intro v4 w4 hown4 hg4 hat4; have HX4 : Hid (w4.ownsRow w1.heap.size 3 1 v4 (k + 1) (iv ((ws.take k).map (foldE L)) ++ [.int .i64 x]) ∧ Below w1.heap.size w1 w4) := Lib.hid ⟨hown4, below_own (below_al HI.out.2 _) hg4 (fun g hg => (HI.out.1.lt _ hg).1)⟩; clear hown4 hg4 hat4)
        go_roundg g
        case rel => exact ⟨k + 1, by omega, by go_num, Lib.hid ⟨by rw [HF.out, iv_snoc, HY.out]; exact HX4.out.1, HX4.out.2⟩⟩
        case measure => omega
    · obtain rfl : k = m := by omega
      have HE : Hid (foldP L ws = (ws.take k).map (foldE L)) := Lib.hid (by rw [foldP_yes HV.out, HM.out, List.take_length])
      have HLN : Hid (k = ((ws.take k).map (foldE L)).length) := Lib.hid (by rw [List.length_map, List.length_take]; have := HM.out; omega)
      go_wp2_with fail
      go_ret
      rw [HE.out]
      exact ⟨A2, c2, k, rfl, HLN.out, HRD.out, hmc, hm3, HBW.out⟩
theorem rfold_any (L : List Lt) (hv : valP L = true) (ws : List Int) (hm2 : ws.length ≤ 1000) (A : Option Addr) (q cq : Nat) (hq : q = L.length) (hcq : q ≤ cq) (hcq2 : cq ≤ maxLen)
    (Aw : Option Addr) (m cw : Nat) (hmn : m = ws.length) (hcw : m ≤ cw) (hmw : cw ≤ maxLen) (w : World) (hr : Rd w A (lv L)) (hrw : Rd w Aw (iv ws)) :
    Calls Tryd.prog 22 #[.slice A q cq, .slice Aw m cw] w (LPost w (foldP L ws)) := by
  obtain ⟨b, o, rfl, hl⟩ := rl_open hr (by intro e; subst e; simp [valP] at hv)
  by_cases h0 : ws = []
  · exact rfold_aux L hv ws m hmn (by omega) b o q cq hq hcq hcq2 Aw cw hcw hmw w hr hl 0 0 (.inl (by rw [hmn, h0]; rfl))
  · obtain ⟨bw, ow, hA, hil⟩ := il_open hrw h0
    exact rfold_aux L hv ws m hmn (by omega) b o q cq hq hcq hcq2 Aw cw hcw hmw w hr hl bw ow (.inr ⟨hA, hil⟩)
end Go.Proofs.YtolkmjgklgimpaaDoor
