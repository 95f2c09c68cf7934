/-
  The reference's Parse and Same.
-/
import Derived.Test.YtolkmjgklgimpaaDoorALives
import Derived.Test.YtolkmjgklgimpaaDoorARValid
namespace Go.Proofs.YtolkmjgklgimpaaDoor
open Go.RowKit
open Alp
set_option linter.unusedVariables false
set_option linter.unusedSimpArgs false

theorem idx_first {L : List Lt} {t : B} {k : Nat} (hk : k < L.length) (ht : (L.getD k z).text = t) (h : ∀ j, j < k → (L.getD j z).text ≠ t) : idx L t = some k := by
  cases hx : idx L t with
  | none => exact absurd ht (idx_none.1 hx _ (getD_mem hk))
  | some i =>
    obtain ⟨h1, h2, h3⟩ := idx_some hx
    rcases Nat.lt_trichotomy i k with c | c | c
    · exact absurd h2 (h i c)
    · rw [c]
    · exact absurd ht (h3 k c)
theorem idx_nofirst {L : List Lt} {t : B} (h : ∀ j, j < L.length → (L.getD j z).text ≠ t) : idx L t = none := idx_none.2 fun l hl => by
  obtain ⟨i, hi, rfl⟩ := mem_getD hl
  exact h i hi
theorem text_getD (L : List Lt) (k : Nat) : (L.getD k z).text = (texts L).getD k [] := by
  unfold texts
  simp only [List.getD, List.getElem?_map]
  cases L[k]? <;> rfl
def finL (E : XL) : PR := match E with | .inr k => ([], (k : Int), 2) | .inl R => basesP R
theorem parse_finL {s : B} (h : ¬ 65536 < s.length) : parseP s = finL (linesG (splitC 10 s) 0) := by unfold parseP; rw [if_neg h]; rfl
theorem finL_inr (k : Nat) : finL (.inr k) = ([], (k : Int), 2) := rfl
theorem finL_inl (R : Alp.Rows) : finL (.inl R) = finB (baseG (firsts R) R 0) := rfl
/-- What the loop over the lines keeps. -/
def RpI (w : World) (E : XL) (q : Nat) (P : List B) (v1 v2 : Value) (D : Alp.Rows) (i : Nat) (wr : World) : Prop :=
  wr.ownsRow w.heap.size 50 5 v1 i (lv (firsts D)) ∧ wr.ownsRow w.heap.size 9 1 v2 i (tv (seconds D)) ∧ Below w.heap.size w wr ∧ D.length = i ∧ E = addL D (linesG (P.drop i) i) ∧ ∀ x ∈ D, x.1.text.length ≤ q ∧ x.2.length ≤ q
/-- What the loop over the bases keeps. -/
def RbI (w : World) (g1 g2 n cap : Nat) (R : Alp.Rows) (C2 : List Value) (i : Nat) (E : Sum (List Lt) Nat) (wr : World) : Prop :=
  ∃ (C : List Value) (D : List Lt), Blk wr g1 C 50 ∧ C.length = cap * 5 ∧ C.take (n * 5) = lv (D ++ firsts (R.drop i)) ∧ D.length = i ∧ E = addL D (baseG (firsts R) (R.drop i) i) ∧ Blk wr g2 C2 9 ∧ texts D = (texts (firsts R)).take i ∧ Below w.heap.size w wr ∧ ∀ l ∈ D, l.text.length ≤ 65536
theorem rb_text {D : List Lt} {R : Alp.Rows} {i : Nat} (h : texts D = (texts (firsts R)).take i) (k : Nat) : ((D ++ firsts (R.drop i)).getD k z).text = ((firsts R).getD k z).text := by
  rw [text_getD, text_getD]
  have : texts (D ++ firsts (R.drop i)) = texts (firsts R) := by
    have e : texts (firsts (R.drop i)) = (texts (firsts R)).drop i := by simp [texts, firsts, List.map_drop]
    have e2 : texts (D ++ firsts (R.drop i)) = texts D ++ texts (firsts (R.drop i)) := by simp [texts]
    rw [e2, e, h, List.take_append_drop]
  rw [this]
theorem take_cell {w : World} {g n : Nat} {C : List Value} {T : TypeId} {M : List Lt} (h : Blk w g C T) (ht : C.take (n * 5) = lv M) (hM : M.length = n) {k j : Nat} (hk : k < n) (hj : j < 5) {v : Value} (hv : (lc (M.getD k z))[j]? = some v) : w.cell? ⟨g, k * 5 + j, none⟩ = some v := h.cell (by
  have h1 := congrArg (fun l => l[k * 5 + j]?) ht
  simp only [List.getElem?_take] at h1
  rw [if_pos (by omega)] at h1
  rw [h1, lv_get M k (by omega) j hj, hv])
set_option maxRecDepth 100000 in
set_option maxHeartbeats 1000000 in
theorem rparse_big (s : B) (m : Nat) (hs : m = s.length) (hm : m ≤ maxLen) (h : 65536 < m) (w : World) : Calls Tryd.prog 27 #[.string (tb s)] w (PPost w (parseP s)) := by
  have hsz : (tb s).size = m := by rw [tb_size, hs]
  have HR : Hid (parseP s = ([], 0, 4)) := Lib.hid (by unfold parseP; rw [if_pos (by omega)])
  unfold maxLen at hm
  clear hs
  go_enter Tryd.func27, Tryd.ntmps27
  go_wp2_with fail
  go_ret3
  exact ppost_no HR.out (Below.refl _ _)
set_option maxRecDepth 100000 in
set_option maxHeartbeats 16000000 in
theorem rparse_small (s : B) (m : Nat) (hs : m = s.length) (hm : m ≤ 65536) (w : World) : Calls Tryd.prog 27 #[.string (tb s)] w (PPost w (parseP s)) := by
  have hsz : (tb s).size = m := by rw [tb_size, hs]
  obtain ⟨P, hP⟩ : ∃ P, P = splitC 10 s := ⟨_, rfl⟩
  obtain ⟨E, hE⟩ : ∃ E, E = linesG P 0 := ⟨_, rfl⟩
  have HRE : Hid (parseP s = finL E) := Lib.hid (by rw [parse_finL (by omega), ← hP, ← hE])
  have HC : Hid (Calls Tryd.prog 42 #[.string (tb s), .int .u8 10] w (SPost w P)) := Lib.hid (by have := cut_any s (by omega) 10 w; rw [hP]; exact this)
  obtain ⟨N, hN⟩ : ∃ N, N = P.length := ⟨_, rfl⟩
  have hN1 : 1 ≤ N := by
    rw [hN]
    have := splitC_ne 10 s
    rw [← hP] at this
    exact List.length_pos_iff.2 this
  have hNm : N ≤ 65537 := by rw [hN, hP]; have := splitC_len 10 s; omega
  have HPL : Hid (∀ p ∈ P, p.length ≤ m) := Lib.hid (by rw [hP, hs]; exact splitC_part 10 s)
  have HLI : Hid (∀ p : B, p.length ≤ 65536 → ∀ W, Calls Tryd.prog 43 #[.string (tb p)] W (LinePost W (lineP p))) := Lib.hid fun p hp W => rline_any p (by omega) W
  obtain ⟨i0, hi0, hz0, hz1, hz2⟩ := info_parts Tryd.infoLt
  obtain ⟨i1, hi1, hy0, hy1, hy2⟩ := info_parts Tryd.infoStr
  have HN := Lib.hid hN
  have HE := Lib.hid hE
  have hd : decide (65536 < (m : Int)) = false := decide_eq_false (by omega)
  clear hs hP hE hN
  go_enter Tryd.func27, Tryd.ntmps27
  go_wp2_with ((with_reducible refine HC.out.mono ?_); rintro e w1 hp; obtain ⟨A5, c5, n5, rfl, h1, h2, h3, h4, h5, hb⟩ := s_out hp; have h1' : n5 = N := (h1.trans HN.out.symm); subst h1'; have HX1 : Hid (Below w.heap.size w w1 ∧ Rd w1 A5 (tv P)) := Lib.hid ⟨hb, h3⟩; have hc5 : c5 ≤ 9223372036854775807 := (by unfold maxLen at h5; omega); have hc5c := h4; clear hp h1 h2 h3 h4 h5 hb)
  obtain ⟨b5, o5, rfl, hcell5⟩ := tv_open HX1.out.2 (by intro e; have := HN.out; rw [e] at this; simp at this; omega)
  have HC5 : Hid (∀ W, Below w1.heap.size w1 W → ∀ k x, k < n5 → x = P.getD k [] → W.cell? ⟨b5, o5 + k, none⟩ = some (.string (tb x))) := Lib.hid fun W hb k x hk hx => by
    have h := hcell5 k x (by rw [← HN.out]; exact hk) hx
    exact (hb.cell (p := ⟨b5, o5 + k, none⟩) (World.block_lt_of_cell? w1 _ h)).trans h
  clear hcell5
  go_loopg [6, 7, 8, 9, 10, 11] (n5 - 1) (fun g s6 s7 s8 s9 s10 s11 wr => ∃ (i : Nat) (D : Alp.Rows), i + g = n5 - 1 ∧ s8 = .int .i64 (i : Int) ∧ Hid (RpI w1 E m P s6 s7 D i wr))
  case atStart => exact ⟨0, [], by omega, rfl, Lib.hid ⟨⟨rfl, .inl ⟨rfl, rfl⟩⟩, ⟨rfl, .inl ⟨rfl, rfl⟩⟩, Below.refl _ _, rfl, by rw [HE.out, addL_nil]; rfl, by simp⟩⟩
  case round =>
    obtain ⟨i, D, hi, rfl, HI⟩ := hrel
    obtain ⟨A1, c1, hv1, hrd1, hmc1, hcm1⟩ := Rd.of_own HI.out.1
    subst hv1
    obtain ⟨A2, c2, hv2, hrd2, hmc2, hcm2⟩ := Rd.of_own HI.out.2.1
    subst hv2
    clear hrd1 hrd2
    have HBW : Hid (Below w1.heap.size w1 wr) := Lib.hid HI.out.2.2.1
    obtain ⟨p, hp⟩ : ∃ p, p = P.getD i [] := ⟨_, rfl⟩
    have hiP : i < P.length := by rw [← HN.out]; omega
    have hcp : wr.cell? ⟨b5, o5 + i, none⟩ = some (.string (tb p)) := HC5.out wr HBW.out i p (by omega) hp
    have hpl : p.length ≤ m := HPL.out p (by rw [hp]; simp only [List.getD, List.getElem?_eq_getElem hiP, Option.getD_some]; exact List.getElem_mem hiP)
    have HPD : Hid (P.drop i = p :: P.drop (i + 1)) := Lib.hid (by rw [List.drop_eq_getElem_cons hiP, hp]; simp [List.getD, hiP])
    have hwr : wrap64 ((n5 : Int) - 1) = (n5 : Int) - 1 := by unfold wrap64; omega
    clear hp
    by_cases hlt : i + 1 < n5
    · obtain ⟨g, rfl⟩ : ∃ g, gk = g + 1 := ⟨gk - 1, by omega⟩
      have hdl : decide ((i : Int) < (n5 : Int) - 1) = true := decide_eq_true (by omega)
      have HL := Lib.hid (HLI.out p (by omega))
      have HNE : Hid (P.drop (i + 1) ≠ []) := Lib.hid fun e => by have := congrArg List.length e; rw [List.length_drop, ← HN.out, List.length_nil] at this; omega
      cases hlp : lineP p with
      | none =>
        rw [hlp] at HL
        have HR : Hid (E = .inr (i + 1)) := Lib.hid (by rw [HI.out.2.2.2.2.1, HPD.out, linesG_cons p HNE.out, hlp]; rfl)
        clear hlp
        go_wp2_with ((with_reducible refine (HL.out _).mono ?_); rintro e w2 hp2; obtain ⟨l, b, rfl, hx, hb2⟩ := line_out hp2; have HB2 : Hid (Below w.heap.size w w2) := Lib.hid (below_next (below_next HX1.out.1 HBW.out) hb2); clear hp2 hx hb2)
        go_ret3
        exact ppost_no (by rw [HRE.out, HR.out, finL_inr]; simp) (below_al HB2.out _)
      | some x =>
        rw [hlp] at HL
        obtain ⟨hx1, hx2⟩ := lineP_len hlp
        have HR : Hid (E = addL (D ++ [x]) (linesG (P.drop (i + 1)) (i + 1))) := Lib.hid (by rw [HI.out.2.2.2.2.1, HPD.out, linesG_cons p HNE.out, hlp, addL_addL])
        have HXL : Hid (x.1.text.length ≤ m ∧ x.2.length ≤ m) := Lib.hid ⟨by omega, by omega⟩
        have hs1 : i + 1 ≤ maxLen := by unfold maxLen; omega
        have hs2 : (i + 1) * 48 ≤ 140737488355328 := by omega
        have hs3 : (i + 1) * 16 ≤ 140737488355328 := by omega
        have HOWN : Hid (wr.ownsRow w1.heap.size 50 5 (.slice A1 i c1) i (lv (firsts D)) ∧ wr.ownsRow w1.heap.size 9 1 (.slice A2 i c2) i (tv (seconds D))) := Lib.hid ⟨HI.out.1, HI.out.2.1⟩
        clear hlp hx1 hx2 hpl
        go_wp2_with (first
          | ((with_reducible refine (HL.out _).mono ?_); rintro e w2 hp2; obtain ⟨l, b, rfl, hx, hb2⟩ := line_out hp2; have HX2 : Hid (x = (l, b) ∧ Below w1.heap.size w1 w2 ∧ w2.ownsRow w1.heap.size 50 5 (.slice A1 i c1) i (lv (firsts D)) ∧ w2.ownsRow w1.heap.size 9 1 (.slice A2 i c2) i (tv (seconds D))) := Lib.hid ⟨hx x rfl, below_next HBW.out hb2, own_keep HOWN.out.1 hb2, own_keep HOWN.out.2 hb2⟩; clear hp2 hx hb2)
          | (at_builtin; refine wpList_own_src rfl (.tmp 39) (.tmp 41) 23 23 rfl w1.heap.size 50 i0 _ 5 48 Tryd.underlying23 hi0 hz0 hz1 hz2 rfl _ _ _ rfl (own_alc (own_alc HX2.out.2.2.1 _) _) _ 1 (lc l) rfl (src_lt Tryd.underlying23 hz1 _ _ _ _ (by simp)) hs1 hs2 (below_al (below_al HX2.out.2.1 _) _).size ?_; intro v4 w4 hown4 hg4 hat4; have HX4 : Hid (w4.ownsRow w1.heap.size 50 5 v4 (i + 1) (lv (firsts D) ++ lc l) ∧ w4.ownsRow w1.heap.size 9 1 (.slice A2 i c2) i (tv (seconds D)) ∧ Below w1.heap.size w1 w4) := Lib.hid ⟨hown4, own_other (own_alc (own_alc HX2.out.2.2.1 _) _) (own_alc (own_alc HX2.out.2.2.2 _) _) (by decide) hg4, below_own (below_al (below_al HX2.out.2.1 _) _) hg4 (fun g hg => (HX2.out.2.2.1.lt _ hg).1)⟩; clear hown4 hg4 hat4)
          | (at_builtin; refine wpList_own_src rfl (.tmp 43) (.tmp 45) 26 26 rfl w1.heap.size 9 i1 _ 1 16 Tryd.underlying26 hi1 hy0 hy1 hy2 rfl _ _ _ rfl (own_alc HX4.out.2.1 _) _ 1 [.string (tb b)] rfl (src_one Tryd.underlying26 hy1 _ _ _ rfl) hs1 hs3 (below_al HX4.out.2.2 _).size ?_; intro v5 w5 hown5 hg5 hat5; have HX5 : Hid (w5.ownsRow w1.heap.size 50 5 v4 (i + 1) (lv (firsts D) ++ lc l) ∧ w5.ownsRow w1.heap.size 9 1 v5 (i + 1) (tv (seconds D) ++ [.string (tb b)]) ∧ Below w1.heap.size w1 w5) := Lib.hid ⟨own_other (own_alc HX4.out.2.1 _) (own_alc HX4.out.1 _) (by decide) hg5, hown5, below_own (below_al HX4.out.2.2 _) hg5 (fun g hg => (HX4.out.2.1.lt _ hg).1)⟩; clear hown5 hg5 hat5))
        go_roundg g
        case rel =>
          refine ⟨i + 1, D ++ [x], by omega, by go_num, Lib.hid ⟨?_, ?_, HX5.out.2.2, by rw [List.length_append, HI.out.2.2.2.1]; rfl, HR.out, ?_⟩⟩
          · rw [show firsts (D ++ [x]) = firsts D ++ [l] by rw [HX2.out.1]; simp [firsts], lv_snoc]
            exact HX5.out.1
          · rw [show seconds (D ++ [x]) = seconds D ++ [b] by rw [HX2.out.1]; simp [seconds], tv_snoc]
            exact HX5.out.2.1
          · intro y hy
            rcases List.mem_append.1 hy with h' | h'
            · exact HI.out.2.2.2.2.2 y h'
            · rw [List.mem_singleton.1 h']; exact HXL.out
        case measure => omega
    · have hin : n5 = i + 1 := by omega
      have hdl : decide ((i : Int) < (n5 : Int) - 1) = false := decide_eq_false (by omega)
      have hnat : ((n5 : Int) - 1).toNat = i := by omega
      have hni : (n5 : Int) - 1 = (i : Int) := by omega
      have HLAST : Hid (P.drop i = [p]) := Lib.hid (by rw [HPD.out, List.drop_of_length_le (by rw [← HN.out]; omega)])
      by_cases hpe : p = []
      · have hemp := empty_yes hpe
        have HR : Hid (E = .inl D) := Lib.hid (by rw [HI.out.2.2.2.2.1, HLAST.out, hpe]; simp [linesG, addL])
        clear hpe
        have HDL : Hid (D.length = i ∧ ∀ x ∈ D, x.1.text.length ≤ 65536 ∧ x.2.length ≤ 65536) := Lib.hid ⟨HI.out.2.2.2.1, fun x hx => ⟨Nat.le_trans (HI.out.2.2.2.2.2 x hx).1 hm, Nat.le_trans (HI.out.2.2.2.2.2 x hx).2 hm⟩⟩
        rcases Nat.eq_zero_or_pos i with h0 | h0
        · have hD : D = [] := List.eq_nil_of_length_eq_zero (by rw [HDL.out.1, h0])
          have HR2 : Hid (parseP s = ([], 0, 1)) := Lib.hid (by rw [HRE.out, HR.out, finL_inl, hD]; simp [baseG, firsts, finB, valP])
          have HV0 : Hid (∀ W, Calls Tryd.prog 34 #[.slice A1 i c1] W (BoolB W false)) := Lib.hid fun W => rvalid_size i c1 A1 (by omega) (by omega) hcm1 W
          have HI0 := Lib.hid h0
          have HIN := Lib.hid hin
          clear hD h0 hin
          go_wp2_with fail
          go_loopg [12, 13] 0 (fun g s12 s13 wx => (∃ (j : Nat), Hid (j = 0) ∧ s12 = .int .i64 (j : Int)) ∧ wx = wr)
          case atStart => exact ⟨⟨0, Lib.hid rfl, rfl⟩, rfl⟩
          case round =>
            obtain ⟨⟨j, HJ0, rfl⟩, rfl⟩ := hrel
            have hjlt : ¬ j < i := by have := HJ0.out; have := HI0.out; omega
            have hdz : decide ((j : Int) < (i : Int)) = false := decide_eq_false (by have := HJ0.out; have := HI0.out; omega)
            go_wp2_with ((with_reducible refine (HV0.out _).mono ?_); rintro e w7 hp7; obtain ⟨rfl, hb7⟩ := boolb_out hp7; have HB7 := Lib.hid (below_next (below_next HX1.out.1 HBW.out) hb7); clear hp7 hb7)
            go_ret3
            exact ppost_no HR2.out HB7.out
        · obtain ⟨g1, cap1, C1, hv1, hg1, hB1, hC1, ht1, hc1', hm1'⟩ := own_blk HI.out.1 (by omega)
          obtain ⟨rfl, _, rfl⟩ := Value.slice.inj hv1
          obtain ⟨g2, cap2, C2, hv2, hg2, hB2, hC2, ht2, hc2', hm2'⟩ := own_blk HI.out.2.1 (by omega)
          obtain ⟨rfl, _, rfl⟩ := Value.slice.inj hv2
          obtain ⟨E2, hE2⟩ : ∃ E, E = baseG (firsts D) D 0 := ⟨_, rfl⟩
          have HE2 : Hid (parseP s = finB E2) := Lib.hid (by rw [HRE.out, HR.out, finL_inl, hE2])
          have HX6 : Hid (RbI w g1 g2 i c1 D C2 0 E2 wr ∧ g2 ≠ g1 ∧ w.heap.size ≤ g1 ∧ C2.take (i * 1) = tv (seconds D)) := Lib.hid ⟨⟨C1, [], hB1, hC1, by rw [ht1]; rfl, rfl, by rw [hE2, addL_nil]; rfl, hB2, by simp [texts], below_next HX1.out.1 HBW.out, by simp⟩, blk_ne hB2 hB1 (by decide), Nat.le_trans HX1.out.1.size hg1, ht2⟩
          have hc1b : c1 ≤ 9223372036854775807 := by unfold maxLen at hcm1; omega
          have hc2b : c2 ≤ 9223372036854775807 := by unfold maxLen at hcm2; omega
          have hib : i ≤ 65536 := by omega
          have HIN := Lib.hid hin
          clear hin hv1 hv2 hg1 hB1 hC1 ht1 hg2 hB2 hC2 ht2 hE2 hm1' hm2'
          go_wp2_with fail
          go_loopg [12, 13] i (fun g s12 s13 wx => ∃ (j : Nat), j + g = i ∧ s12 = .int .i64 (j : Int) ∧ Hid (RbI w g1 g2 i c1 D C2 j E2 wx))
          case atStart => exact ⟨0, by omega, rfl, Lib.hid HX6.out.1⟩
          case round =>
            obtain ⟨j, hj, rfl, HJ⟩ := hrel
            by_cases hjlt : j < i
            · obtain ⟨g, rfl⟩ : ∃ g, gk = g + 1 := ⟨gk - 1, by omega⟩
              have hjD : j < D.length := by rw [HDL.out.1]; exact hjlt
              obtain ⟨x, hx⟩ : ∃ x, x = D[j] := ⟨_, rfl⟩
              obtain ⟨C, M, hC, hCl, hCt, hMl, hEE, hC2, hMt, hBB, hMs⟩ := HJ.out
              have hdr : D.drop j = x :: D.drop (j + 1) := by rw [List.drop_eq_getElem_cons hjD, hx]
              obtain ⟨t, ht⟩ : ∃ t, t = x.2 := ⟨_, rfl⟩
              have hcb : wr.cell? ⟨g2, j, none⟩ = some (.string (tb t)) := hC2.cell (by
                have h1 := congrArg (fun l => l[j]?) HX6.out.2.2.2
                simp only [List.getElem?_take] at h1
                rw [if_pos (by omega)] at h1
                rw [h1, tv_get _ _ (by rw [seconds_len]; exact hjD), ht, hx]
                simp [seconds, List.getD, hjD])
              have hxD : x ∈ D := by rw [hx]; exact List.getElem_mem hjD
              have HX5 : Hid (x.1.text.length ≤ 65536) := Lib.hid (HDL.out.2 x hxD).1
              have HML : Hid ((M ++ firsts (D.drop j)).length = i) := Lib.hid (by rw [List.length_append, hMl, firsts_len, List.length_drop, HDL.out.1]; omega)
              have HCT : Hid (∀ k, k < i → ∀ tt, tt = ((firsts D).getD k z).text → wr.cell? ⟨g1, k * 5, none⟩ = some (.string (tb tt))) := Lib.hid fun k hk tt htt => by
                have h := take_cell hC hCt HML.out hk (j := 0) (by omega) (v := .string (tb tt)) (by rw [htt, ← rb_text hMt k]; rfl)
                exact h
              have HC := Lib.hid (And.intro hC (And.intro hCl (And.intro hCt (And.intro hMl (And.intro hMs (And.intro hC2 (And.intro hMt hBB)))))))
              have HD := Lib.hid hdr
              have HEE := Lib.hid hEE
              have HTX := Lib.hid ht
              have HXE := Lib.hid hx
              clear hx hC hCl hCt hMl hEE hC2 hMt hBB hMs hdr ht hxD
              go_wp2_with fail
              go_loopg [13] i (fun gi s13 wx => ∃ (k a : Nat), k + gi = i ∧ s13 = .int .i64 (k : Int) ∧ Hid (∀ k', k' < k → ((firsts D).getD k' z).text ≠ t) ∧ wx = wr.drewN a)
              case atStart => exact ⟨0, 0, by omega, rfl, Lib.hid fun k' h => by omega, rfl⟩
              case round =>
                obtain ⟨k, a, hk, rfl, HK, rfl⟩ := hrel
                by_cases hki : k < i
                · obtain ⟨tt, htt⟩ : ∃ tt, tt = ((firsts D).getD k z).text := ⟨_, rfl⟩
                  have hct := HCT.out k hki tt htt
                  have HTT := Lib.hid htt
                  clear htt
                  by_cases he : tt = t
                  · have heq : ((tb tt).toList == (tb t).toList) = true := by rw [he]; exact beq_self_eq_true _
                    have HIDX : Hid (idx (firsts D) x.2 = some k) := Lib.hid (by rw [← HTX.out]; exact idx_first (by rw [firsts_len, HDL.out.1]; exact hki) (by rw [← HTT.out]; exact he) HK.out)
                    have HE3 : Hid (E2 = addL (M ++ [setB x.1 k]) (baseG (firsts D) (D.drop (j + 1)) (j + 1))) := Lib.hid (by rw [HEE.out, HD.out, baseG_some HIDX.out, addL_addL])
                    have hki2 : ((k : Int) == (i : Int)) = false := beq_eq_false_iff_ne.2 (by omega)
                    clear he
                    go_wp2_with fail
                    go_quiet (fail)
                    go_wp2_with (refine wpList_store_int rfl 3 (.tmp 90) (.tmp 88) rfl g1 (j * 5 + 1) rfl .i64 (k : Int) rfl ((HC.out.1).drewN _) (by rw [HC.out.2.1]; omega) Tryd.sizeInt ?_; intro w5 hst5; have HX7 : Hid (Stored (wr.drewN 0) w5 g1 (C.set (j * 5 + 1) (.int .i64 (k : Int))) 50) := Lib.hid ⟨hst5.1, hst5.2.1, hst5.2.2.1, hst5.2.2.2.1, hst5.2.2.2.2.1, hst5.2.2.2.2.2⟩; clear hst5)
                    go_roundg g
                    case rel =>
                      refine ⟨j + 1, by omega, by go_num, Lib.hid ⟨_, M ++ [setB x.1 k], HX7.out.1, by rw [List.length_set]; exact HC.out.2.1, ?_, by rw [List.length_append, HC.out.2.2.2.1]; rfl, HE3.out, HX7.out.other HC.out.2.2.2.2.2.1 HX6.out.2.1, ?_, HX7.out.below HC.out.2.2.2.2.2.2.2 HX6.out.2.2.1, ?_⟩⟩
                      · rw [take_set, HC.out.2.2.1, HD.out, List.append_assoc]
                        exact lv_setB M x.1 (firsts (D.drop (j + 1))) k j HC.out.2.2.2.1.symm
                      · have e : texts (M ++ [setB x.1 k]) = texts M ++ [x.1.text] := by simp [texts, setB]
                        rw [e, HC.out.2.2.2.2.2.2.1, List.take_succ_eq_append_getElem (by simp [texts, firsts]; exact hjD)]
                        congr 1
                        simp [texts, firsts, HXE.out]
                      · intro l hl
                        rcases List.mem_append.1 hl with h' | h'
                        · exact HC.out.2.2.2.2.1 l h'
                        · rw [List.mem_singleton.1 h']; exact HX5.out
                    case measure => omega
                  · obtain ⟨gi, rfl⟩ : ∃ g, gk = g + 1 := ⟨gk - 1, by omega⟩
                    have heq : ((tb tt).toList == (tb t).toList) = false := by rw [tb_toList, tb_toList]; exact beq_eq_false_iff_ne.2 he
                    have HNEQ := Lib.hid he
                    clear he
                    go_wp2_with fail
                    go_quiet (fail)
                    go_wp2_with fail
                    go_roundg gi
                    case rel => exact ⟨k + 1, _, by omega, by go_num, Lib.hid fun k' h => by
                      rcases Nat.lt_or_ge k' k with h' | h'
                      · exact HK.out k' h'
                      · obtain rfl : k' = k := by omega
                        rw [← HTT.out]; exact HNEQ.out, rfl⟩
                    case measure => omega
                · obtain rfl : k = i := by omega
                  have HIDX : Hid (idx (firsts D) x.2 = none) := Lib.hid (by rw [← HTX.out]; exact idx_nofirst fun k' hk' => HK.out k' (by rw [firsts_len, HDL.out.1] at hk'; exact hk'))
                  have HE3 : Hid (E2 = .inr (j + 1)) := Lib.hid (by rw [HEE.out, HD.out, baseG_none HIDX.out]; rfl)
                  go_wp2_with fail
                  go_quiet (fail)
                  go_wp2_with fail
                  go_ret3
                  exact ppost_no (by rw [HE2.out, HE3.out, finB_inr]; rfl) (below_drewN HC.out.2.2.2.2.2.2.2 _)
            · obtain rfl : j = i := by omega
              obtain ⟨C, M, hC, hCl, hCt, hMl, hEE, hC2, hMt, hBB, hMs⟩ := HJ.out
              rw [List.drop_of_length_le (by rw [HDL.out.1]; exact Nat.le_refl _)] at hCt hEE
              have hCt' : C.take (j * 5) = lv M := by rw [hCt]; simp [firsts]
              have HE3 : Hid (E2 = .inl M) := Lib.hid (by rw [hEE]; simp [baseG, addL])
              obtain ⟨V, hV⟩ : ∃ V, V = valP M := ⟨_, rfl⟩
              have HV := Lib.hid (rvalid_any M (some ⟨g1, 0, none⟩) j c1 hMl.symm hc1' hcm1 (fun l hl => Nat.le_trans (hMs l hl) (by unfold maxLen; omega)) V hV wr (take_rd hC hCt'))
              have HD : Hid (Rd wr (some ⟨g1, 0, none⟩) (lv M) ∧ M.length = j ∧ Below w.heap.size w wr ∧ V = valP M) := Lib.hid ⟨take_rd hC hCt', hMl, hBB, hV⟩
              clear hC hCl hCt hCt' hMl hEE hC2 hMt hBB hMs hV
              cases V
              · go_wp2_with ((with_reducible refine HV.out.mono ?_); rintro e w7 hp7; obtain ⟨rfl, hb7⟩ := boolb_out hp7; have HB7 := Lib.hid (below_next HD.out.2.2.1 hb7); clear hp7 hb7)
                go_ret3
                exact ppost_no (by rw [HE2.out, HE3.out, finB_no HD.out.2.2.2.symm]) HB7.out
              · go_wp2_with ((with_reducible refine HV.out.mono ?_); rintro e w7 hp7; obtain ⟨rfl, hb7⟩ := boolb_out hp7; have HB7 : Hid (Below w.heap.size w w7 ∧ Rd w7 (some ⟨g1, 0, none⟩) (lv M)) := Lib.hid ⟨below_next HD.out.2.2.1 hb7, HD.out.1.below hb7⟩; clear hp7 hb7)
                go_ret3
                rw [HE2.out, HE3.out, finB_yes HD.out.2.2.2.symm]
                exact ⟨_, _, _, rfl, HD.out.2.1.symm, HB7.out.2, hc1', hcm1, HB7.out.1⟩
      · have hemp := empty_no hpe
        have HR : Hid (E = .inr n5) := Lib.hid (by rw [HI.out.2.2.2.2.1, HLAST.out, linesG, if_neg hpe, hin]; rfl)
        clear hpe hin
        go_wp2_with fail
        go_ret3
        exact ppost_no (by rw [HRE.out, HR.out, finL_inr]) (below_next HX1.out.1 HBW.out)
theorem rparse_any (s : B) (hs : s.length ≤ maxLen) (w : World) : Calls Tryd.prog 27 #[.string (tb s)] w (PPost w (parseP s)) := by
  by_cases h : 65536 < s.length
  · exact rparse_big s _ rfl hs h w
  · exact rparse_small s _ rfl (by omega) w
end Go.Proofs.YtolkmjgklgimpaaDoor
