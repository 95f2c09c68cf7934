/-
  CollateSections: for all arguments the law returns true, and leaves what was there as it was.
-/
import Derived.Test.YtalladdmedmfeaaKLaw2
namespace Go.Proofs.Ytalladdmedmfeaa
open Go.ChangeShapes Go.WideShapes Go.ChangeAt Go.RowKit Go.ChangeMaps
open Alp Col
set_option linter.unusedVariables false
set_option linter.unusedSimpArgs false
namespace KL9
set_option maxRecDepth 1000000 in
set_option maxHeartbeats 16000000 in
theorem walk (l : List Int) (Al : Option Addr) (cl : Nat) (li : ∀ x ∈ l, inI x) (ln : l.length ≤ cl) (lm : cl ≤ maxLen) (m : List Int) (Am : Option Addr) (cm : Nat) (mi : ∀ x ∈ m, inI x) (mn : m.length ≤ cm) (mm : cm ≤ maxLen) (words : List (List Int)) (Awords : Option Addr) (nwords cwords bwords owords : Nat) (wordsn : nwords = words.length) (wordsc : nwords ≤ cwords) (wordsm : cwords ≤ maxLen) (many : Int) (manyi : inI many) (w : World) (lr : Rd w Al (iv l)) (mr : Rd w Am (iv m)) (wordsr : RwR w words Awords nwords bwords owords) : Calls Try.prog 11 #[.slice Al l.length cl, .slice Am m.length cm, .slice Awords nwords cwords, .int .i64 many] w fun e w' => e = .returned (.bool true) ∧ Below w.heap.size w w' := by
  obtain ⟨L, hL⟩ : ∃ L, L = lettersP l := ⟨_, rfl⟩
  have hv : valP L = true := by rw [hL]; exact letters_val l
  obtain ⟨j0, hj0, hy0, hy1, hy2⟩ := info_parts Try.infoSl
  have HTX : Hid (∀ x ∈ L, x.text.length ≤ maxLen) := Lib.hid fun x hx => by have := (val_plain hv hx).2.1; unfold maxLen; omega
  have HLE : Hid (Calls Try.prog 12 #[.slice Al l.length cl] w (LtPost w L)) := Lib.hid (by rw [hL]; exact letters_any l Al _ cl rfl ln lm li w lr)
  obtain ⟨N, hN⟩ : ∃ N : Nat, arP many 20 = N := ⟨_, (Int.toNat_of_nonneg (arP_bd many (by omega)).1).symm⟩
  have HNB : Hid (N ≤ 30) := Lib.hid (by have := (arP_bd many (m := 20) (by omega)).2; omega)
  have HAR : Hid (∀ W, Calls Try.prog 27 #[.int .i64 many, .int .i64 20] W fun e w' => e = .returned (.int .i64 N) ∧ W = w') := Lib.hid fun W => by rw [← hN]; exact raround_any many 20 manyi.1 manyi.2 (by omega) (by omega) W
  have HWD : Hid (∀ AL q cq W, Below w.heap.size w W → AlR W L AL q cq → Calls Try.prog 15 #[.slice AL q cq, .slice Am m.length cm, .int .i64 ((N : Nat) : Int)] W (WnPost W fun ws => ws.length = N ∧ ∀ k, k < N → (ws.getD k []).length ≤ 3 * (k + 1))) := Lib.hid fun AL q cq W hb ha => by
    have h1 := ((valP_iff L).1 hv).1
    have h2 := ((valP_iff L).1 hv).2.1
    have h3 := words_any L AL q cq (by rw [ha.len]; exact h1) (by rw [ha.len]; exact h2) m Am m.length cm rfl mn mm mi (N) HNB.out W ha (mr.below hb)
    exact h3
  have HRW : Hid (∀ W, Below w.heap.size w W → Calls Try.prog 16 #[.slice Awords nwords cwords] W (RwPost W)) := Lib.hid fun W hb => raw_hi words Awords nwords cwords W wordsn wordsc wordsm bwords owords (wordsr.below hb)
  have HLI : Hid (∀ W, Calls Try.prog 20 #[] W (BoolB W true)) := Lib.hid fun W => lives_any W
  have HV := Lib.hid hv
  have HSO : Hid (∀ (ws : List (List Int)) (A A1 : Option Addr) (q cq n c1 : Nat) (W : World), AlR W L A q cq → WsR W ws A1 n c1 → Calls Try.prog 28 #[.slice A q cq, .slice A1 n c1] W (SoPost W L ws)) := Lib.hid fun ws A A1 q cq n c1 W ha hw => sort_yes L hv A A1 q cq n c1 ws W ha hw
  have HSE : Hid (∀ (x : List Int) (A A1 : Option Addr) (q cq n c1 : Nat) (R : Int) (W : World), AlR W L A q cq → WdR W x A1 n c1 → R = secL L x → Calls Try.prog 21 #[.slice A q cq, .slice A1 n c1] W (IPost W R)) := Lib.hid fun x A A1 q cq n c1 R W ha hx hR => section_any L A A1 q cq n c1 x R (by rw [hR]; unfold secP; rw [if_pos hv]) W ha hx
  clear hL hv hN li lr mi mr wordsr wordsn manyi
  go_enter Try.func11, Try.ntmps11
  go_wp2_with (first
    | ((with_reducible refine HLE.out.mono ?_); rintro e w1 hp; obtain ⟨AL, q, cq, rfl, h1, h2, h3, h4, hb⟩ := lt_out hp; have HA : Hid (AlR w1 L AL q cq ∧ Below w.heap.size w w1) := Lib.hid ⟨⟨h1, h3, h4, HTX.out, h2⟩, hb⟩; have hqc : q ≤ cq := h3; have hqb : cq ≤ 9223372036854775807 := (by unfold maxLen at h4; omega); clear hp h1 h2 h3 h4 hb)
    | ((with_reducible refine (HAR.out _).mono ?_); rintro e wa ⟨rfl, rfl⟩)
    | ((with_reducible refine (HWD.out _ _ _ _ HA.out.2 HA.out.1).mono ?_); rintro e w2 hp; obtain ⟨v1, xs, us, rfl, hul, hw⟩ := wn_out hp; have HU : Hid (us.length = N ∧ WnI w1 v1 xs us w2) := Lib.hid ⟨hul, hw⟩; clear hp hul hw)
    | ((with_reducible refine (HRW.out _ (below_next HA.out.2 HU.out.2.bel)).mono ?_); rintro e w3 hp; obtain ⟨v2, ys, vs, rfl, hvl, hw, hi⟩ := rw_out hp; have HR : Hid (vs.length ≤ 8 ∧ WnI w2 v2 ys vs w3 ∧ Hi w2.heap.size ys) := Lib.hid ⟨hvl, hw, hi⟩; have hu1 : us.length + vs.length ≤ maxLen := (by rw [HU.out.1]; have := HNB.out; unfold maxLen; omega); have hu2 : (us.length + vs.length) * 24 ≤ 140737488355328 := (by rw [HU.out.1]; have := HNB.out; omega); clear hp hvl hw hi)
    | (at_builtin; refine wpList_own_src rfl (.tmp 21) (.tmp 23) 23 23 rfl w1.heap.size 22 j0 _ 1 24 Try.underlying23 hj0 hy0 hy1 hy2 rfl _ _ _ rfl (own_keep HU.out.2.1 HR.out.2.1.bel) _ vs.length ys rfl (src_wn Try.underlying23 hy1 HR.out.2.1.1 HR.out.2.1.2.1.ws) hu1 hu2 (Nat.le_trans HU.out.2.bel.size HR.out.2.1.bel.size) ?_; intro v4 w4 hown4 hg4 hat4; obtain ⟨A4, c4, n4, ws, hv4, hn4, hws, hb4⟩ := join_out HU.out.2 HR.out.2.1 HR.out.2.2 hown4 hg4 hat4 HU.out.1 HNB.out HR.out.1; subst hv4; have HW : Hid (WsR w4 ws A4 n4 c4 ∧ Below w.heap.size w w4 ∧ AlR w4 L AL q cq) := Lib.hid ⟨hws, below_next HA.out.2 hb4, HA.out.1.below hb4⟩; have hc4 : n4 ≤ c4 := hws.cap; have hm4 : c4 ≤ 9223372036854775807 := (by have := hws.max; unfold maxLen at this; omega); clear hown4 hg4 hat4 hws hb4 hu1 hu2)
    | ((with_reducible refine (HSO.out _ _ _ _ _ _ _ _ HW.out.2.2 HW.out.1).mono ?_); rintro e w5 hp; obtain ⟨d, A5, n5, c5, rfl, h1, h2, h3, h4, h5, h6, hb⟩ := so_out hp; obtain rfl : n5 = n4 := (by rw [h1]; exact HW.out.1.len.symm); have HS : Hid (d.Perm (upL n5) ∧ Sd (cmpW L ws) d ∧ d.length = n5 ∧ Rd w5 A5 (iv d)) := Lib.hid ⟨h2, h3, by rw [h2.length_eq, upL_length], h4⟩; have hc5 : n5 ≤ c5 := h5; have hm5 : c5 ≤ 9223372036854775807 := (by unfold maxLen at h6; omega); have H5 : Hid (WsR w5 ws A4 n5 c4 ∧ Below w.heap.size w w5 ∧ AlR w5 L AL q cq) := Lib.hid ⟨HW.out.1.below hb, below_next HW.out.2.1 hb, HW.out.2.2.below hb⟩; clear hp h1 h2 h3 h4 h5 h6 hb))
  obtain ⟨b5, o5, hA5⟩ := il_or HS.out.2.2.1.symm HS.out.2.2.2
  obtain ⟨b4, o4, hA4⟩ := ws_or H5.out.1
  obtain ⟨b, o, rfl, hrl⟩ := rl_open H5.out.2.2.rd (val_ne HV.out)
  have HA5 := Lib.hid hA5
  have HA4 := Lib.hid hA4
  have HRL := Lib.hid hrl
  clear hA5 hA4 hrl HA HU HR HW
  have hqL : Hid (q = L.length) := Lib.hid H5.out.2.2.len
  go_loopg [12, 13, 14] n5 (fun g s12 s13 s14 wr => ∃ (i : Nat) (la : Int), i + g = n5 ∧ s13 = .int .i64 (i : Int) ∧ s12 = .int .i64 la ∧ Hid ((∀ j, i ≤ j → j < n5 → la ≤ secL L (wordAt ws (d.getD j 0))) ∧ Below w5.heap.size w5 wr))
  case atStart => exact ⟨0, -1, by omega, rfl, rfl, Lib.hid ⟨fun j _ _ => by rcases sec_base HV.out (wordAt ws (d.getD j 0)) with h | ⟨b, h, _⟩ <;> rw [h] <;> omega, Below.refl _ _⟩⟩
  case round =>
    obtain ⟨i, la, hi, rfl, rfl, HI⟩ := hrel
    by_cases hlt : i < n5
    · obtain ⟨g, rfl⟩ : ∃ g, gk = g + 1 := ⟨gk - 1, by omega⟩
      obtain ⟨k, hk, hkn⟩ := up_at HS.out.1 hlt
      obtain ⟨rfl, hil⟩ : A5 = some ⟨b5, o5, none⟩ ∧ IL w5 b5 o5 d := by
        rcases HA5.out with h | h
        · omega
        · exact h
      obtain ⟨rfl, hwa⟩ : A4 = some ⟨b4, o4, none⟩ ∧ WsAt w5 b4 o4 ws := by
        rcases HA4.out with h | h
        · omega
        · exact h
      have hck : wr.cell? ⟨b5, o5 + i, none⟩ = some (.int .i64 (k : Int)) := hil.at HI.out.2 (by rw [HS.out.2.2.1]; exact hlt) hk.symm
      obtain ⟨A6, n6, c6, hcw, hwd⟩ := (hwa.below HI.out.2) k (by have := H5.out.1.len; omega)
      obtain ⟨s, hs⟩ : ∃ s, s = secL L (ws.getD k []) := ⟨_, rfl⟩
      have HSC : Hid (Calls Try.prog 21 #[.slice (some ⟨b, o, none⟩) q cq, .slice A6 n6 c6] wr (IPost wr s)) := Lib.hid (HSE.out _ _ _ _ _ _ _ s wr (H5.out.2.2.below HI.out.2) hwd hs)
      have HN : Hid (∀ j, i + 1 ≤ j → j < n5 → s ≤ secL L (wordAt ws (d.getD j 0))) := Lib.hid fun j h1 h2 => by
        rw [hs, ← wordAt_nat ws k, ← hk]
        exact sec_mono HV.out (sd_step HS.out.2.1 (by omega) (by rw [HS.out.2.2.1]; exact h2))
      have hla : la ≤ s := by have := HI.out.1 i (Nat.le_refl _) hlt; rw [hk, wordAt_nat, ← hs] at this; exact this
      have hd1 : decide ((k : Int) < 0) = false := decide_eq_false (by omega)
      have hd2 : decide ((n5 : Int) ≤ (k : Int)) = false := decide_eq_false (by omega)
      have hd3 : decide (s < la) = false := decide_eq_false (by omega)
      rcases (by have h := sec_base HV.out (ws.getD k []); rw [← hs] at h; exact h) with hsn | ⟨x, hsx, hxq, hxb⟩
      · have hd4 : decide ((q : Int) ≤ s) = false := decide_eq_false (by omega)
        have hd5 : decide (0 ≤ s) = false := decide_eq_false (by omega)
        clear hil hwa hk hwd hs
        go_wp2_with ((with_reducible refine HSC.out.mono ?_); rintro e w6 hp; obtain ⟨rfl, hb⟩ := i_out hp; have H6 : Hid (Below w5.heap.size w5 w6) := Lib.hid (below_next HI.out.2 hb); clear hp hb)
        go_roundg g
        case rel => exact ⟨i + 1, s, by omega, by go_num, (by rw [hsn]), Lib.hid ⟨HN.out, H6.out⟩⟩
        case measure => omega
      · have hd4 : decide ((q : Int) ≤ s) = false := decide_eq_false (by rw [hqL.out]; omega)
        have hxq2 : x < q := by rw [hqL.out]; exact hxq
        subst hsx
        have hbx : Hid (∀ W, Below w5.heap.size w5 W → W.cell? ⟨b, o + x * 5 + 1, none⟩ = some (.int .i64 (x : Int))) := Lib.hid fun W hb => by have := (HRL.out.below hb).c1 hxq rfl; rw [hxb] at this; exact this
        clear hil hwa hk hwd hs hxb hxq
        go_wp2_with ((with_reducible refine HSC.out.mono ?_); rintro e w6 hp; obtain ⟨rfl, hb⟩ := i_out hp; have H6 : Hid (Below w5.heap.size w5 w6) := Lib.hid (below_next HI.out.2 hb); have hbx6 := hbx.out w6 H6.out; clear hp hb)
        go_roundg g
        case rel => exact ⟨i + 1, (x : Int), by omega, by go_num, rfl, Lib.hid ⟨HN.out, H6.out⟩⟩
        case measure => omega
    · obtain rfl : i = n5 := by omega
      go_wp2_with ((with_reducible refine (HLI.out _).mono ?_); rintro e w6 hp; obtain ⟨rfl, hb⟩ := boolb_out hp; have H6 : Hid (Below w.heap.size w w6) := Lib.hid (below_next H5.out.2.1 (below_next HI.out.2 hb)); clear hp hb)
      go_ret
      exact ⟨rfl, H6.out⟩

set_option maxRecDepth 100000 in
theorem contract (H : Type) (enc : TypeId × Value → H) (W : World) (base : Nat) (args : Array Value) (ds gs : List (DataW H)) (before : List MemPlace)
    (hval : ∀ (j : Nat) t v, Try.f11.params[j]? = some t → args[j]? = some v → Value.okWide Try.prog W .any base t v)
    (hW : DataW.Whole enc Try.prog Try.f11.params.toList Rows.collateSectionsSpec.vars false W args.toList ds gs before) :
    Calls Try.prog 11 args W fun e W' => ∃ v, e = .returned v ∧ Rows.collateSectionsSpec.post enc Try.prog Try.f11 false true false false W args v W' := by
  have hW' := hW
  obtain ⟨p, q, hA0, hV, rfl, hfz, hnd⟩ := hW
  have hA : DataW.TrodAll enc Try.prog W 0 (fun _ => true) true Try.f11.params.toList args.toList ds p := hA0
  rw [Try.params11] at hA hval
  obtain ⟨rfl, rfl⟩ := trodVars_none hV
  obtain ⟨v0, w0, d0, e0, p0, q0, hargs, rfl, rfl, h0, r0⟩ := trodAll_cons hA
  obtain ⟨v1, w1, d1, e1, p1, q1, rfl, rfl, rfl, h1, r1⟩ := trodAll_cons r0
  obtain ⟨v2, w2, d2, e2, p2, q2, rfl, rfl, rfl, h2, r2⟩ := trodAll_cons r1
  obtain ⟨v3, w3, d3, e3, p3, q3, rfl, rfl, rfl, h3, r3⟩ := trodAll_cons r2
  obtain ⟨rfl, rfl, rfl⟩ := trodAll_nil r3
  obtain rfl : args = #[v0, v1, v2, v3] := by cases args; simp_all
  clear hargs
  obtain ⟨Al, l, cl, rfl, lr, li, ln, lm⟩ := open_ivs (hval 0 22 v0 rfl rfl) h0
  obtain ⟨Am, m, cm, rfl, mr, mi, mn, mm⟩ := open_ivs (hval 1 22 v1 rfl rfl) h1
  obtain ⟨Awords, words, nwords, cwords, bwords, owords, rfl, wordsn, wordsc, wordsm, wordsr⟩ := open_iws (hval 2 23 v2 rfl rfl) h2
  obtain ⟨many, rfl, rfl, rfl, manyw⟩ := open_int Try.underlying3 (hval 3 3 v3 rfl rfl) h3
  refine (walk l Al cl li ln lm m Am cm mi mn mm words Awords nwords cwords bwords owords wordsn wordsc wordsm many (inI_wf manyw) W lr mr wordsr).mono fun e W' ⟨he, hb⟩ => ⟨_, he, ?_⟩
  exact law_post rfl rfl (by kernel_rfl) hW' rfl hb

set_option maxRecDepth 100000 in
theorem lifted (os : Os) (started : os.Started) (H : Type) (enc : TypeId × Value → H) :
    ReturnsInHanded {} Try.checked os 11 .any (Rows.collateSectionsSpec.pre6 enc Try.prog Try.f11 Rows.collateSectionsRow.domain false) (Rows.collateSectionsSpec.post enc Try.prog Try.f11 false true false false) := by
  refine returnsInHanded_of_change_sized (C := Try.checked) Try.own started (by kernel_rfl) Try.func11
    (ChangeSpec.witness6 (enc := enc) (C := Try.checked) false ⟨#[], #[.slice none 0 0, .slice none 0 0, .slice none 0 0, .int .i64 0], []⟩ 8 (by kernel_rfl) (by kernel_rfl) (by kernel_rfl) (by kernel_rfl)) ?_
  intro W base args ds gs before hval hW _ hsz _
  exact contract H enc W base args ds gs before hval hW

theorem proved : Rows.CollateSectionsSaid :=
  OpenClaim.holds_of_wide 11 Try.f11 rfl rfl rfl rfl rfl rfl rfl ⟨rfl, rfl, rfl, rfl, rfl⟩ rfl rfl rfl rfl rfl (by kernel_rfl) Try.func11 (by kernel_rfl)
    (of_decide_eq_true (by kernel_rfl)) (by unfold Func.isWrapper; first | (rw [if_pos (by decide +kernel)]; kernel_rfl) | (rw [if_neg (by decide +kernel)]; exact ⟨rfl, rfl⟩))
    (fun os started H enc _ => lifted os started H enc)

end KL9
end Go.Proofs.Ytalladdmedmfeaa
