/-
  CollateLevels: for all arguments the law returns true, and leaves what was there as it was.
-/
import Derived.Test.YtalladdmedmfeaaKLevP
import Derived.BigQuiet
import Derived.BigRegion
namespace Go.Proofs.Ytalladdmedmfeaa
open Go.ChangeShapes Go.WideShapes Go.ChangeAt Go.RowKit Go.ChangeMaps
open Alp Col
set_option linter.unusedVariables false
set_option linter.unusedSimpArgs false
namespace KL6
set_option maxRecDepth 1000000 in
set_option maxHeartbeats 64000000 in
theorem walk (l : List Int) (Al : Option Addr) (cl : Nat) (li : ∀ x ∈ l, inI x) (ln : l.length ≤ cl) (lm : cl ≤ maxLen) (m : List Int) (Am : Option Addr) (cm : Nat) (mi : ∀ x ∈ m, inI x) (mn : m.length ≤ cm) (mm : cm ≤ maxLen) (words : List (List Int)) (Awords : Option Addr) (nwords cwords bwords owords : Nat) (wordsn : nwords = words.length) (wordsc : nwords ≤ cwords) (wordsm : cwords ≤ maxLen) (w : World) (lr : Rd w Al (iv l)) (mr : Rd w Am (iv m)) (wordsr : RwR w words Awords nwords bwords owords) : Calls Try.prog 8 #[.slice Al l.length cl, .slice Am m.length cm, .slice Awords nwords cwords] w fun e w' => e = .returned (.bool true) ∧ Below w.heap.size w w' := by
  obtain ⟨L, hL⟩ : ∃ L, L = lettersP l := ⟨_, rfl⟩
  have hv : valP L = true := by rw [hL]; exact letters_val l
  obtain ⟨j0, hj0, hy0, hy1, hy2⟩ := info_parts Try.infoSl
  have HTX : Hid (∀ x ∈ L, x.text.length ≤ maxLen) := Lib.hid fun x hx => by have := (val_plain hv hx).2.1; unfold maxLen; omega
  have HLE : Hid (Calls Try.prog 12 #[.slice Al l.length cl] w (LtPost w L)) := Lib.hid (by rw [hL]; exact letters_any l Al _ cl rfl ln lm li w lr)
  have HNB : Hid (6 ≤ 30) := Lib.hid (by omega)
  have HWD : Hid (∀ AL q cq W, Below w.heap.size w W → AlR W L AL q cq → Calls Try.prog 15 #[.slice AL q cq, .slice Am m.length cm, .int .i64 (6)] W (WnPost W fun ws => ws.length = 6 ∧ ∀ k, k < 6 → (ws.getD k []).length ≤ 3 * (k + 1))) := Lib.hid fun AL q cq W hb ha => by
    have h1 := ((valP_iff L).1 hv).1
    have h2 := ((valP_iff L).1 hv).2.1
    have h3 := words_any L AL q cq (by rw [ha.len]; exact h1) (by rw [ha.len]; exact h2) m Am m.length cm rfl mn mm mi (6) HNB.out W ha (mr.below hb)
    exact h3
  have HRW : Hid (∀ W, Below w.heap.size w W → Calls Try.prog 16 #[.slice Awords nwords cwords] W (RwPost W)) := Lib.hid fun W hb => raw_hi words Awords nwords cwords W wordsn wordsc wordsm bwords owords (wordsr.below hb)
  have HLI : Hid (∀ W, Calls Try.prog 20 #[] W (BoolB W true)) := Lib.hid fun W => lives_any W
  have HV := Lib.hid hv
  clear hL hv li lr mi mr wordsr wordsn
  go_enter Try.func8, Try.ntmps8
  go_wp2_with (first
    | ((with_reducible refine HLE.out.mono ?_); rintro e w1 hp; obtain ⟨AL, q, cq, rfl, h1, h2, h3, h4, hb⟩ := lt_out hp; have HA : Hid (AlR w1 L AL q cq ∧ Below w.heap.size w w1) := Lib.hid ⟨⟨h1, h3, h4, HTX.out, h2⟩, hb⟩; have hqc : q ≤ cq := h3; have hqb : cq ≤ 9223372036854775807 := (by unfold maxLen at h4; omega); clear hp h1 h2 h3 h4 hb)
    | ((with_reducible refine (HWD.out _ _ _ _ HA.out.2 HA.out.1).mono ?_); rintro e w2 hp; obtain ⟨v1, xs, us, rfl, hul, hw⟩ := wn_out hp; have HU : Hid (us.length = 6 ∧ WnI w1 v1 xs us w2) := Lib.hid ⟨hul, hw⟩; clear hp hul hw)
    | ((with_reducible refine (HRW.out _ (below_next HA.out.2 HU.out.2.bel)).mono ?_); rintro e w3 hp; obtain ⟨v2, ys, vs, rfl, hvl, hw, hi⟩ := rw_out hp; have HR : Hid (vs.length ≤ 8 ∧ WnI w2 v2 ys vs w3 ∧ Hi w2.heap.size ys) := Lib.hid ⟨hvl, hw, hi⟩; have hu1 : us.length + vs.length ≤ maxLen := (by rw [HU.out.1]; have := HNB.out; unfold maxLen; omega); have hu2 : (us.length + vs.length) * 24 ≤ 140737488355328 := (by rw [HU.out.1]; have := HNB.out; omega); clear hp hvl hw hi)
    | (at_builtin; refine wpList_own_src rfl (.tmp 19) (.tmp 21) 23 23 rfl w1.heap.size 22 j0 _ 1 24 Try.underlying23 hj0 hy0 hy1 hy2 rfl _ _ _ rfl (own_keep HU.out.2.1 HR.out.2.1.bel) _ vs.length ys rfl (src_wn Try.underlying23 hy1 HR.out.2.1.1 HR.out.2.1.2.1.ws) hu1 hu2 (Nat.le_trans HU.out.2.bel.size HR.out.2.1.bel.size) ?_; intro v4 w4 hown4 hg4 hat4; obtain ⟨A4, c4, n4, ws, hv4, hn4, hws, hb4⟩ := join_out HU.out.2 HR.out.2.1 HR.out.2.2 hown4 hg4 hat4 HU.out.1 HNB.out HR.out.1; subst hv4; have HW : Hid (WsR w4 ws A4 n4 c4 ∧ Below w.heap.size w w4 ∧ AlR w4 L AL q cq) := Lib.hid ⟨hws, below_next HA.out.2 hb4, HA.out.1.below hb4⟩; have hc4 : n4 ≤ c4 := hws.cap; have hm4 : c4 ≤ 9223372036854775807 := (by have := hws.max; unfold maxLen at this; omega); clear hown4 hg4 hat4 hws hb4 hu1 hu2))
  obtain ⟨b4, o4, hA4⟩ := ws_or HW.out.1
  obtain ⟨b, o, rfl, hrl⟩ := rl_open HW.out.2.2.rd (val_ne HV.out)
  have HA4 := Lib.hid hA4
  have H5 : Hid (AlR w4 L (some ⟨b, o, none⟩) q cq ∧ Below w.heap.size w w4 ∧ n4 = ws.length) := Lib.hid ⟨HW.out.2.2, HW.out.2.1, HW.out.1.len⟩
  clear hA4 hrl HA HU HR HW
  go_loopg [9, 10, 11, 12, 13, 14] n4 (fun g s9 s10 s11 s12 s13 s14 wr => ∃ (i : Nat), i + g = n4 ∧ s9 = .int .i64 (i : Int) ∧ Hid (Below w4.heap.size w4 wr))
  case atStart => exact ⟨0, by omega, rfl, Lib.hid (Below.refl _ _)⟩
  case round =>
    obtain ⟨i, hi, rfl, HI⟩ := hrel
    by_cases hlt : i < n4
    · obtain ⟨g, rfl⟩ : ∃ g, gk = g + 1 := ⟨gk - 1, by omega⟩
      obtain ⟨rfl, hwa⟩ : A4 = some ⟨b4, o4, none⟩ ∧ WsAt w4 b4 o4 ws := by
        rcases HA4.out with h | h
        · omega
        · exact h
      have HWA : Hid (∀ k, k < n4 → ∃ A n c, Hid (∀ W, Below w4.heap.size w4 W → W.cell? ⟨b4, o4 + k, none⟩ = some (.slice A n c) ∧ WdR W (ws.getD k []) A n c)) := Lib.hid fun k hk => by
        obtain ⟨A, n, c, h1, h2⟩ := hwa k (by rw [← H5.out.2.2]; exact hk)
        exact ⟨A, n, c, Lib.hid fun W hb => ⟨(hb.cell (p := ⟨b4, o4 + k, none⟩) (World.block_lt_of_cell? w4 _ h1)).trans h1, h2.below hb⟩⟩
      obtain ⟨Ai, ni, ci, HWI0⟩ := HWA.out i hlt
      have hci := (HWI0.out _ HI.out).1
      have HLV0 : Hid (Calls Try.prog 32 #[.slice (some ⟨b, o, none⟩) q cq, .slice Ai ni ci, .int .i64 4] wr fun e w' => ∃ A3 n3 c3, e = .returned (.slice A3 n3 c3) ∧ WdR w' (lev L 3 (ws.getD i [])) A3 n3 c3 ∧ Below wr.heap.size wr w') := Lib.hid (level_wd (H5.out.1.below HI.out) (HWI0.out _ HI.out).2 3 (by omega) 4 rfl)
      have HFO0 : Hid (∀ (v : List Int) (A1 : Option Addr) (n1 c1 : Nat) (W : World), Below w4.heap.size w4 W → WdR W (lev L 3 v) A1 n1 c1 → Calls Try.prog 33 #[.slice (some ⟨b, o, none⟩) q cq, .slice A1 n1 c1] W fun e w' => ∃ A3 n3 c3, e = .returned (.slice A3 n3 c3) ∧ WdR w' (lev L 0 v) A3 n3 c3 ∧ Below W.heap.size W w') := Lib.hid fun v A1 n1 c1 W hb h1 => by
        have ha := H5.out.1.below hb
        refine (fold_aux L (lev L 3 v) n1 h1.len h1.few (some ⟨b, o, none⟩) q cq ha.len ha.cap ha.max ha.txt true HV.out.symm A1 c1 h1.cap h1.max W ha.rd h1.rd).mono fun e w' hp => ?_
        obtain ⟨A3, c3, n3, he, hn, hr, h3, h4, hb⟩ := l_out hp
        rw [fold_lev HV.out] at hn hr
        exact ⟨A3, n3, c3, he, ⟨hn, by have := h1.len; have := h1.few; rw [lev_length] at *; omega, h3, h4, hr⟩, hb⟩
      clear hwa
      have HS0 : Hid (∀ (x y : List Int) (A1 A2 : Option Addr) (n1 c1 n2 c2 n : Nat) (m : Int) (V : Bool) (W : World), m = (n : Int) → 1 ≤ n → n ≤ 4 → Below w4.heap.size w4 W → WdR W x A1 n1 c1 → WdR W y A2 n2 c2 → V = decide (cmpU L x y 0 n = 0) → Calls Try.prog 25 #[.slice (some ⟨b, o, none⟩) q cq, .slice A1 n1 c1, .slice A2 n2 c2, .int .i64 m] W (BoolB W V)) := Lib.hid fun x y A1 A2 n1 c1 n2 c2 n m V W hm h1 h4 hb hx hy hV => same_any' L _ A1 A2 q cq n1 c1 n2 c2 m x y V (by
        rw [hV, hm]; unfold sameP; rw [Int.toNat_natCast]
        exact decide_eq_decide.2 ⟨fun h => ⟨HV.out, ⟨by omega, by omega⟩, h⟩, fun h => h.2.2⟩) W (H5.out.1.below hb) hx hy
      have HC0 : Hid (∀ (x y : List Int) (A1 A2 : Option Addr) (n1 c1 n2 c2 : Nat) (R : Int) (W : World), Below w4.heap.size w4 W → WdR W x A1 n1 c1 → WdR W y A2 n2 c2 → R = cmpU L x y 0 4 → Calls Try.prog 23 #[.slice (some ⟨b, o, none⟩) q cq, .slice A1 n1 c1, .slice A2 n2 c2] W (IPost W R)) := Lib.hid fun x y A1 A2 n1 c1 n2 c2 R W hb hx hy hR => compare_any L _ A1 A2 q cq n1 c1 n2 c2 x y R (by rw [cmpP_yes HV.out, hR]) W (H5.out.1.below hb) hx hy
      obtain ⟨R, hR⟩ : ∃ R, R = cmpU L (lev L 0 (ws.getD i [])) (ws.getD i []) 0 4 := ⟨_, rfl⟩
      by_cases hRc : R ≤ 0
      · skip
        have HQ1 : Hid (true = decide (cmpU L (ws.getD i []) (lev L 0 (ws.getD i [])) 0 1 = 0)) := Lib.hid (decide_eq_true ((cmp_one L _ _).2 (lev_fold HV.out _).symm)).symm
        have HQR : Hid (R = cmpU L (lev L 0 (ws.getD i [])) (ws.getD i []) 0 4) := Lib.hid hR
        have d1 : decide (0 < R) = false := decide_eq_false (by omega)
        clear hR hRc
        go_wp2_with (first
          | ((with_reducible refine HLV0.out.mono ?_); rintro e x1 hp; obtain ⟨Ax, nx, cx, rfl, hwd, hb⟩ := hp; have Hx1 : Hid (Below w4.heap.size w4 x1 ∧ WdR x1 (lev L 3 (ws.getD i [])) Ax nx cx) := Lib.hid ⟨below_next HI.out hb, hwd⟩; have hnx : nx ≤ cx := hwd.cap; have hnx2 : cx ≤ 9223372036854775807 := (by have := hwd.max; unfold maxLen at this; omega); clear hwd hb)
          | ((with_reducible refine (HFO0.out _ _ _ _ _ Hx1.out.1 Hx1.out.2).mono ?_); rintro e x2 hp; obtain ⟨Af, nf, cf, rfl, hwd, hb⟩ := hp; have Hx2 : Hid (Below x2.heap.size x2 x2 ∧ Below w4.heap.size w4 x2 ∧ WdR x2 (lev L 0 (ws.getD i [])) Af nf cf) := Lib.hid ⟨Below.refl _ _, below_next Hx1.out.1 hb, hwd⟩; have hcc0 := (HWI0.out _ Hx2.out.2.1).1; clear hwd hb)
          | ((with_reducible refine (HS0.out (ws.getD i []) (lev L 0 (ws.getD i [])) _ _ _ _ _ _ 1 1 true _ rfl (by omega) (by omega) Hx2.out.2.1 (HWI0.out _ Hx2.out.2.1).2 Hx2.out.2.2 HQ1.out).mono ?_); rintro e y1 hp; obtain ⟨rfl, hb⟩ := boolb_out hp; have Hy1 : Hid (Below x2.heap.size x2 y1) := Lib.hid hb; have hcc1 := (HWI0.out _ (below_next Hx2.out.2.1 hb)).1; clear hp hb)
          | ((with_reducible refine (HC0.out (lev L 0 (ws.getD i [])) (ws.getD i []) _ _ _ _ _ _ R _ (below_next Hx2.out.2.1 Hy1.out) (Hx2.out.2.2.below Hy1.out) (HWI0.out _ (below_next Hx2.out.2.1 Hy1.out)).2 HQR.out).mono ?_); rintro e y2 hp; obtain ⟨rfl, hb⟩ := i_out hp; have Hy2 : Hid (Below x2.heap.size x2 y2) := Lib.hid (below_next Hy1.out hb); have hcc2 := (HWI0.out _ (below_next Hx2.out.2.1 Hy2.out)).1; clear hp hb))
        clear hcc0 hcc1 hcc2 d1
        have HWF : Hid (∀ W, Below x2.heap.size x2 W → WdR W (lev L 0 (ws.getD i [])) Af nf cf) := Lib.hid fun W hb => Hx2.out.2.2.below hb
        have HWI : Hid (∀ W, Below x2.heap.size x2 W → W.cell? ⟨b4, o4 + i, none⟩ = some (.slice Ai ni ci) ∧ WdR W (ws.getD i []) Ai ni ci) := Lib.hid fun W hb => HWI0.out W (below_next Hx2.out.2.1 hb)
        have HWA2 : Hid (∀ k, k < n4 → ∃ A n c, Hid (∀ W, Below x2.heap.size x2 W → W.cell? ⟨b4, o4 + k, none⟩ = some (.slice A n c) ∧ WdR W (ws.getD k []) A n c)) := Lib.hid fun k hk => by
          obtain ⟨A, n, c, h⟩ := HWA.out k hk
          exact ⟨A, n, c, Lib.hid fun W hb => h.out W (below_next Hx2.out.2.1 hb)⟩
        have HCO : Hid (∀ (x y : List Int) (A1 A2 : Option Addr) (n1 c1 n2 c2 : Nat) (R : Int) (W : World), Below x2.heap.size x2 W → WdR W x A1 n1 c1 → WdR W y A2 n2 c2 → R = cmpU L x y 0 4 → Calls Try.prog 23 #[.slice (some ⟨b, o, none⟩) q cq, .slice A1 n1 c1, .slice A2 n2 c2] W fun e w' => e = .returned (.int .i64 R) ∧ Below x2.heap.size x2 w') := Lib.hid fun x y A1 A2 n1 c1 n2 c2 R W hb hx hy hR => (compare_any L _ A1 A2 q cq n1 c1 n2 c2 x y R (by rw [cmpP_yes HV.out, hR]) W (H5.out.1.below (below_next Hx2.out.2.1 hb)) hx hy).mono fun e w' hp => ⟨hp.1, below_next hb hp.2⟩
        have HSM2 : Hid (∀ (x y : List Int) (A1 A2 : Option Addr) (n1 c1 n2 c2 n : Nat) (m : Int) (V : Bool) (W : World), m = (n : Int) → 1 ≤ n → n ≤ 4 → Below x2.heap.size x2 W → WdR W x A1 n1 c1 → WdR W y A2 n2 c2 → V = decide (cmpU L x y 0 n = 0) → Calls Try.prog 25 #[.slice (some ⟨b, o, none⟩) q cq, .slice A1 n1 c1, .slice A2 n2 c2, .int .i64 m] W (BoolB W V)) := Lib.hid fun x y A1 A2 n1 c1 n2 c2 n m V W hm h1 h4 hb hx hy hV => same_any' L _ A1 A2 q cq n1 c1 n2 c2 m x y V (by
          rw [hV, hm]; unfold sameP; rw [Int.toNat_natCast]
          exact decide_eq_decide.2 ⟨fun h => ⟨HV.out, ⟨by omega, by omega⟩, h⟩, fun h => h.2.2⟩) W (H5.out.1.below (below_next Hx2.out.2.1 hb)) hx hy
        have HSM : Hid (∀ (x y : List Int) (A1 A2 : Option Addr) (n1 c1 n2 c2 n : Nat) (m : Int) (V : Bool) (W : World), m = (n : Int) → 1 ≤ n → n ≤ 4 → Below x2.heap.size x2 W → WdR W x A1 n1 c1 → WdR W y A2 n2 c2 → V = decide (cmpU L x y 0 n = 0) → Calls Try.prog 25 #[.slice (some ⟨b, o, none⟩) q cq, .slice A1 n1 c1, .slice A2 n2 c2, .int .i64 m] W fun e w' => e = .returned (.bool V) ∧ Below x2.heap.size x2 w') := Lib.hid fun x y A1 A2 n1 c1 n2 c2 n m V W hm h1 h4 hb hx hy hV => (HSM2.out x y A1 A2 n1 c1 n2 c2 n m V W hm h1 h4 hb hx hy hV).mono fun e w' hp => by
          obtain ⟨he, hb2⟩ := boolb_out hp
          exact ⟨he, below_next hb hb2⟩
        have HLV : Hid (∀ (x : List Int) (A1 : Option Addr) (n1 c1 : Nat) (W : World), Below x2.heap.size x2 W → WdR W x A1 n1 c1 → Calls Try.prog 32 #[.slice (some ⟨b, o, none⟩) q cq, .slice A1 n1 c1, .int .i64 4] W fun e w' => ∃ A3 n3 c3, e = .returned (.slice A3 n3 c3) ∧ WdR w' (lev L 3 x) A3 n3 c3 ∧ Below W.heap.size W w') := Lib.hid fun x A1 n1 c1 W hb hx => level_wd (H5.out.1.below (below_next Hx2.out.2.1 hb)) hx 3 (by omega) 4 rfl
        have HFO : Hid (∀ (v : List Int) (A1 : Option Addr) (n1 c1 : Nat) (W : World), Below x2.heap.size x2 W → WdR W (lev L 3 v) A1 n1 c1 → Calls Try.prog 33 #[.slice (some ⟨b, o, none⟩) q cq, .slice A1 n1 c1] W fun e w' => ∃ A3 n3 c3, e = .returned (.slice A3 n3 c3) ∧ WdR w' (lev L 0 v) A3 n3 c3 ∧ Below W.heap.size W w') := Lib.hid fun v A1 n1 c1 W hb h1 => HFO0.out v A1 n1 c1 W (below_next Hx2.out.2.1 hb) h1
        go_loopg [12, 13, 14] n4 (fun g s12 s13 s14 wr => ∃ (j : Nat), j + g = n4 ∧ s12 = .int .i64 (j : Int) ∧ Hid (Below x2.heap.size x2 wr))
        case atStart => exact ⟨0, by omega, rfl, Lib.hid Hy2.out⟩
        case round =>
          obtain ⟨j, hj, rfl, HJ⟩ := hrel
          by_cases hltj : j < n4
          · obtain ⟨g, rfl⟩ : ∃ g, gk = g + 1 := ⟨gk - 1, by omega⟩
            obtain ⟨Aj, nj, cj, HWJ⟩ := HWA2.out j hltj
            have hcj := (HWJ.out _ HJ.out).1
            obtain ⟨R2, hx⟩ : ∃ R, R = cmpU L (ws.getD i []) (ws.getD j []) 0 4 := ⟨_, rfl⟩
            obtain ⟨V1, hV1⟩ : ∃ V, V = decide (cmpU L (ws.getD i []) (ws.getD j []) 0 1 = 0) := ⟨_, rfl⟩
            obtain ⟨V4, hV4⟩ : ∃ V, V = decide (R2 = 0) := ⟨_, rfl⟩
            as_aux_lemma =>
              have HS1 : Hid (∀ W, Below x2.heap.size x2 W → Calls Try.prog 25 #[.slice (some ⟨b, o, none⟩) q cq, .slice Ai ni ci, .slice Aj nj cj, .int .i64 1] W fun e w' => e = .returned (.bool V1) ∧ Below x2.heap.size x2 w') := Lib.hid fun W hb => HSM.out _ _ _ _ _ _ _ _ 1 1 V1 W rfl (by omega) (by omega) hb (HWI.out W hb).2 (HWJ.out W hb).2 hV1
              have HS4 : Hid (∀ W, Below x2.heap.size x2 W → Calls Try.prog 25 #[.slice (some ⟨b, o, none⟩) q cq, .slice Ai ni ci, .slice Aj nj cj, .int .i64 4] W fun e w' => e = .returned (.bool V4) ∧ Below x2.heap.size x2 w') := Lib.hid fun W hb => HSM.out _ _ _ _ _ _ _ _ 4 4 V4 W rfl (by omega) (by omega) hb (HWI.out W hb).2 (HWJ.out W hb).2 (by rw [hV4, hx])
              have HCR : Hid (∀ W, Below x2.heap.size x2 W → Calls Try.prog 23 #[.slice (some ⟨b, o, none⟩) q cq, .slice Ai ni ci, .slice Aj nj cj] W fun e w' => e = .returned (.int .i64 R2) ∧ Below x2.heap.size x2 w') := Lib.hid fun W hb => HCO.out _ _ _ _ _ _ _ _ R2 W hb (HWI.out W hb).2 (HWJ.out W hb).2 hx
              have HVF : Hid (V1 = decide (lev L 0 (ws.getD i []) = lev L 0 (ws.getD j []))) := Lib.hid (by rw [hV1]; exact decide_eq_decide.2 (cmp_one L _ _))
              have hq1 : (R2 == 0) = V4 := by rw [hV4]; rfl
              have hq2 : decide (R2 = 0) = V4 := hV4.symm
              clear hx hV1 hV4
              go_wp2_with ((with_reducible refine (HLV.out _ _ _ _ wr HJ.out (HWJ.out wr HJ.out).2).mono ?_); rintro e x1 hp; obtain ⟨Ay, ny, cy, rfl, hwd, hb⟩ := hp; have Hx1 : Hid (Below x2.heap.size x2 x1 ∧ WdR x1 (lev L 3 (ws.getD j [])) Ay ny cy) := Lib.hid ⟨below_next HJ.out hb, hwd⟩; clear hwd hb)
              have hci9 := (HWI.out _ Hx1.out.1).1
              have hcj9 := (HWJ.out _ Hx1.out.1).1
              refine wp_region_held_drew (S := fun W' => W'.cell? ⟨b4, o4 + i, none⟩ = some (.slice Ai ni ci) ∧ W'.cell? ⟨b4, o4 + j, none⟩ = some (.slice Aj nj cj)) (by kernel_rfl) (⟨hci9, hcj9⟩) (fun hS0 => ?_)
              refine wpAnyH_take (i := 0) (oi := { dst := some 78, op := Op.move (Operand.tmp 7), type := 24, pos := "law.go:143", after := #[], guard := none }) (v := ?_) rfl (by kernel_rfl) (by kernel_rfl) (by kernel_rfl) (fun _ _ _ h => h) (Or.inl ⟨by rfl, ?_⟩) (by assumption) ?_
              rotate_left
              · (intro w' hSw; (try dsimp only at hSw); go_simp; try with_reducible rfl)
              try simp only [Act.put, List.setIfInBounds_toArray, List.set_cons_zero, List.set_cons_succ]
              refine wpAnyH_take (i := 1) (oi := { dst := some 79, op := Op.move (Operand.tmp 8), type := 23, pos := "law.go:143", after := #[], guard := none }) (v := ?_) rfl (by kernel_rfl) (by kernel_rfl) (by kernel_rfl) (fun _ _ _ h => h) (Or.inl ⟨by rfl, ?_⟩) (by assumption) ?_
              rotate_left
              · (intro w' hSw; (try dsimp only at hSw); go_simp; try with_reducible rfl)
              try simp only [Act.put, List.setIfInBounds_toArray, List.set_cons_zero, List.set_cons_succ]
              refine wpAnyH_take (i := 2) (oi := { dst := some 80, op := Op.move (Operand.tmp 9), type := 3, pos := "law.go:143", after := #[], guard := none }) (v := ?_) rfl (by kernel_rfl) (by kernel_rfl) (by kernel_rfl) (fun _ _ _ h => h) (Or.inl ⟨by rfl, ?_⟩) (by assumption) ?_
              rotate_left
              · (intro w' hSw; (try dsimp only at hSw); go_simp; try with_reducible rfl)
              try simp only [Act.put, List.setIfInBounds_toArray, List.set_cons_zero, List.set_cons_succ]
              refine wpAnyH_take (i := 3) (oi := { dst := some 81, op := Op.indexAddr 23 (Operand.tmp 79) (Operand.tmp 80), type := 0, pos := "law.go:143", after := #[{ on := 1, ground := Ground.data }, { on := 2, ground := Ground.data }], guard := none }) (v := ?_) rfl (by kernel_rfl) (by kernel_rfl) (by kernel_rfl) (fun _ _ _ h => h) (Or.inl ⟨by rfl, ?_⟩) (by assumption) ?_
              rotate_left
              · (intro w' hSw; (try dsimp only at hSw); go_simp; try with_reducible rfl)
              try simp only [Act.put, List.setIfInBounds_toArray, List.set_cons_zero, List.set_cons_succ]
              refine wpAnyH_take (i := 4) (oi := { dst := some 82, op := Op.load 22 (Operand.tmp 81), type := 22, pos := "law.go:143", after := #[{ on := 3, ground := Ground.data }], guard := none }) (v := ?_) rfl (by kernel_rfl) (by kernel_rfl) (by kernel_rfl) (fun _ _ _ h => h) (Or.inl ⟨by rfl, ?_⟩) (by assumption) ?_
              rotate_left
              · (intro w' hSw; (try dsimp only at hSw); go_simp; try with_reducible rfl)
              try simp only [Act.put, List.setIfInBounds_toArray, List.set_cons_zero, List.set_cons_succ]
              refine wpAnyH_take (i := 5) (oi := { dst := some 83, op := Op.move (Operand.tmp 8), type := 23, pos := "law.go:143", after := #[], guard := none }) (v := ?_) rfl (by kernel_rfl) (by kernel_rfl) (by kernel_rfl) (fun _ _ _ h => h) (Or.inl ⟨by rfl, ?_⟩) (by assumption) ?_
              rotate_left
              · (intro w' hSw; (try dsimp only at hSw); go_simp; try with_reducible rfl)
              try simp only [Act.put, List.setIfInBounds_toArray, List.set_cons_zero, List.set_cons_succ]
              refine wpAnyH_take (i := 6) (oi := { dst := some 84, op := Op.move (Operand.tmp 12), type := 3, pos := "law.go:143", after := #[], guard := none }) (v := ?_) rfl (by kernel_rfl) (by kernel_rfl) (by kernel_rfl) (fun _ _ _ h => h) (Or.inl ⟨by rfl, ?_⟩) (by assumption) ?_
              rotate_left
              · (intro w' hSw; (try dsimp only at hSw); go_simp; try with_reducible rfl)
              try simp only [Act.put, List.setIfInBounds_toArray, List.set_cons_zero, List.set_cons_succ]
              refine wpAnyH_take (i := 7) (oi := { dst := some 85, op := Op.indexAddr 23 (Operand.tmp 83) (Operand.tmp 84), type := 0, pos := "law.go:143", after := #[{ on := 5, ground := Ground.data }, { on := 6, ground := Ground.data }], guard := none }) (v := ?_) rfl (by kernel_rfl) (by kernel_rfl) (by kernel_rfl) (fun _ _ _ h => h) (Or.inl ⟨by rfl, ?_⟩) (by assumption) ?_
              rotate_left
              · (intro w' hSw; (try dsimp only at hSw); go_simp; try with_reducible rfl)
              try simp only [Act.put, List.setIfInBounds_toArray, List.set_cons_zero, List.set_cons_succ]
              refine wpAnyH_take (i := 8) (oi := { dst := some 86, op := Op.load 22 (Operand.tmp 85), type := 22, pos := "law.go:143", after := #[{ on := 7, ground := Ground.data }], guard := none }) (v := ?_) rfl (by kernel_rfl) (by kernel_rfl) (by kernel_rfl) (fun _ _ _ h => h) (Or.inl ⟨by rfl, ?_⟩) (by assumption) ?_
              rotate_left
              · (intro w' hSw; (try dsimp only at hSw); go_simp; try with_reducible rfl)
              try simp only [Act.put, List.setIfInBounds_toArray, List.set_cons_zero, List.set_cons_succ]
              refine wpAnyH_take (i := 10) (oi := { dst := some 88, op := Op.move (Operand.tmp 11), type := 22, pos := "law.go:143", after := #[], guard := none }) (v := ?_) rfl (by kernel_rfl) (by kernel_rfl) (by kernel_rfl) (fun _ _ _ h => h) (Or.inl ⟨by rfl, ?_⟩) (by assumption) ?_
              rotate_left
              · (intro w' hSw; (try dsimp only at hSw); go_simp; try with_reducible rfl)
              try simp only [Act.put, List.setIfInBounds_toArray, List.set_cons_zero, List.set_cons_succ]
              refine wpAnyH_take (i := 11) (oi := { dst := some 89, op := Op.move (Operand.tmp 7), type := 24, pos := "law.go:143", after := #[], guard := none }) (v := ?_) rfl (by kernel_rfl) (by kernel_rfl) (by kernel_rfl) (fun _ _ _ h => h) (Or.inl ⟨by rfl, ?_⟩) (by assumption) ?_
              rotate_left
              · (intro w' hSw; (try dsimp only at hSw); go_simp; try with_reducible rfl)
              try simp only [Act.put, List.setIfInBounds_toArray, List.set_cons_zero, List.set_cons_succ]
              refine wpAnyH_take (i := 12) (oi := { dst := some 90, op := Op.move (Operand.tmp 13), type := 22, pos := "law.go:143", after := #[], guard := none }) (v := ?_) rfl (by kernel_rfl) (by kernel_rfl) (by kernel_rfl) (fun _ _ _ h => h) (Or.inl ⟨by rfl, ?_⟩) (by assumption) ?_
              rotate_left
              · (intro w' hSw; (try dsimp only at hSw); go_simp; try with_reducible rfl)
              try simp only [Act.put, List.setIfInBounds_toArray, List.set_cons_zero, List.set_cons_succ]
              refine wpAnyH_ready (rs := [9]) (by kernel_rfl) (by simp) ?_
              refine AllReadyH.cons (o := { dst := some 87, op := Op.call { callee := Callee.value (Operand.func 25), args := #[Operand.tmp 78, Operand.tmp 82, Operand.tmp 86, Operand.const (Value.int IntKind.i64 1)], argTypes := #[24, 22, 22, 3] }, type := 4, pos := "law.go:143", after := #[{ on := 0, ground := Ground.data }, { on := 4, ground := Ground.data }, { on := 8, ground := Ground.data }], guard := none }) rfl (fun K hK => ?_) AllReadyH.nil
              go_simp
              go_at_call 25
              refine (HSM2.out _ _ _ _ _ _ _ _ 1 1 V1 _ rfl (by omega) (by omega) (below_drewN Hx1.out.1 1) (HWI.out _ (below_drewN Hx1.out.1 1)).2 (HWJ.out _ (below_drewN Hx1.out.1 1)).2 (by rw [HVF.out]; exact decide_eq_decide.2 (cmp_one L _ _).symm)).mono ?_
              rintro e xa hp
              obtain ⟨rfl, hb⟩ := boolb_out hp
              have Hxa : Hid (Below x2.heap.size x2 xa ∧ WdR xa (lev L 3 (ws.getD j [])) Ay ny cy) := Lib.hid ⟨below_next (below_drewN Hx1.out.1 1) hb, (Hx1.out.2.below (below_drewN (Below.refl _ _) 1)).below hb⟩
              clear hp hb
              refine hK.out _ _ ⟨(HWI.out _ Hxa.out.1).1, (HWJ.out _ Hxa.out.1).1⟩ (fun hSxa => ?_)
              clear hK K hS0
              try simp only [Act.put, List.setIfInBounds_toArray, List.set_cons_zero, List.set_cons_succ]
              refine wpAnyH_ready (rs := [13]) (by kernel_rfl) (by simp) ?_
              refine AllReadyH.cons (o := { dst := some 91, op := Op.call { callee := Callee.value (Operand.func 33), args := #[Operand.tmp 89, Operand.tmp 90], argTypes := #[24, 22] }, type := 22, pos := "law.go:143", after := #[{ on := 11, ground := Ground.data }, { on := 12, ground := Ground.data }, { on := 9, ground := Ground.chain }], guard := none }) rfl (fun K hK => ?_) AllReadyH.nil
              go_simp
              go_at_call 33
              refine (HFO.out _ _ _ _ _ Hxa.out.1 Hxa.out.2).mono ?_
              rintro e xb hp
              obtain ⟨Ag, ng, cg, rfl, hwd, hb⟩ := hp
              have Hxb : Hid (Below x2.heap.size x2 xb ∧ WdR xb (lev L 0 (ws.getD j [])) Ag ng cg) := Lib.hid ⟨below_next Hxa.out.1 hb, hwd⟩
              clear hwd hb
              refine hK.out _ _ ⟨(HWI.out _ Hxb.out.1).1, (HWJ.out _ Hxb.out.1).1⟩ (fun hSxb => ?_)
              clear hK K hSxa
              try simp only [Act.put, List.setIfInBounds_toArray, List.set_cons_zero, List.set_cons_succ]
              refine wpAnyH_ready (rs := [14]) (by kernel_rfl) (by simp) ?_
              refine AllReadyH.cons (o := { dst := some 92, op := Op.call { callee := Callee.value (Operand.func 17), args := #[Operand.tmp 88, Operand.tmp 91], argTypes := #[22, 22] }, type := 4, pos := "law.go:143", after := #[{ on := 10, ground := Ground.data }, { on := 13, ground := Ground.data }, { on := 13, ground := Ground.chain }], guard := none }) rfl (fun K hK => ?_) AllReadyH.nil
              go_simp
              go_at_call 17
              refine (same_any (lev L 0 (ws.getD i [])) (lev L 0 (ws.getD j [])) _ _ _ _ _ _ (HWF.out _ Hxb.out.1).len Hxb.out.2.len (by have := (HWF.out _ Hxb.out.1).cap; have := (HWF.out _ Hxb.out.1).max; omega) V1 HVF.out _ (HWF.out _ Hxb.out.1).rd Hxb.out.2.rd).mono ?_
              rintro e xc hp
              obtain ⟨rfl, hb⟩ := boolb_out hp
              have Hxc : Hid (Below x2.heap.size x2 xc) := Lib.hid (below_next Hxb.out.1 hb)
              clear hp hb
              refine hK.out _ _ ⟨(HWI.out _ Hxc.out).1, (HWJ.out _ Hxc.out).1⟩ (fun hSxc => ?_)
              clear hK K hSxb
              try simp only [Act.put, List.setIfInBounds_toArray, List.set_cons_zero, List.set_cons_succ]
              refine wpAnyH_take (i := 15) (oi := { dst := some 93, op := Op.binOp BinOp.neq 4 (Operand.tmp 87) (Operand.tmp 92) 4, type := 4, pos := "law.go:143", after := #[{ on := 9, ground := Ground.data }, { on := 14, ground := Ground.data }], guard := none }) (v := ?_) rfl (by kernel_rfl) (by kernel_rfl) (by kernel_rfl) (fun _ _ _ h => h) (Or.inl ⟨by rfl, ?_⟩) (by assumption) ?_
              rotate_left
              · (intro w' hSw; (try dsimp only at hSw); go_simp; try with_reducible rfl)
              try simp only [Act.put, List.setIfInBounds_toArray, List.set_cons_zero, List.set_cons_succ]
              refine wpAnyH_take (i := 16) (oi := { dst := some 94, op := Op.move (Operand.tmp 93), type := 4, pos := "law.go:143", after := #[{ on := 15, ground := Ground.data }, { on := 14, ground := Ground.chain }], guard := none }) (v := ?_) rfl (by kernel_rfl) (by kernel_rfl) (by kernel_rfl) (fun _ _ _ h => h) (Or.inl ⟨by rfl, ?_⟩) (by assumption) ?_
              rotate_left
              · (intro w' hSw; (try dsimp only at hSw); go_simp; try with_reducible rfl)
              try simp only [Act.put, List.setIfInBounds_toArray, List.set_cons_zero, List.set_cons_succ]
              refine wpAnyH_take (i := 17) (oi := { dst := some 95, op := Op.move (Operand.tmp 7), type := 24, pos := "law.go:143", after := #[{ on := 16, ground := Ground.guard }], guard := some (16, false) }) (v := ?_) rfl (by kernel_rfl) (by kernel_rfl) (by kernel_rfl) (fun _ _ _ h => h) (Or.inl ⟨by rfl, ?_⟩) (by assumption) ?_
              rotate_left
              · (intro w' hSw; (try dsimp only at hSw); go_simp; try with_reducible rfl)
              try simp only [Act.put, List.setIfInBounds_toArray, List.set_cons_zero, List.set_cons_succ]
              refine wpAnyH_take (i := 18) (oi := { dst := some 96, op := Op.move (Operand.tmp 8), type := 23, pos := "law.go:143", after := #[{ on := 16, ground := Ground.guard }], guard := some (16, false) }) (v := ?_) rfl (by kernel_rfl) (by kernel_rfl) (by kernel_rfl) (fun _ _ _ h => h) (Or.inl ⟨by rfl, ?_⟩) (by assumption) ?_
              rotate_left
              · (intro w' hSw; (try dsimp only at hSw); go_simp; try with_reducible rfl)
              try simp only [Act.put, List.setIfInBounds_toArray, List.set_cons_zero, List.set_cons_succ]
              refine wpAnyH_take (i := 19) (oi := { dst := some 97, op := Op.move (Operand.tmp 9), type := 3, pos := "law.go:143", after := #[{ on := 16, ground := Ground.guard }], guard := some (16, false) }) (v := ?_) rfl (by kernel_rfl) (by kernel_rfl) (by kernel_rfl) (fun _ _ _ h => h) (Or.inl ⟨by rfl, ?_⟩) (by assumption) ?_
              rotate_left
              · (intro w' hSw; (try dsimp only at hSw); go_simp; try with_reducible rfl)
              try simp only [Act.put, List.setIfInBounds_toArray, List.set_cons_zero, List.set_cons_succ]
              refine wpAnyH_take (i := 20) (oi := { dst := some 98, op := Op.indexAddr 23 (Operand.tmp 96) (Operand.tmp 97), type := 0, pos := "law.go:143", after := #[{ on := 18, ground := Ground.data }, { on := 19, ground := Ground.data }, { on := 16, ground := Ground.guard }], guard := some (16, false) }) (v := ?_) rfl (by kernel_rfl) (by kernel_rfl) (by kernel_rfl) (fun _ _ _ h => h) (Or.inl ⟨by rfl, ?_⟩) (by assumption) ?_
              rotate_left
              · (intro w' hSw; (try dsimp only at hSw); go_simp; try with_reducible rfl)
              try simp only [Act.put, List.setIfInBounds_toArray, List.set_cons_zero, List.set_cons_succ]
              refine wpAnyH_take (i := 21) (oi := { dst := some 99, op := Op.load 22 (Operand.tmp 98), type := 22, pos := "law.go:143", after := #[{ on := 20, ground := Ground.data }, { on := 16, ground := Ground.guard }], guard := some (16, false) }) (v := ?_) rfl (by kernel_rfl) (by kernel_rfl) (by kernel_rfl) (fun _ _ _ h => h) (Or.inl ⟨by rfl, ?_⟩) (by assumption) ?_
              rotate_left
              · (intro w' hSw; (try dsimp only at hSw); go_simp; try with_reducible rfl)
              try simp only [Act.put, List.setIfInBounds_toArray, List.set_cons_zero, List.set_cons_succ]
              refine wpAnyH_take (i := 22) (oi := { dst := some 100, op := Op.move (Operand.tmp 8), type := 23, pos := "law.go:143", after := #[{ on := 16, ground := Ground.guard }], guard := some (16, false) }) (v := ?_) rfl (by kernel_rfl) (by kernel_rfl) (by kernel_rfl) (fun _ _ _ h => h) (Or.inl ⟨by rfl, ?_⟩) (by assumption) ?_
              rotate_left
              · (intro w' hSw; (try dsimp only at hSw); go_simp; try with_reducible rfl)
              try simp only [Act.put, List.setIfInBounds_toArray, List.set_cons_zero, List.set_cons_succ]
              refine wpAnyH_take (i := 23) (oi := { dst := some 101, op := Op.move (Operand.tmp 12), type := 3, pos := "law.go:143", after := #[{ on := 16, ground := Ground.guard }], guard := some (16, false) }) (v := ?_) rfl (by kernel_rfl) (by kernel_rfl) (by kernel_rfl) (fun _ _ _ h => h) (Or.inl ⟨by rfl, ?_⟩) (by assumption) ?_
              rotate_left
              · (intro w' hSw; (try dsimp only at hSw); go_simp; try with_reducible rfl)
              try simp only [Act.put, List.setIfInBounds_toArray, List.set_cons_zero, List.set_cons_succ]
              refine wpAnyH_take (i := 24) (oi := { dst := some 102, op := Op.indexAddr 23 (Operand.tmp 100) (Operand.tmp 101), type := 0, pos := "law.go:143", after := #[{ on := 22, ground := Ground.data }, { on := 23, ground := Ground.data }, { on := 16, ground := Ground.guard }], guard := some (16, false) }) (v := ?_) rfl (by kernel_rfl) (by kernel_rfl) (by kernel_rfl) (fun _ _ _ h => h) (Or.inl ⟨by rfl, ?_⟩) (by assumption) ?_
              rotate_left
              · (intro w' hSw; (try dsimp only at hSw); go_simp; try with_reducible rfl)
              try simp only [Act.put, List.setIfInBounds_toArray, List.set_cons_zero, List.set_cons_succ]
              refine wpAnyH_take (i := 25) (oi := { dst := some 103, op := Op.load 22 (Operand.tmp 102), type := 22, pos := "law.go:143", after := #[{ on := 24, ground := Ground.data }, { on := 16, ground := Ground.guard }], guard := some (16, false) }) (v := ?_) rfl (by kernel_rfl) (by kernel_rfl) (by kernel_rfl) (fun _ _ _ h => h) (Or.inl ⟨by rfl, ?_⟩) (by assumption) ?_
              rotate_left
              · (intro w' hSw; (try dsimp only at hSw); go_simp; try with_reducible rfl)
              try simp only [Act.put, List.setIfInBounds_toArray, List.set_cons_zero, List.set_cons_succ]
              refine wpAnyH_take (i := 27) (oi := { dst := some 105, op := Op.move (Operand.tmp 7), type := 24, pos := "law.go:143", after := #[{ on := 16, ground := Ground.guard }], guard := some (16, false) }) (v := ?_) rfl (by kernel_rfl) (by kernel_rfl) (by kernel_rfl) (fun _ _ _ h => h) (Or.inl ⟨by rfl, ?_⟩) (by assumption) ?_
              rotate_left
              · (intro w' hSw; (try dsimp only at hSw); go_simp; try with_reducible rfl)
              try simp only [Act.put, List.setIfInBounds_toArray, List.set_cons_zero, List.set_cons_succ]
              refine wpAnyH_take (i := 28) (oi := { dst := some 106, op := Op.move (Operand.tmp 8), type := 23, pos := "law.go:143", after := #[{ on := 16, ground := Ground.guard }], guard := some (16, false) }) (v := ?_) rfl (by kernel_rfl) (by kernel_rfl) (by kernel_rfl) (fun _ _ _ h => h) (Or.inl ⟨by rfl, ?_⟩) (by assumption) ?_
              rotate_left
              · (intro w' hSw; (try dsimp only at hSw); go_simp; try with_reducible rfl)
              try simp only [Act.put, List.setIfInBounds_toArray, List.set_cons_zero, List.set_cons_succ]
              refine wpAnyH_take (i := 29) (oi := { dst := some 107, op := Op.move (Operand.tmp 9), type := 3, pos := "law.go:143", after := #[{ on := 16, ground := Ground.guard }], guard := some (16, false) }) (v := ?_) rfl (by kernel_rfl) (by kernel_rfl) (by kernel_rfl) (fun _ _ _ h => h) (Or.inl ⟨by rfl, ?_⟩) (by assumption) ?_
              rotate_left
              · (intro w' hSw; (try dsimp only at hSw); go_simp; try with_reducible rfl)
              try simp only [Act.put, List.setIfInBounds_toArray, List.set_cons_zero, List.set_cons_succ]
              refine wpAnyH_take (i := 30) (oi := { dst := some 108, op := Op.indexAddr 23 (Operand.tmp 106) (Operand.tmp 107), type := 0, pos := "law.go:143", after := #[{ on := 28, ground := Ground.data }, { on := 29, ground := Ground.data }, { on := 16, ground := Ground.guard }], guard := some (16, false) }) (v := ?_) rfl (by kernel_rfl) (by kernel_rfl) (by kernel_rfl) (fun _ _ _ h => h) (Or.inl ⟨by rfl, ?_⟩) (by assumption) ?_
              rotate_left
              · (intro w' hSw; (try dsimp only at hSw); go_simp; try with_reducible rfl)
              try simp only [Act.put, List.setIfInBounds_toArray, List.set_cons_zero, List.set_cons_succ]
              refine wpAnyH_take (i := 31) (oi := { dst := some 109, op := Op.load 22 (Operand.tmp 108), type := 22, pos := "law.go:143", after := #[{ on := 30, ground := Ground.data }, { on := 16, ground := Ground.guard }], guard := some (16, false) }) (v := ?_) rfl (by kernel_rfl) (by kernel_rfl) (by kernel_rfl) (fun _ _ _ h => h) (Or.inl ⟨by rfl, ?_⟩) (by assumption) ?_
              rotate_left
              · (intro w' hSw; (try dsimp only at hSw); go_simp; try with_reducible rfl)
              try simp only [Act.put, List.setIfInBounds_toArray, List.set_cons_zero, List.set_cons_succ]
              refine wpAnyH_take (i := 32) (oi := { dst := some 110, op := Op.move (Operand.tmp 8), type := 23, pos := "law.go:143", after := #[{ on := 16, ground := Ground.guard }], guard := some (16, false) }) (v := ?_) rfl (by kernel_rfl) (by kernel_rfl) (by kernel_rfl) (fun _ _ _ h => h) (Or.inl ⟨by rfl, ?_⟩) (by assumption) ?_
              rotate_left
              · (intro w' hSw; (try dsimp only at hSw); go_simp; try with_reducible rfl)
              try simp only [Act.put, List.setIfInBounds_toArray, List.set_cons_zero, List.set_cons_succ]
              refine wpAnyH_take (i := 33) (oi := { dst := some 111, op := Op.move (Operand.tmp 12), type := 3, pos := "law.go:143", after := #[{ on := 16, ground := Ground.guard }], guard := some (16, false) }) (v := ?_) rfl (by kernel_rfl) (by kernel_rfl) (by kernel_rfl) (fun _ _ _ h => h) (Or.inl ⟨by rfl, ?_⟩) (by assumption) ?_
              rotate_left
              · (intro w' hSw; (try dsimp only at hSw); go_simp; try with_reducible rfl)
              try simp only [Act.put, List.setIfInBounds_toArray, List.set_cons_zero, List.set_cons_succ]
              refine wpAnyH_take (i := 34) (oi := { dst := some 112, op := Op.indexAddr 23 (Operand.tmp 110) (Operand.tmp 111), type := 0, pos := "law.go:143", after := #[{ on := 32, ground := Ground.data }, { on := 33, ground := Ground.data }, { on := 16, ground := Ground.guard }], guard := some (16, false) }) (v := ?_) rfl (by kernel_rfl) (by kernel_rfl) (by kernel_rfl) (fun _ _ _ h => h) (Or.inl ⟨by rfl, ?_⟩) (by assumption) ?_
              rotate_left
              · (intro w' hSw; (try dsimp only at hSw); go_simp; try with_reducible rfl)
              try simp only [Act.put, List.setIfInBounds_toArray, List.set_cons_zero, List.set_cons_succ]
              refine wpAnyH_take (i := 35) (oi := { dst := some 113, op := Op.load 22 (Operand.tmp 112), type := 22, pos := "law.go:143", after := #[{ on := 34, ground := Ground.data }, { on := 16, ground := Ground.guard }], guard := some (16, false) }) (v := ?_) rfl (by kernel_rfl) (by kernel_rfl) (by kernel_rfl) (fun _ _ _ h => h) (Or.inl ⟨by rfl, ?_⟩) (by assumption) ?_
              rotate_left
              · (intro w' hSw; (try dsimp only at hSw); go_simp; try with_reducible rfl)
              try simp only [Act.put, List.setIfInBounds_toArray, List.set_cons_zero, List.set_cons_succ]
              refine wpAnyH_ready (rs := [26]) (by kernel_rfl) (by simp) ?_
              refine AllReadyH.cons (o := { dst := some 104, op := Op.call { callee := Callee.value (Operand.func 25), args := #[Operand.tmp 95, Operand.tmp 99, Operand.tmp 103, Operand.const (Value.int IntKind.i64 4)], argTypes := #[24, 22, 22, 3] }, type := 4, pos := "law.go:143", after := #[{ on := 17, ground := Ground.data }, { on := 21, ground := Ground.data }, { on := 25, ground := Ground.data }, { on := 16, ground := Ground.chain }, { on := 16, ground := Ground.guard }], guard := some (16, false) }) rfl (fun K hK => ?_) AllReadyH.nil
              go_simp
              go_at_call 25
              refine (HS4.out _ Hxc.out).mono ?_
              rintro e xd ⟨rfl, hb⟩
              have Hxd : Hid (Below x2.heap.size x2 xd) := Lib.hid hb
              clear hb
              refine hK.out _ _ ⟨(HWI.out _ Hxd.out).1, (HWJ.out _ Hxd.out).1⟩ (fun hSxd => ?_)
              clear hK K hSxc
              try simp only [Act.put, List.setIfInBounds_toArray, List.set_cons_zero, List.set_cons_succ]
              refine wpAnyH_ready (rs := [36]) (by kernel_rfl) (by simp) ?_
              refine AllReadyH.cons (o := { dst := some 114, op := Op.call { callee := Callee.value (Operand.func 23), args := #[Operand.tmp 105, Operand.tmp 109, Operand.tmp 113], argTypes := #[24, 22, 22] }, type := 3, pos := "law.go:143", after := #[{ on := 27, ground := Ground.data }, { on := 31, ground := Ground.data }, { on := 35, ground := Ground.data }, { on := 26, ground := Ground.chain }, { on := 16, ground := Ground.guard }], guard := some (16, false) }) rfl (fun K hK => ?_) AllReadyH.nil
              go_simp
              go_at_call 23
              refine (HCR.out _ Hxd.out).mono ?_
              rintro e xe ⟨rfl, hb⟩
              have Hxe : Hid (Below x2.heap.size x2 xe) := Lib.hid hb
              clear hb
              refine hK.out _ _ ⟨(HWI.out _ Hxe.out).1, (HWJ.out _ Hxe.out).1⟩ (fun hSxe => ?_)
              clear hK K hSxd
              try simp only [Act.put, List.setIfInBounds_toArray, List.set_cons_zero, List.set_cons_succ]
              refine wpAnyH_take (i := 37) (oi := { dst := some 115, op := Op.binOp BinOp.eql 3 (Operand.tmp 114) (Operand.const (Value.int IntKind.i64 0)) 3, type := 4, pos := "law.go:143", after := #[{ on := 36, ground := Ground.data }, { on := 16, ground := Ground.guard }], guard := some (16, false) }) (v := ?_) rfl (by kernel_rfl) (by kernel_rfl) (by kernel_rfl) (fun _ _ _ h => h) (Or.inl ⟨by rfl, ?_⟩) (by assumption) ?_
              rotate_left
              · (intro w' hSw; (try dsimp only at hSw); go_simp; try with_reducible rfl)
              try simp only [Act.put, List.setIfInBounds_toArray, List.set_cons_zero, List.set_cons_succ]
              refine wpAnyH_take (i := 38) (oi := { dst := some 116, op := Op.binOp BinOp.neq 4 (Operand.tmp 104) (Operand.tmp 115) 4, type := 4, pos := "law.go:143", after := #[{ on := 26, ground := Ground.data }, { on := 37, ground := Ground.data }, { on := 16, ground := Ground.guard }], guard := some (16, false) }) (v := ?_) rfl (by kernel_rfl) (by kernel_rfl) (by kernel_rfl) (fun _ _ _ h => h) (Or.inl ⟨by rfl, ?_⟩) (by assumption) ?_
              rotate_left
              · (intro w' hSw; (try dsimp only at hSw); go_simp; try with_reducible rfl)
              try simp only [Act.put, List.setIfInBounds_toArray, List.set_cons_zero, List.set_cons_succ]
              refine wpAnyH_take (i := 39) (oi := { dst := some 117, op := Op.pick (Operand.tmp 94) (Operand.const (Value.bool true)) (Operand.tmp 116), type := 4, pos := "law.go:143", after := #[{ on := 16, ground := Ground.data }, { on := 38, ground := Ground.data }], guard := none }) (v := ?_) rfl (by kernel_rfl) (by kernel_rfl) (by kernel_rfl) (fun _ _ _ h => h) (Or.inl ⟨by rfl, ?_⟩) (by assumption) ?_
              rotate_left
              · (intro w' hSw; (try dsimp only at hSw); go_simp; try with_reducible rfl)
              try simp only [Act.put, List.setIfInBounds_toArray, List.set_cons_zero, List.set_cons_succ]
              refine wpAnyH_done (by kernel_rfl) ?_ _
              go_wp2_with fail
              go_loopg [14] 3 (fun g s14 wr => ∃ (n : Nat), n + g = 5 ∧ 2 ≤ n ∧ s14 = .int .i64 (n : Int) ∧ Hid (Below x2.heap.size x2 wr))
              case atStart => exact ⟨2, by omega, by omega, rfl, Lib.hid Hxe.out⟩
              case round =>
                obtain ⟨n, hn, hn2, rfl, HN⟩ := hrel
                by_cases hn4 : n ≤ 4
                · obtain ⟨g, rfl⟩ : ∃ g, gk = g + 1 := ⟨gk - 1, by omega⟩
                  have e1 : decide ((n : Int) ≤ 4) = true := decide_eq_true (by omega)
                  have e2 : decide (n ≤ 4) = true := decide_eq_true hn4
                  have l1 : ∀ p : Wo (Below x2.heap.size x2), p.wo.cell? ⟨b4, o4 + i, none⟩ = some (.slice Ai ni ci) := fun p => (HWI.out _ p.ok).1
                  have l2 : ∀ p : Wo (Below x2.heap.size x2), p.wo.cell? ⟨b4, o4 + j, none⟩ = some (.slice Aj nj cj) := fun p => (HWJ.out _ p.ok).1
                  by_cases hz : cmpU L (ws.getD i []) (ws.getD j []) 0 n = 0
                  · have HN1 : Hid (∀ W, Below x2.heap.size x2 W → Calls Try.prog 25 #[.slice (some ⟨b, o, none⟩) q cq, .slice Ai ni ci, .slice Aj nj cj, .int .i64 (n : Int)] W fun e w' => e = .returned (.bool true) ∧ Below x2.heap.size x2 w') := Lib.hid fun W hb => HSM.out _ _ _ _ _ _ _ _ n (n : Int) true W rfl (by omega) (by omega) hb (HWI.out W hb).2 (HWJ.out W hb).2 (decide_eq_true hz).symm
                    have HN2 : Hid (∀ W, Below x2.heap.size x2 W → Calls Try.prog 25 #[.slice (some ⟨b, o, none⟩) q cq, .slice Ai ni ci, .slice Aj nj cj, .int .i64 ((n : Int) - 1)] W fun e w' => e = .returned (.bool true) ∧ Below x2.heap.size x2 w') := Lib.hid fun W hb => HSM.out _ _ _ _ _ _ _ _ (n - 1) ((n : Int) - 1) true W (by omega) (by omega) (by omega) hb (HWI.out W hb).2 (HWJ.out W hb).2 (decide_eq_true (cmp_lower L _ _ (by omega) hz)).symm
                    clear hz
                    go_wp2_with fail
                    haveI : Nonempty (Wo (Below x2.heap.size x2)) := ⟨⟨wr, HN.out⟩⟩
                    refine wp_region_wo (Below x2.heap.size x2) mixedTry (by kernel_rfl) (below_drewN HN.out 1) ?_
                    iterate 11 (go_big_quiet_step ((go_at_call 25; exact calls_wo HN1.out _)))
                    repeat (go_big_quiet_step ((go_at_call 25; exact calls_wo HN2.out _)))
                    refine wpQuiet_nil ?_
                    intro xf hw2
                    obtain ⟨⟨xfx, hok⟩, hw3⟩ := hw2
                    have hw4 : xf = xfx := hw3
                    subst hw4
                    have Hxf := Lib.hid hok
                    clear hw3 hok
                    go_wp2_with fail
                    go_roundg g
                    case rel => exact ⟨n + 1, by omega, by omega, by go_num, Lib.hid Hxf.out⟩
                    case measure => omega
                  · have HN1 : Hid (∀ W, Below x2.heap.size x2 W → Calls Try.prog 25 #[.slice (some ⟨b, o, none⟩) q cq, .slice Ai ni ci, .slice Aj nj cj, .int .i64 (n : Int)] W fun e w' => e = .returned (.bool false) ∧ Below x2.heap.size x2 w') := Lib.hid fun W hb => HSM.out _ _ _ _ _ _ _ _ n (n : Int) false W rfl (by omega) (by omega) hb (HWI.out W hb).2 (HWJ.out W hb).2 (decide_eq_false hz).symm
                    clear hz
                    go_wp2_with fail
                    haveI : Nonempty (Wo (Below x2.heap.size x2)) := ⟨⟨wr, HN.out⟩⟩
                    refine wp_region_wo (Below x2.heap.size x2) mixedTry (by kernel_rfl) (below_drewN HN.out 1) ?_
                    repeat (go_big_quiet_step ((go_at_call 25; exact calls_wo HN1.out _)))
                    refine wpQuiet_nil ?_
                    intro xf hw2
                    obtain ⟨⟨xfx, hok⟩, hw3⟩ := hw2
                    have hw4 : xf = xfx := hw3
                    subst hw4
                    have Hxf := Lib.hid hok
                    clear hw3 hok
                    go_wp2_with fail
                    go_roundg g
                    case rel => exact ⟨n + 1, by omega, by omega, by go_num, Lib.hid Hxf.out⟩
                    case measure => omega
                · have e1 : decide ((n : Int) ≤ 4) = false := decide_eq_false (by omega)
                  have e2 : decide (n ≤ 4) = false := decide_eq_false hn4
                  go_wp2_with fail
                  go_roundg g
                  case rel => exact ⟨j + 1, by omega, by go_num, Lib.hid HN.out⟩
                  case measure => omega
          · obtain rfl : j = n4 := by omega
            go_wp2_with fail
            go_roundg g
            case rel => exact ⟨i + 1, by omega, by go_num, Lib.hid (below_next Hx2.out.2.1 HJ.out)⟩
            case measure => omega
      · skip
        have HQ1 : Hid (true = decide (cmpU L (ws.getD i []) (lev L 0 (ws.getD i [])) 0 1 = 0)) := Lib.hid (decide_eq_true ((cmp_one L _ _).2 (lev_fold HV.out _).symm)).symm
        have HQR : Hid (R = cmpU L (lev L 0 (ws.getD i [])) (ws.getD i []) 0 4) := Lib.hid hR
        have d1 : decide (0 < R) = true := decide_eq_true (by omega)
        have HQ3 : Hid (true = decide (cmpU L (lev L 0 (ws.getD i [])) (ws.getD i []) 0 3 = 0)) := Lib.hid (decide_eq_true (by rcases fold_le HV.out (ws.getD i []) with h | h <;> omega)).symm
        clear hR hRc
        go_wp2_with (first
          | ((with_reducible refine HLV0.out.mono ?_); rintro e x1 hp; obtain ⟨Ax, nx, cx, rfl, hwd, hb⟩ := hp; have Hx1 : Hid (Below w4.heap.size w4 x1 ∧ WdR x1 (lev L 3 (ws.getD i [])) Ax nx cx) := Lib.hid ⟨below_next HI.out hb, hwd⟩; have hnx : nx ≤ cx := hwd.cap; have hnx2 : cx ≤ 9223372036854775807 := (by have := hwd.max; unfold maxLen at this; omega); clear hwd hb)
          | ((with_reducible refine (HFO0.out _ _ _ _ _ Hx1.out.1 Hx1.out.2).mono ?_); rintro e x2 hp; obtain ⟨Af, nf, cf, rfl, hwd, hb⟩ := hp; have Hx2 : Hid (Below x2.heap.size x2 x2 ∧ Below w4.heap.size w4 x2 ∧ WdR x2 (lev L 0 (ws.getD i [])) Af nf cf) := Lib.hid ⟨Below.refl _ _, below_next Hx1.out.1 hb, hwd⟩; have hcc0 := (HWI0.out _ Hx2.out.2.1).1; clear hwd hb)
          | ((with_reducible refine (HS0.out (ws.getD i []) (lev L 0 (ws.getD i [])) _ _ _ _ _ _ 1 1 true _ rfl (by omega) (by omega) Hx2.out.2.1 (HWI0.out _ Hx2.out.2.1).2 Hx2.out.2.2 HQ1.out).mono ?_); rintro e y1 hp; obtain ⟨rfl, hb⟩ := boolb_out hp; have Hy1 : Hid (Below x2.heap.size x2 y1) := Lib.hid hb; have hcc1 := (HWI0.out _ (below_next Hx2.out.2.1 hb)).1; clear hp hb)
          | ((with_reducible refine (HC0.out (lev L 0 (ws.getD i [])) (ws.getD i []) _ _ _ _ _ _ R _ (below_next Hx2.out.2.1 Hy1.out) (Hx2.out.2.2.below Hy1.out) (HWI0.out _ (below_next Hx2.out.2.1 Hy1.out)).2 HQR.out).mono ?_); rintro e y2 hp; obtain ⟨rfl, hb⟩ := i_out hp; have Hy2 : Hid (Below x2.heap.size x2 y2) := Lib.hid (below_next Hy1.out hb); have hcc2 := (HWI0.out _ (below_next Hx2.out.2.1 Hy2.out)).1; clear hp hb)
          | ((with_reducible refine (HS0.out (lev L 0 (ws.getD i [])) (ws.getD i []) _ _ _ _ _ _ 3 3 true _ rfl (by omega) (by omega) (below_next Hx2.out.2.1 Hy2.out) (Hx2.out.2.2.below Hy2.out) (HWI0.out _ (below_next Hx2.out.2.1 Hy2.out)).2 HQ3.out).mono ?_); rintro e y3 hp; obtain ⟨rfl, hb⟩ := boolb_out hp; have Hy3 : Hid (Below x2.heap.size x2 y3) := Lib.hid (below_next Hy2.out hb); clear hp hb))
        clear hcc0 hcc1 hcc2 d1
        have HWF : Hid (∀ W, Below x2.heap.size x2 W → WdR W (lev L 0 (ws.getD i [])) Af nf cf) := Lib.hid fun W hb => Hx2.out.2.2.below hb
        have HWI : Hid (∀ W, Below x2.heap.size x2 W → W.cell? ⟨b4, o4 + i, none⟩ = some (.slice Ai ni ci) ∧ WdR W (ws.getD i []) Ai ni ci) := Lib.hid fun W hb => HWI0.out W (below_next Hx2.out.2.1 hb)
        have HWA2 : Hid (∀ k, k < n4 → ∃ A n c, Hid (∀ W, Below x2.heap.size x2 W → W.cell? ⟨b4, o4 + k, none⟩ = some (.slice A n c) ∧ WdR W (ws.getD k []) A n c)) := Lib.hid fun k hk => by
          obtain ⟨A, n, c, h⟩ := HWA.out k hk
          exact ⟨A, n, c, Lib.hid fun W hb => h.out W (below_next Hx2.out.2.1 hb)⟩
        have HCO : Hid (∀ (x y : List Int) (A1 A2 : Option Addr) (n1 c1 n2 c2 : Nat) (R : Int) (W : World), Below x2.heap.size x2 W → WdR W x A1 n1 c1 → WdR W y A2 n2 c2 → R = cmpU L x y 0 4 → Calls Try.prog 23 #[.slice (some ⟨b, o, none⟩) q cq, .slice A1 n1 c1, .slice A2 n2 c2] W fun e w' => e = .returned (.int .i64 R) ∧ Below x2.heap.size x2 w') := Lib.hid fun x y A1 A2 n1 c1 n2 c2 R W hb hx hy hR => (compare_any L _ A1 A2 q cq n1 c1 n2 c2 x y R (by rw [cmpP_yes HV.out, hR]) W (H5.out.1.below (below_next Hx2.out.2.1 hb)) hx hy).mono fun e w' hp => ⟨hp.1, below_next hb hp.2⟩
        have HSM2 : Hid (∀ (x y : List Int) (A1 A2 : Option Addr) (n1 c1 n2 c2 n : Nat) (m : Int) (V : Bool) (W : World), m = (n : Int) → 1 ≤ n → n ≤ 4 → Below x2.heap.size x2 W → WdR W x A1 n1 c1 → WdR W y A2 n2 c2 → V = decide (cmpU L x y 0 n = 0) → Calls Try.prog 25 #[.slice (some ⟨b, o, none⟩) q cq, .slice A1 n1 c1, .slice A2 n2 c2, .int .i64 m] W (BoolB W V)) := Lib.hid fun x y A1 A2 n1 c1 n2 c2 n m V W hm h1 h4 hb hx hy hV => same_any' L _ A1 A2 q cq n1 c1 n2 c2 m x y V (by
          rw [hV, hm]; unfold sameP; rw [Int.toNat_natCast]
          exact decide_eq_decide.2 ⟨fun h => ⟨HV.out, ⟨by omega, by omega⟩, h⟩, fun h => h.2.2⟩) W (H5.out.1.below (below_next Hx2.out.2.1 hb)) hx hy
        have HSM : Hid (∀ (x y : List Int) (A1 A2 : Option Addr) (n1 c1 n2 c2 n : Nat) (m : Int) (V : Bool) (W : World), m = (n : Int) → 1 ≤ n → n ≤ 4 → Below x2.heap.size x2 W → WdR W x A1 n1 c1 → WdR W y A2 n2 c2 → V = decide (cmpU L x y 0 n = 0) → Calls Try.prog 25 #[.slice (some ⟨b, o, none⟩) q cq, .slice A1 n1 c1, .slice A2 n2 c2, .int .i64 m] W fun e w' => e = .returned (.bool V) ∧ Below x2.heap.size x2 w') := Lib.hid fun x y A1 A2 n1 c1 n2 c2 n m V W hm h1 h4 hb hx hy hV => (HSM2.out x y A1 A2 n1 c1 n2 c2 n m V W hm h1 h4 hb hx hy hV).mono fun e w' hp => by
          obtain ⟨he, hb2⟩ := boolb_out hp
          exact ⟨he, below_next hb hb2⟩
        have HLV : Hid (∀ (x : List Int) (A1 : Option Addr) (n1 c1 : Nat) (W : World), Below x2.heap.size x2 W → WdR W x A1 n1 c1 → Calls Try.prog 32 #[.slice (some ⟨b, o, none⟩) q cq, .slice A1 n1 c1, .int .i64 4] W fun e w' => ∃ A3 n3 c3, e = .returned (.slice A3 n3 c3) ∧ WdR w' (lev L 3 x) A3 n3 c3 ∧ Below W.heap.size W w') := Lib.hid fun x A1 n1 c1 W hb hx => level_wd (H5.out.1.below (below_next Hx2.out.2.1 hb)) hx 3 (by omega) 4 rfl
        have HFO : Hid (∀ (v : List Int) (A1 : Option Addr) (n1 c1 : Nat) (W : World), Below x2.heap.size x2 W → WdR W (lev L 3 v) A1 n1 c1 → Calls Try.prog 33 #[.slice (some ⟨b, o, none⟩) q cq, .slice A1 n1 c1] W fun e w' => ∃ A3 n3 c3, e = .returned (.slice A3 n3 c3) ∧ WdR w' (lev L 0 v) A3 n3 c3 ∧ Below W.heap.size W w') := Lib.hid fun v A1 n1 c1 W hb h1 => HFO0.out v A1 n1 c1 W (below_next Hx2.out.2.1 hb) h1
        go_loopg [12, 13, 14] n4 (fun g s12 s13 s14 wr => ∃ (j : Nat), j + g = n4 ∧ s12 = .int .i64 (j : Int) ∧ Hid (Below x2.heap.size x2 wr))
        case atStart => exact ⟨0, by omega, rfl, Lib.hid Hy3.out⟩
        case round =>
          obtain ⟨j, hj, rfl, HJ⟩ := hrel
          by_cases hltj : j < n4
          · obtain ⟨g, rfl⟩ : ∃ g, gk = g + 1 := ⟨gk - 1, by omega⟩
            obtain ⟨Aj, nj, cj, HWJ⟩ := HWA2.out j hltj
            have hcj := (HWJ.out _ HJ.out).1
            obtain ⟨R2, hx⟩ : ∃ R, R = cmpU L (ws.getD i []) (ws.getD j []) 0 4 := ⟨_, rfl⟩
            obtain ⟨V1, hV1⟩ : ∃ V, V = decide (cmpU L (ws.getD i []) (ws.getD j []) 0 1 = 0) := ⟨_, rfl⟩
            obtain ⟨V4, hV4⟩ : ∃ V, V = decide (R2 = 0) := ⟨_, rfl⟩
            as_aux_lemma =>
              have HS1 : Hid (∀ W, Below x2.heap.size x2 W → Calls Try.prog 25 #[.slice (some ⟨b, o, none⟩) q cq, .slice Ai ni ci, .slice Aj nj cj, .int .i64 1] W fun e w' => e = .returned (.bool V1) ∧ Below x2.heap.size x2 w') := Lib.hid fun W hb => HSM.out _ _ _ _ _ _ _ _ 1 1 V1 W rfl (by omega) (by omega) hb (HWI.out W hb).2 (HWJ.out W hb).2 hV1
              have HS4 : Hid (∀ W, Below x2.heap.size x2 W → Calls Try.prog 25 #[.slice (some ⟨b, o, none⟩) q cq, .slice Ai ni ci, .slice Aj nj cj, .int .i64 4] W fun e w' => e = .returned (.bool V4) ∧ Below x2.heap.size x2 w') := Lib.hid fun W hb => HSM.out _ _ _ _ _ _ _ _ 4 4 V4 W rfl (by omega) (by omega) hb (HWI.out W hb).2 (HWJ.out W hb).2 (by rw [hV4, hx])
              have HCR : Hid (∀ W, Below x2.heap.size x2 W → Calls Try.prog 23 #[.slice (some ⟨b, o, none⟩) q cq, .slice Ai ni ci, .slice Aj nj cj] W fun e w' => e = .returned (.int .i64 R2) ∧ Below x2.heap.size x2 w') := Lib.hid fun W hb => HCO.out _ _ _ _ _ _ _ _ R2 W hb (HWI.out W hb).2 (HWJ.out W hb).2 hx
              have HVF : Hid (V1 = decide (lev L 0 (ws.getD i []) = lev L 0 (ws.getD j []))) := Lib.hid (by rw [hV1]; exact decide_eq_decide.2 (cmp_one L _ _))
              have hq1 : (R2 == 0) = V4 := by rw [hV4]; rfl
              have hq2 : decide (R2 = 0) = V4 := hV4.symm
              clear hx hV1 hV4
              go_wp2_with ((with_reducible refine (HLV.out _ _ _ _ wr HJ.out (HWJ.out wr HJ.out).2).mono ?_); rintro e x1 hp; obtain ⟨Ay, ny, cy, rfl, hwd, hb⟩ := hp; have Hx1 : Hid (Below x2.heap.size x2 x1 ∧ WdR x1 (lev L 3 (ws.getD j [])) Ay ny cy) := Lib.hid ⟨below_next HJ.out hb, hwd⟩; clear hwd hb)
              have hci9 := (HWI.out _ Hx1.out.1).1
              have hcj9 := (HWJ.out _ Hx1.out.1).1
              refine wp_region_held_drew (S := fun W' => W'.cell? ⟨b4, o4 + i, none⟩ = some (.slice Ai ni ci) ∧ W'.cell? ⟨b4, o4 + j, none⟩ = some (.slice Aj nj cj)) (by kernel_rfl) (⟨hci9, hcj9⟩) (fun hS0 => ?_)
              refine wpAnyH_take (i := 0) (oi := { dst := some 78, op := Op.move (Operand.tmp 7), type := 24, pos := "law.go:143", after := #[], guard := none }) (v := ?_) rfl (by kernel_rfl) (by kernel_rfl) (by kernel_rfl) (fun _ _ _ h => h) (Or.inl ⟨by rfl, ?_⟩) (by assumption) ?_
              rotate_left
              · (intro w' hSw; (try dsimp only at hSw); go_simp; try with_reducible rfl)
              try simp only [Act.put, List.setIfInBounds_toArray, List.set_cons_zero, List.set_cons_succ]
              refine wpAnyH_take (i := 1) (oi := { dst := some 79, op := Op.move (Operand.tmp 8), type := 23, pos := "law.go:143", after := #[], guard := none }) (v := ?_) rfl (by kernel_rfl) (by kernel_rfl) (by kernel_rfl) (fun _ _ _ h => h) (Or.inl ⟨by rfl, ?_⟩) (by assumption) ?_
              rotate_left
              · (intro w' hSw; (try dsimp only at hSw); go_simp; try with_reducible rfl)
              try simp only [Act.put, List.setIfInBounds_toArray, List.set_cons_zero, List.set_cons_succ]
              refine wpAnyH_take (i := 2) (oi := { dst := some 80, op := Op.move (Operand.tmp 9), type := 3, pos := "law.go:143", after := #[], guard := none }) (v := ?_) rfl (by kernel_rfl) (by kernel_rfl) (by kernel_rfl) (fun _ _ _ h => h) (Or.inl ⟨by rfl, ?_⟩) (by assumption) ?_
              rotate_left
              · (intro w' hSw; (try dsimp only at hSw); go_simp; try with_reducible rfl)
              try simp only [Act.put, List.setIfInBounds_toArray, List.set_cons_zero, List.set_cons_succ]
              refine wpAnyH_take (i := 3) (oi := { dst := some 81, op := Op.indexAddr 23 (Operand.tmp 79) (Operand.tmp 80), type := 0, pos := "law.go:143", after := #[{ on := 1, ground := Ground.data }, { on := 2, ground := Ground.data }], guard := none }) (v := ?_) rfl (by kernel_rfl) (by kernel_rfl) (by kernel_rfl) (fun _ _ _ h => h) (Or.inl ⟨by rfl, ?_⟩) (by assumption) ?_
              rotate_left
              · (intro w' hSw; (try dsimp only at hSw); go_simp; try with_reducible rfl)
              try simp only [Act.put, List.setIfInBounds_toArray, List.set_cons_zero, List.set_cons_succ]
              refine wpAnyH_take (i := 4) (oi := { dst := some 82, op := Op.load 22 (Operand.tmp 81), type := 22, pos := "law.go:143", after := #[{ on := 3, ground := Ground.data }], guard := none }) (v := ?_) rfl (by kernel_rfl) (by kernel_rfl) (by kernel_rfl) (fun _ _ _ h => h) (Or.inl ⟨by rfl, ?_⟩) (by assumption) ?_
              rotate_left
              · (intro w' hSw; (try dsimp only at hSw); go_simp; try with_reducible rfl)
              try simp only [Act.put, List.setIfInBounds_toArray, List.set_cons_zero, List.set_cons_succ]
              refine wpAnyH_take (i := 5) (oi := { dst := some 83, op := Op.move (Operand.tmp 8), type := 23, pos := "law.go:143", after := #[], guard := none }) (v := ?_) rfl (by kernel_rfl) (by kernel_rfl) (by kernel_rfl) (fun _ _ _ h => h) (Or.inl ⟨by rfl, ?_⟩) (by assumption) ?_
              rotate_left
              · (intro w' hSw; (try dsimp only at hSw); go_simp; try with_reducible rfl)
              try simp only [Act.put, List.setIfInBounds_toArray, List.set_cons_zero, List.set_cons_succ]
              refine wpAnyH_take (i := 6) (oi := { dst := some 84, op := Op.move (Operand.tmp 12), type := 3, pos := "law.go:143", after := #[], guard := none }) (v := ?_) rfl (by kernel_rfl) (by kernel_rfl) (by kernel_rfl) (fun _ _ _ h => h) (Or.inl ⟨by rfl, ?_⟩) (by assumption) ?_
              rotate_left
              · (intro w' hSw; (try dsimp only at hSw); go_simp; try with_reducible rfl)
              try simp only [Act.put, List.setIfInBounds_toArray, List.set_cons_zero, List.set_cons_succ]
              refine wpAnyH_take (i := 7) (oi := { dst := some 85, op := Op.indexAddr 23 (Operand.tmp 83) (Operand.tmp 84), type := 0, pos := "law.go:143", after := #[{ on := 5, ground := Ground.data }, { on := 6, ground := Ground.data }], guard := none }) (v := ?_) rfl (by kernel_rfl) (by kernel_rfl) (by kernel_rfl) (fun _ _ _ h => h) (Or.inl ⟨by rfl, ?_⟩) (by assumption) ?_
              rotate_left
              · (intro w' hSw; (try dsimp only at hSw); go_simp; try with_reducible rfl)
              try simp only [Act.put, List.setIfInBounds_toArray, List.set_cons_zero, List.set_cons_succ]
              refine wpAnyH_take (i := 8) (oi := { dst := some 86, op := Op.load 22 (Operand.tmp 85), type := 22, pos := "law.go:143", after := #[{ on := 7, ground := Ground.data }], guard := none }) (v := ?_) rfl (by kernel_rfl) (by kernel_rfl) (by kernel_rfl) (fun _ _ _ h => h) (Or.inl ⟨by rfl, ?_⟩) (by assumption) ?_
              rotate_left
              · (intro w' hSw; (try dsimp only at hSw); go_simp; try with_reducible rfl)
              try simp only [Act.put, List.setIfInBounds_toArray, List.set_cons_zero, List.set_cons_succ]
              refine wpAnyH_take (i := 10) (oi := { dst := some 88, op := Op.move (Operand.tmp 11), type := 22, pos := "law.go:143", after := #[], guard := none }) (v := ?_) rfl (by kernel_rfl) (by kernel_rfl) (by kernel_rfl) (fun _ _ _ h => h) (Or.inl ⟨by rfl, ?_⟩) (by assumption) ?_
              rotate_left
              · (intro w' hSw; (try dsimp only at hSw); go_simp; try with_reducible rfl)
              try simp only [Act.put, List.setIfInBounds_toArray, List.set_cons_zero, List.set_cons_succ]
              refine wpAnyH_take (i := 11) (oi := { dst := some 89, op := Op.move (Operand.tmp 7), type := 24, pos := "law.go:143", after := #[], guard := none }) (v := ?_) rfl (by kernel_rfl) (by kernel_rfl) (by kernel_rfl) (fun _ _ _ h => h) (Or.inl ⟨by rfl, ?_⟩) (by assumption) ?_
              rotate_left
              · (intro w' hSw; (try dsimp only at hSw); go_simp; try with_reducible rfl)
              try simp only [Act.put, List.setIfInBounds_toArray, List.set_cons_zero, List.set_cons_succ]
              refine wpAnyH_take (i := 12) (oi := { dst := some 90, op := Op.move (Operand.tmp 13), type := 22, pos := "law.go:143", after := #[], guard := none }) (v := ?_) rfl (by kernel_rfl) (by kernel_rfl) (by kernel_rfl) (fun _ _ _ h => h) (Or.inl ⟨by rfl, ?_⟩) (by assumption) ?_
              rotate_left
              · (intro w' hSw; (try dsimp only at hSw); go_simp; try with_reducible rfl)
              try simp only [Act.put, List.setIfInBounds_toArray, List.set_cons_zero, List.set_cons_succ]
              refine wpAnyH_ready (rs := [9]) (by kernel_rfl) (by simp) ?_
              refine AllReadyH.cons (o := { dst := some 87, op := Op.call { callee := Callee.value (Operand.func 25), args := #[Operand.tmp 78, Operand.tmp 82, Operand.tmp 86, Operand.const (Value.int IntKind.i64 1)], argTypes := #[24, 22, 22, 3] }, type := 4, pos := "law.go:143", after := #[{ on := 0, ground := Ground.data }, { on := 4, ground := Ground.data }, { on := 8, ground := Ground.data }], guard := none }) rfl (fun K hK => ?_) AllReadyH.nil
              go_simp
              go_at_call 25
              refine (HSM2.out _ _ _ _ _ _ _ _ 1 1 V1 _ rfl (by omega) (by omega) (below_drewN Hx1.out.1 1) (HWI.out _ (below_drewN Hx1.out.1 1)).2 (HWJ.out _ (below_drewN Hx1.out.1 1)).2 (by rw [HVF.out]; exact decide_eq_decide.2 (cmp_one L _ _).symm)).mono ?_
              rintro e xa hp
              obtain ⟨rfl, hb⟩ := boolb_out hp
              have Hxa : Hid (Below x2.heap.size x2 xa ∧ WdR xa (lev L 3 (ws.getD j [])) Ay ny cy) := Lib.hid ⟨below_next (below_drewN Hx1.out.1 1) hb, (Hx1.out.2.below (below_drewN (Below.refl _ _) 1)).below hb⟩
              clear hp hb
              refine hK.out _ _ ⟨(HWI.out _ Hxa.out.1).1, (HWJ.out _ Hxa.out.1).1⟩ (fun hSxa => ?_)
              clear hK K hS0
              try simp only [Act.put, List.setIfInBounds_toArray, List.set_cons_zero, List.set_cons_succ]
              refine wpAnyH_ready (rs := [13]) (by kernel_rfl) (by simp) ?_
              refine AllReadyH.cons (o := { dst := some 91, op := Op.call { callee := Callee.value (Operand.func 33), args := #[Operand.tmp 89, Operand.tmp 90], argTypes := #[24, 22] }, type := 22, pos := "law.go:143", after := #[{ on := 11, ground := Ground.data }, { on := 12, ground := Ground.data }, { on := 9, ground := Ground.chain }], guard := none }) rfl (fun K hK => ?_) AllReadyH.nil
              go_simp
              go_at_call 33
              refine (HFO.out _ _ _ _ _ Hxa.out.1 Hxa.out.2).mono ?_
              rintro e xb hp
              obtain ⟨Ag, ng, cg, rfl, hwd, hb⟩ := hp
              have Hxb : Hid (Below x2.heap.size x2 xb ∧ WdR xb (lev L 0 (ws.getD j [])) Ag ng cg) := Lib.hid ⟨below_next Hxa.out.1 hb, hwd⟩
              clear hwd hb
              refine hK.out _ _ ⟨(HWI.out _ Hxb.out.1).1, (HWJ.out _ Hxb.out.1).1⟩ (fun hSxb => ?_)
              clear hK K hSxa
              try simp only [Act.put, List.setIfInBounds_toArray, List.set_cons_zero, List.set_cons_succ]
              refine wpAnyH_ready (rs := [14]) (by kernel_rfl) (by simp) ?_
              refine AllReadyH.cons (o := { dst := some 92, op := Op.call { callee := Callee.value (Operand.func 17), args := #[Operand.tmp 88, Operand.tmp 91], argTypes := #[22, 22] }, type := 4, pos := "law.go:143", after := #[{ on := 10, ground := Ground.data }, { on := 13, ground := Ground.data }, { on := 13, ground := Ground.chain }], guard := none }) rfl (fun K hK => ?_) AllReadyH.nil
              go_simp
              go_at_call 17
              refine (same_any (lev L 0 (ws.getD i [])) (lev L 0 (ws.getD j [])) _ _ _ _ _ _ (HWF.out _ Hxb.out.1).len Hxb.out.2.len (by have := (HWF.out _ Hxb.out.1).cap; have := (HWF.out _ Hxb.out.1).max; omega) V1 HVF.out _ (HWF.out _ Hxb.out.1).rd Hxb.out.2.rd).mono ?_
              rintro e xc hp
              obtain ⟨rfl, hb⟩ := boolb_out hp
              have Hxc : Hid (Below x2.heap.size x2 xc) := Lib.hid (below_next Hxb.out.1 hb)
              clear hp hb
              refine hK.out _ _ ⟨(HWI.out _ Hxc.out).1, (HWJ.out _ Hxc.out).1⟩ (fun hSxc => ?_)
              clear hK K hSxb
              try simp only [Act.put, List.setIfInBounds_toArray, List.set_cons_zero, List.set_cons_succ]
              refine wpAnyH_take (i := 15) (oi := { dst := some 93, op := Op.binOp BinOp.neq 4 (Operand.tmp 87) (Operand.tmp 92) 4, type := 4, pos := "law.go:143", after := #[{ on := 9, ground := Ground.data }, { on := 14, ground := Ground.data }], guard := none }) (v := ?_) rfl (by kernel_rfl) (by kernel_rfl) (by kernel_rfl) (fun _ _ _ h => h) (Or.inl ⟨by rfl, ?_⟩) (by assumption) ?_
              rotate_left
              · (intro w' hSw; (try dsimp only at hSw); go_simp; try with_reducible rfl)
              try simp only [Act.put, List.setIfInBounds_toArray, List.set_cons_zero, List.set_cons_succ]
              refine wpAnyH_take (i := 16) (oi := { dst := some 94, op := Op.move (Operand.tmp 93), type := 4, pos := "law.go:143", after := #[{ on := 15, ground := Ground.data }, { on := 14, ground := Ground.chain }], guard := none }) (v := ?_) rfl (by kernel_rfl) (by kernel_rfl) (by kernel_rfl) (fun _ _ _ h => h) (Or.inl ⟨by rfl, ?_⟩) (by assumption) ?_
              rotate_left
              · (intro w' hSw; (try dsimp only at hSw); go_simp; try with_reducible rfl)
              try simp only [Act.put, List.setIfInBounds_toArray, List.set_cons_zero, List.set_cons_succ]
              refine wpAnyH_take (i := 17) (oi := { dst := some 95, op := Op.move (Operand.tmp 7), type := 24, pos := "law.go:143", after := #[{ on := 16, ground := Ground.guard }], guard := some (16, false) }) (v := ?_) rfl (by kernel_rfl) (by kernel_rfl) (by kernel_rfl) (fun _ _ _ h => h) (Or.inl ⟨by rfl, ?_⟩) (by assumption) ?_
              rotate_left
              · (intro w' hSw; (try dsimp only at hSw); go_simp; try with_reducible rfl)
              try simp only [Act.put, List.setIfInBounds_toArray, List.set_cons_zero, List.set_cons_succ]
              refine wpAnyH_take (i := 18) (oi := { dst := some 96, op := Op.move (Operand.tmp 8), type := 23, pos := "law.go:143", after := #[{ on := 16, ground := Ground.guard }], guard := some (16, false) }) (v := ?_) rfl (by kernel_rfl) (by kernel_rfl) (by kernel_rfl) (fun _ _ _ h => h) (Or.inl ⟨by rfl, ?_⟩) (by assumption) ?_
              rotate_left
              · (intro w' hSw; (try dsimp only at hSw); go_simp; try with_reducible rfl)
              try simp only [Act.put, List.setIfInBounds_toArray, List.set_cons_zero, List.set_cons_succ]
              refine wpAnyH_take (i := 19) (oi := { dst := some 97, op := Op.move (Operand.tmp 9), type := 3, pos := "law.go:143", after := #[{ on := 16, ground := Ground.guard }], guard := some (16, false) }) (v := ?_) rfl (by kernel_rfl) (by kernel_rfl) (by kernel_rfl) (fun _ _ _ h => h) (Or.inl ⟨by rfl, ?_⟩) (by assumption) ?_
              rotate_left
              · (intro w' hSw; (try dsimp only at hSw); go_simp; try with_reducible rfl)
              try simp only [Act.put, List.setIfInBounds_toArray, List.set_cons_zero, List.set_cons_succ]
              refine wpAnyH_take (i := 20) (oi := { dst := some 98, op := Op.indexAddr 23 (Operand.tmp 96) (Operand.tmp 97), type := 0, pos := "law.go:143", after := #[{ on := 18, ground := Ground.data }, { on := 19, ground := Ground.data }, { on := 16, ground := Ground.guard }], guard := some (16, false) }) (v := ?_) rfl (by kernel_rfl) (by kernel_rfl) (by kernel_rfl) (fun _ _ _ h => h) (Or.inl ⟨by rfl, ?_⟩) (by assumption) ?_
              rotate_left
              · (intro w' hSw; (try dsimp only at hSw); go_simp; try with_reducible rfl)
              try simp only [Act.put, List.setIfInBounds_toArray, List.set_cons_zero, List.set_cons_succ]
              refine wpAnyH_take (i := 21) (oi := { dst := some 99, op := Op.load 22 (Operand.tmp 98), type := 22, pos := "law.go:143", after := #[{ on := 20, ground := Ground.data }, { on := 16, ground := Ground.guard }], guard := some (16, false) }) (v := ?_) rfl (by kernel_rfl) (by kernel_rfl) (by kernel_rfl) (fun _ _ _ h => h) (Or.inl ⟨by rfl, ?_⟩) (by assumption) ?_
              rotate_left
              · (intro w' hSw; (try dsimp only at hSw); go_simp; try with_reducible rfl)
              try simp only [Act.put, List.setIfInBounds_toArray, List.set_cons_zero, List.set_cons_succ]
              refine wpAnyH_take (i := 22) (oi := { dst := some 100, op := Op.move (Operand.tmp 8), type := 23, pos := "law.go:143", after := #[{ on := 16, ground := Ground.guard }], guard := some (16, false) }) (v := ?_) rfl (by kernel_rfl) (by kernel_rfl) (by kernel_rfl) (fun _ _ _ h => h) (Or.inl ⟨by rfl, ?_⟩) (by assumption) ?_
              rotate_left
              · (intro w' hSw; (try dsimp only at hSw); go_simp; try with_reducible rfl)
              try simp only [Act.put, List.setIfInBounds_toArray, List.set_cons_zero, List.set_cons_succ]
              refine wpAnyH_take (i := 23) (oi := { dst := some 101, op := Op.move (Operand.tmp 12), type := 3, pos := "law.go:143", after := #[{ on := 16, ground := Ground.guard }], guard := some (16, false) }) (v := ?_) rfl (by kernel_rfl) (by kernel_rfl) (by kernel_rfl) (fun _ _ _ h => h) (Or.inl ⟨by rfl, ?_⟩) (by assumption) ?_
              rotate_left
              · (intro w' hSw; (try dsimp only at hSw); go_simp; try with_reducible rfl)
              try simp only [Act.put, List.setIfInBounds_toArray, List.set_cons_zero, List.set_cons_succ]
              refine wpAnyH_take (i := 24) (oi := { dst := some 102, op := Op.indexAddr 23 (Operand.tmp 100) (Operand.tmp 101), type := 0, pos := "law.go:143", after := #[{ on := 22, ground := Ground.data }, { on := 23, ground := Ground.data }, { on := 16, ground := Ground.guard }], guard := some (16, false) }) (v := ?_) rfl (by kernel_rfl) (by kernel_rfl) (by kernel_rfl) (fun _ _ _ h => h) (Or.inl ⟨by rfl, ?_⟩) (by assumption) ?_
              rotate_left
              · (intro w' hSw; (try dsimp only at hSw); go_simp; try with_reducible rfl)
              try simp only [Act.put, List.setIfInBounds_toArray, List.set_cons_zero, List.set_cons_succ]
              refine wpAnyH_take (i := 25) (oi := { dst := some 103, op := Op.load 22 (Operand.tmp 102), type := 22, pos := "law.go:143", after := #[{ on := 24, ground := Ground.data }, { on := 16, ground := Ground.guard }], guard := some (16, false) }) (v := ?_) rfl (by kernel_rfl) (by kernel_rfl) (by kernel_rfl) (fun _ _ _ h => h) (Or.inl ⟨by rfl, ?_⟩) (by assumption) ?_
              rotate_left
              · (intro w' hSw; (try dsimp only at hSw); go_simp; try with_reducible rfl)
              try simp only [Act.put, List.setIfInBounds_toArray, List.set_cons_zero, List.set_cons_succ]
              refine wpAnyH_take (i := 27) (oi := { dst := some 105, op := Op.move (Operand.tmp 7), type := 24, pos := "law.go:143", after := #[{ on := 16, ground := Ground.guard }], guard := some (16, false) }) (v := ?_) rfl (by kernel_rfl) (by kernel_rfl) (by kernel_rfl) (fun _ _ _ h => h) (Or.inl ⟨by rfl, ?_⟩) (by assumption) ?_
              rotate_left
              · (intro w' hSw; (try dsimp only at hSw); go_simp; try with_reducible rfl)
              try simp only [Act.put, List.setIfInBounds_toArray, List.set_cons_zero, List.set_cons_succ]
              refine wpAnyH_take (i := 28) (oi := { dst := some 106, op := Op.move (Operand.tmp 8), type := 23, pos := "law.go:143", after := #[{ on := 16, ground := Ground.guard }], guard := some (16, false) }) (v := ?_) rfl (by kernel_rfl) (by kernel_rfl) (by kernel_rfl) (fun _ _ _ h => h) (Or.inl ⟨by rfl, ?_⟩) (by assumption) ?_
              rotate_left
              · (intro w' hSw; (try dsimp only at hSw); go_simp; try with_reducible rfl)
              try simp only [Act.put, List.setIfInBounds_toArray, List.set_cons_zero, List.set_cons_succ]
              refine wpAnyH_take (i := 29) (oi := { dst := some 107, op := Op.move (Operand.tmp 9), type := 3, pos := "law.go:143", after := #[{ on := 16, ground := Ground.guard }], guard := some (16, false) }) (v := ?_) rfl (by kernel_rfl) (by kernel_rfl) (by kernel_rfl) (fun _ _ _ h => h) (Or.inl ⟨by rfl, ?_⟩) (by assumption) ?_
              rotate_left
              · (intro w' hSw; (try dsimp only at hSw); go_simp; try with_reducible rfl)
              try simp only [Act.put, List.setIfInBounds_toArray, List.set_cons_zero, List.set_cons_succ]
              refine wpAnyH_take (i := 30) (oi := { dst := some 108, op := Op.indexAddr 23 (Operand.tmp 106) (Operand.tmp 107), type := 0, pos := "law.go:143", after := #[{ on := 28, ground := Ground.data }, { on := 29, ground := Ground.data }, { on := 16, ground := Ground.guard }], guard := some (16, false) }) (v := ?_) rfl (by kernel_rfl) (by kernel_rfl) (by kernel_rfl) (fun _ _ _ h => h) (Or.inl ⟨by rfl, ?_⟩) (by assumption) ?_
              rotate_left
              · (intro w' hSw; (try dsimp only at hSw); go_simp; try with_reducible rfl)
              try simp only [Act.put, List.setIfInBounds_toArray, List.set_cons_zero, List.set_cons_succ]
              refine wpAnyH_take (i := 31) (oi := { dst := some 109, op := Op.load 22 (Operand.tmp 108), type := 22, pos := "law.go:143", after := #[{ on := 30, ground := Ground.data }, { on := 16, ground := Ground.guard }], guard := some (16, false) }) (v := ?_) rfl (by kernel_rfl) (by kernel_rfl) (by kernel_rfl) (fun _ _ _ h => h) (Or.inl ⟨by rfl, ?_⟩) (by assumption) ?_
              rotate_left
              · (intro w' hSw; (try dsimp only at hSw); go_simp; try with_reducible rfl)
              try simp only [Act.put, List.setIfInBounds_toArray, List.set_cons_zero, List.set_cons_succ]
              refine wpAnyH_take (i := 32) (oi := { dst := some 110, op := Op.move (Operand.tmp 8), type := 23, pos := "law.go:143", after := #[{ on := 16, ground := Ground.guard }], guard := some (16, false) }) (v := ?_) rfl (by kernel_rfl) (by kernel_rfl) (by kernel_rfl) (fun _ _ _ h => h) (Or.inl ⟨by rfl, ?_⟩) (by assumption) ?_
              rotate_left
              · (intro w' hSw; (try dsimp only at hSw); go_simp; try with_reducible rfl)
              try simp only [Act.put, List.setIfInBounds_toArray, List.set_cons_zero, List.set_cons_succ]
              refine wpAnyH_take (i := 33) (oi := { dst := some 111, op := Op.move (Operand.tmp 12), type := 3, pos := "law.go:143", after := #[{ on := 16, ground := Ground.guard }], guard := some (16, false) }) (v := ?_) rfl (by kernel_rfl) (by kernel_rfl) (by kernel_rfl) (fun _ _ _ h => h) (Or.inl ⟨by rfl, ?_⟩) (by assumption) ?_
              rotate_left
              · (intro w' hSw; (try dsimp only at hSw); go_simp; try with_reducible rfl)
              try simp only [Act.put, List.setIfInBounds_toArray, List.set_cons_zero, List.set_cons_succ]
              refine wpAnyH_take (i := 34) (oi := { dst := some 112, op := Op.indexAddr 23 (Operand.tmp 110) (Operand.tmp 111), type := 0, pos := "law.go:143", after := #[{ on := 32, ground := Ground.data }, { on := 33, ground := Ground.data }, { on := 16, ground := Ground.guard }], guard := some (16, false) }) (v := ?_) rfl (by kernel_rfl) (by kernel_rfl) (by kernel_rfl) (fun _ _ _ h => h) (Or.inl ⟨by rfl, ?_⟩) (by assumption) ?_
              rotate_left
              · (intro w' hSw; (try dsimp only at hSw); go_simp; try with_reducible rfl)
              try simp only [Act.put, List.setIfInBounds_toArray, List.set_cons_zero, List.set_cons_succ]
              refine wpAnyH_take (i := 35) (oi := { dst := some 113, op := Op.load 22 (Operand.tmp 112), type := 22, pos := "law.go:143", after := #[{ on := 34, ground := Ground.data }, { on := 16, ground := Ground.guard }], guard := some (16, false) }) (v := ?_) rfl (by kernel_rfl) (by kernel_rfl) (by kernel_rfl) (fun _ _ _ h => h) (Or.inl ⟨by rfl, ?_⟩) (by assumption) ?_
              rotate_left
              · (intro w' hSw; (try dsimp only at hSw); go_simp; try with_reducible rfl)
              try simp only [Act.put, List.setIfInBounds_toArray, List.set_cons_zero, List.set_cons_succ]
              refine wpAnyH_ready (rs := [26]) (by kernel_rfl) (by simp) ?_
              refine AllReadyH.cons (o := { dst := some 104, op := Op.call { callee := Callee.value (Operand.func 25), args := #[Operand.tmp 95, Operand.tmp 99, Operand.tmp 103, Operand.const (Value.int IntKind.i64 4)], argTypes := #[24, 22, 22, 3] }, type := 4, pos := "law.go:143", after := #[{ on := 17, ground := Ground.data }, { on := 21, ground := Ground.data }, { on := 25, ground := Ground.data }, { on := 16, ground := Ground.chain }, { on := 16, ground := Ground.guard }], guard := some (16, false) }) rfl (fun K hK => ?_) AllReadyH.nil
              go_simp
              go_at_call 25
              refine (HS4.out _ Hxc.out).mono ?_
              rintro e xd ⟨rfl, hb⟩
              have Hxd : Hid (Below x2.heap.size x2 xd) := Lib.hid hb
              clear hb
              refine hK.out _ _ ⟨(HWI.out _ Hxd.out).1, (HWJ.out _ Hxd.out).1⟩ (fun hSxd => ?_)
              clear hK K hSxc
              try simp only [Act.put, List.setIfInBounds_toArray, List.set_cons_zero, List.set_cons_succ]
              refine wpAnyH_ready (rs := [36]) (by kernel_rfl) (by simp) ?_
              refine AllReadyH.cons (o := { dst := some 114, op := Op.call { callee := Callee.value (Operand.func 23), args := #[Operand.tmp 105, Operand.tmp 109, Operand.tmp 113], argTypes := #[24, 22, 22] }, type := 3, pos := "law.go:143", after := #[{ on := 27, ground := Ground.data }, { on := 31, ground := Ground.data }, { on := 35, ground := Ground.data }, { on := 26, ground := Ground.chain }, { on := 16, ground := Ground.guard }], guard := some (16, false) }) rfl (fun K hK => ?_) AllReadyH.nil
              go_simp
              go_at_call 23
              refine (HCR.out _ Hxd.out).mono ?_
              rintro e xe ⟨rfl, hb⟩
              have Hxe : Hid (Below x2.heap.size x2 xe) := Lib.hid hb
              clear hb
              refine hK.out _ _ ⟨(HWI.out _ Hxe.out).1, (HWJ.out _ Hxe.out).1⟩ (fun hSxe => ?_)
              clear hK K hSxd
              try simp only [Act.put, List.setIfInBounds_toArray, List.set_cons_zero, List.set_cons_succ]
              refine wpAnyH_take (i := 37) (oi := { dst := some 115, op := Op.binOp BinOp.eql 3 (Operand.tmp 114) (Operand.const (Value.int IntKind.i64 0)) 3, type := 4, pos := "law.go:143", after := #[{ on := 36, ground := Ground.data }, { on := 16, ground := Ground.guard }], guard := some (16, false) }) (v := ?_) rfl (by kernel_rfl) (by kernel_rfl) (by kernel_rfl) (fun _ _ _ h => h) (Or.inl ⟨by rfl, ?_⟩) (by assumption) ?_
              rotate_left
              · (intro w' hSw; (try dsimp only at hSw); go_simp; try with_reducible rfl)
              try simp only [Act.put, List.setIfInBounds_toArray, List.set_cons_zero, List.set_cons_succ]
              refine wpAnyH_take (i := 38) (oi := { dst := some 116, op := Op.binOp BinOp.neq 4 (Operand.tmp 104) (Operand.tmp 115) 4, type := 4, pos := "law.go:143", after := #[{ on := 26, ground := Ground.data }, { on := 37, ground := Ground.data }, { on := 16, ground := Ground.guard }], guard := some (16, false) }) (v := ?_) rfl (by kernel_rfl) (by kernel_rfl) (by kernel_rfl) (fun _ _ _ h => h) (Or.inl ⟨by rfl, ?_⟩) (by assumption) ?_
              rotate_left
              · (intro w' hSw; (try dsimp only at hSw); go_simp; try with_reducible rfl)
              try simp only [Act.put, List.setIfInBounds_toArray, List.set_cons_zero, List.set_cons_succ]
              refine wpAnyH_take (i := 39) (oi := { dst := some 117, op := Op.pick (Operand.tmp 94) (Operand.const (Value.bool true)) (Operand.tmp 116), type := 4, pos := "law.go:143", after := #[{ on := 16, ground := Ground.data }, { on := 38, ground := Ground.data }], guard := none }) (v := ?_) rfl (by kernel_rfl) (by kernel_rfl) (by kernel_rfl) (fun _ _ _ h => h) (Or.inl ⟨by rfl, ?_⟩) (by assumption) ?_
              rotate_left
              · (intro w' hSw; (try dsimp only at hSw); go_simp; try with_reducible rfl)
              try simp only [Act.put, List.setIfInBounds_toArray, List.set_cons_zero, List.set_cons_succ]
              refine wpAnyH_done (by kernel_rfl) ?_ _
              go_wp2_with fail
              go_loopg [14] 3 (fun g s14 wr => ∃ (n : Nat), n + g = 5 ∧ 2 ≤ n ∧ s14 = .int .i64 (n : Int) ∧ Hid (Below x2.heap.size x2 wr))
              case atStart => exact ⟨2, by omega, by omega, rfl, Lib.hid Hxe.out⟩
              case round =>
                obtain ⟨n, hn, hn2, rfl, HN⟩ := hrel
                by_cases hn4 : n ≤ 4
                · obtain ⟨g, rfl⟩ : ∃ g, gk = g + 1 := ⟨gk - 1, by omega⟩
                  have e1 : decide ((n : Int) ≤ 4) = true := decide_eq_true (by omega)
                  have e2 : decide (n ≤ 4) = true := decide_eq_true hn4
                  have l1 : ∀ p : Wo (Below x2.heap.size x2), p.wo.cell? ⟨b4, o4 + i, none⟩ = some (.slice Ai ni ci) := fun p => (HWI.out _ p.ok).1
                  have l2 : ∀ p : Wo (Below x2.heap.size x2), p.wo.cell? ⟨b4, o4 + j, none⟩ = some (.slice Aj nj cj) := fun p => (HWJ.out _ p.ok).1
                  by_cases hz : cmpU L (ws.getD i []) (ws.getD j []) 0 n = 0
                  · have HN1 : Hid (∀ W, Below x2.heap.size x2 W → Calls Try.prog 25 #[.slice (some ⟨b, o, none⟩) q cq, .slice Ai ni ci, .slice Aj nj cj, .int .i64 (n : Int)] W fun e w' => e = .returned (.bool true) ∧ Below x2.heap.size x2 w') := Lib.hid fun W hb => HSM.out _ _ _ _ _ _ _ _ n (n : Int) true W rfl (by omega) (by omega) hb (HWI.out W hb).2 (HWJ.out W hb).2 (decide_eq_true hz).symm
                    have HN2 : Hid (∀ W, Below x2.heap.size x2 W → Calls Try.prog 25 #[.slice (some ⟨b, o, none⟩) q cq, .slice Ai ni ci, .slice Aj nj cj, .int .i64 ((n : Int) - 1)] W fun e w' => e = .returned (.bool true) ∧ Below x2.heap.size x2 w') := Lib.hid fun W hb => HSM.out _ _ _ _ _ _ _ _ (n - 1) ((n : Int) - 1) true W (by omega) (by omega) (by omega) hb (HWI.out W hb).2 (HWJ.out W hb).2 (decide_eq_true (cmp_lower L _ _ (by omega) hz)).symm
                    clear hz
                    go_wp2_with fail
                    haveI : Nonempty (Wo (Below x2.heap.size x2)) := ⟨⟨wr, HN.out⟩⟩
                    refine wp_region_wo (Below x2.heap.size x2) mixedTry (by kernel_rfl) (below_drewN HN.out 1) ?_
                    iterate 11 (go_big_quiet_step ((go_at_call 25; exact calls_wo HN1.out _)))
                    repeat (go_big_quiet_step ((go_at_call 25; exact calls_wo HN2.out _)))
                    refine wpQuiet_nil ?_
                    intro xf hw2
                    obtain ⟨⟨xfx, hok⟩, hw3⟩ := hw2
                    have hw4 : xf = xfx := hw3
                    subst hw4
                    have Hxf := Lib.hid hok
                    clear hw3 hok
                    go_wp2_with fail
                    go_roundg g
                    case rel => exact ⟨n + 1, by omega, by omega, by go_num, Lib.hid Hxf.out⟩
                    case measure => omega
                  · have HN1 : Hid (∀ W, Below x2.heap.size x2 W → Calls Try.prog 25 #[.slice (some ⟨b, o, none⟩) q cq, .slice Ai ni ci, .slice Aj nj cj, .int .i64 (n : Int)] W fun e w' => e = .returned (.bool false) ∧ Below x2.heap.size x2 w') := Lib.hid fun W hb => HSM.out _ _ _ _ _ _ _ _ n (n : Int) false W rfl (by omega) (by omega) hb (HWI.out W hb).2 (HWJ.out W hb).2 (decide_eq_false hz).symm
                    clear hz
                    go_wp2_with fail
                    haveI : Nonempty (Wo (Below x2.heap.size x2)) := ⟨⟨wr, HN.out⟩⟩
                    refine wp_region_wo (Below x2.heap.size x2) mixedTry (by kernel_rfl) (below_drewN HN.out 1) ?_
                    repeat (go_big_quiet_step ((go_at_call 25; exact calls_wo HN1.out _)))
                    refine wpQuiet_nil ?_
                    intro xf hw2
                    obtain ⟨⟨xfx, hok⟩, hw3⟩ := hw2
                    have hw4 : xf = xfx := hw3
                    subst hw4
                    have Hxf := Lib.hid hok
                    clear hw3 hok
                    go_wp2_with fail
                    go_roundg g
                    case rel => exact ⟨n + 1, by omega, by omega, by go_num, Lib.hid Hxf.out⟩
                    case measure => omega
                · have e1 : decide ((n : Int) ≤ 4) = false := decide_eq_false (by omega)
                  have e2 : decide (n ≤ 4) = false := decide_eq_false hn4
                  go_wp2_with fail
                  go_roundg g
                  case rel => exact ⟨j + 1, by omega, by go_num, Lib.hid HN.out⟩
                  case measure => omega
          · obtain rfl : j = n4 := by omega
            go_wp2_with fail
            go_roundg g
            case rel => exact ⟨i + 1, by omega, by go_num, Lib.hid (below_next Hx2.out.2.1 HJ.out)⟩
            case measure => omega
    · obtain rfl : i = n4 := by omega
      go_wp2_with ((with_reducible refine (HLI.out _).mono ?_); rintro e w6 hp; obtain ⟨rfl, hb⟩ := boolb_out hp; have H6 : Hid (Below w.heap.size w w6) := Lib.hid (below_next H5.out.2.1 (below_next HI.out hb)); clear hp hb)
      go_ret
      exact ⟨rfl, H6.out⟩

set_option maxRecDepth 100000 in
theorem contract (H : Type) (enc : TypeId × Value → H) (W : World) (base : Nat) (args : Array Value) (ds gs : List (DataW H)) (before : List MemPlace)
    (hval : ∀ (j : Nat) t v, Try.f8.params[j]? = some t → args[j]? = some v → Value.okWide Try.prog W .any base t v)
    (hW : DataW.Whole enc Try.prog Try.f8.params.toList Rows.collateLevelsSpec.vars false W args.toList ds gs before) :
    Calls Try.prog 8 args W fun e W' => ∃ v, e = .returned v ∧ Rows.collateLevelsSpec.post enc Try.prog Try.f8 false true false false W args v W' := by
  have hW' := hW
  obtain ⟨p, q, hA0, hV, rfl, hfz, hnd⟩ := hW
  have hA : DataW.TrodAll enc Try.prog W 0 (fun _ => true) true Try.f8.params.toList args.toList ds p := hA0
  rw [Try.params8] at hA hval
  obtain ⟨rfl, rfl⟩ := trodVars_none hV
  obtain ⟨v0, w0, d0, e0, p0, q0, hargs, rfl, rfl, h0, r0⟩ := trodAll_cons hA
  obtain ⟨v1, w1, d1, e1, p1, q1, rfl, rfl, rfl, h1, r1⟩ := trodAll_cons r0
  obtain ⟨v2, w2, d2, e2, p2, q2, rfl, rfl, rfl, h2, r2⟩ := trodAll_cons r1
  obtain ⟨rfl, rfl, rfl⟩ := trodAll_nil r2
  obtain rfl : args = #[v0, v1, v2] := by cases args; simp_all
  clear hargs
  obtain ⟨Al, l, cl, rfl, lr, li, ln, lm⟩ := open_ivs (hval 0 22 v0 rfl rfl) h0
  obtain ⟨Am, m, cm, rfl, mr, mi, mn, mm⟩ := open_ivs (hval 1 22 v1 rfl rfl) h1
  obtain ⟨Awords, words, nwords, cwords, bwords, owords, rfl, wordsn, wordsc, wordsm, wordsr⟩ := open_iws (hval 2 23 v2 rfl rfl) h2
  refine (walk l Al cl li ln lm m Am cm mi mn mm words Awords nwords cwords bwords owords wordsn wordsc wordsm W lr mr wordsr).mono fun e W' ⟨he, hb⟩ => ⟨_, he, ?_⟩
  exact law_post rfl rfl (by kernel_rfl) hW' rfl hb

set_option maxRecDepth 100000 in
theorem lifted (os : Os) (started : os.Started) (H : Type) (enc : TypeId × Value → H) :
    ReturnsInHanded {} Try.checked os 8 .any (Rows.collateLevelsSpec.pre6 enc Try.prog Try.f8 Rows.collateLevelsRow.domain false) (Rows.collateLevelsSpec.post enc Try.prog Try.f8 false true false false) := by
  refine returnsInHanded_of_change_sized (C := Try.checked) Try.own started (by kernel_rfl) Try.func8
    (ChangeSpec.witness6 (enc := enc) (C := Try.checked) false ⟨#[], #[.slice none 0 0, .slice none 0 0, .slice none 0 0], []⟩ 8 (by kernel_rfl) (by kernel_rfl) (by kernel_rfl) (by kernel_rfl)) ?_
  intro W base args ds gs before hval hW _ hsz _
  exact contract H enc W base args ds gs before hval hW

theorem proved : Rows.CollateLevelsSaid :=
  OpenClaim.holds_of_wide 8 Try.f8 rfl rfl rfl rfl rfl rfl rfl ⟨rfl, rfl, rfl, rfl, rfl⟩ rfl rfl rfl rfl rfl (by kernel_rfl) Try.func8 (by kernel_rfl)
    (of_decide_eq_true (by kernel_rfl)) (by unfold Func.isWrapper; first | (rw [if_pos (by decide +kernel)]; kernel_rfl) | (rw [if_neg (by decide +kernel)]; exact ⟨rfl, rfl⟩))
    (fun os started H enc _ => lifted os started H enc)

end KL6
end Go.Proofs.Ytalladdmedmfeaa
