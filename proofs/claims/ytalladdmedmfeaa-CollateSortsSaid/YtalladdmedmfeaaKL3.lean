/-
  CollateSorts: for all arguments the law returns true, and leaves what was there as it was.
-/
import Derived.Test.YtalladdmedmfeaaKLaw2
import Derived.Test.YtalladdmedmfeaaKSpoil
import Derived.Test.YtalladdmedmfeaaKRSort
namespace Go.Proofs.Ytalladdmedmfeaa
open Go.ChangeShapes Go.WideShapes Go.ChangeAt Go.RowKit Go.ChangeMaps
open Alp Col
set_option linter.unusedVariables false
set_option linter.unusedSimpArgs false
namespace KL3
theorem join_own {w w2 w3 w4 : World} {v1 v2 v4 : Value} {xs ys : List Value} {us vs : List (List Int)} {N : Nat} (h : WnI w v1 xs us w2) (h2 : WnI w2 v2 ys vs w3) (hi : Hi w2.heap.size ys) (hown : w4.ownsRow w.heap.size 22 1 v4 (us.length + vs.length) (xs ++ ys)) (hg : w3.grownBy w4 v1.ownBlock) (hat : v4.ownBlock = v1.ownBlock ∨ v4.ownBlock = some w3.heap.size) (hN : us.length = N) (hN2 : N ≤ 30) (hv : vs.length ≤ 8) :
    ∃ (n : Nat) (zs : List Value) (ws : List (List Int)), n ≤ 38 ∧ n = ws.length ∧ WnI w v4 zs ws w4 :=
  ⟨(us ++ vs).length, xs ++ ys, us ++ vs, by rw [List.length_append]; omega, rfl, h.join h2 hi hown hg hat⟩
theorem own_len {w w4 : World} {v : Value} {zs : List Value} {ws : List (List Int)} {n : Nat} (h : WnI w v zs ws w4) (hn : n = ws.length) : w4.ownsRow w.heap.size 22 1 v n zs := by rw [hn]; exact h.1
theorem own_two {w w4 : World} {v : Value} {zs : List Value} {ws : List (List Int)} {n : Nat} (h : WnI w v zs ws w4) (hn : n = ws.length) : (v = .slice none 0 0 ∧ n = 0) ∨ ∃ g c, v = .slice (some ⟨g, 0, none⟩) n c ∧ n ≤ c ∧ c ≤ 9223372036854775807 := by
  rcases (own_len h hn).2 with h0 | ⟨g, cap, cur, e, _, _, h2, h3, _⟩
  · exact .inl h0
  · exact .inr ⟨g, cap, e, h2, by unfold maxLen at h3; exact h3⟩
theorem WsA.take {w : World} {xs : List Value} {us : List (List Int)} {G : Option Nat} (h : WsA w xs us G) (m : Nat) : WsA w (xs.take m) (us.take m) G := by
  refine ⟨by simp [h.1], fun i hi => ?_⟩
  rw [List.length_take] at hi
  obtain ⟨A', n', c', h1, h2, h3⟩ := h.2 i (by omega)
  refine ⟨A', n', c', by rw [List.getElem?_take, if_pos (by omega)]; exact h1, ?_, h3⟩
  have : (us.take m).getD i [] = us.getD i [] := by simp [List.getD, List.getElem?_take, show i < m by omega]
  rw [this]; exact h2
theorem src_pre {w w4 : World} {g n c m size : Nat} {zs : List Value} {ws : List (List Int)} (hs : size = 1) (h : WnI w (.slice (some ⟨g, 0, none⟩) n c) zs ws w4) (hn : n = ws.length) (hm : m ≤ n) : Src Try.prog size 23 (.slice (some ⟨g, 0, none⟩) m c) m (zs.take m) w4 := by
  subst hs
  have hl := h.2.1.1
  refine Src.ofSlice w4 Try.underlying23 _ m c _ (by rw [List.length_take]; omega) (fun j u hu => ?_) (fun u hu => ws_one h.2.1.ws u (List.mem_of_mem_take hu))
  have ha : (⟨g, 0, none⟩ : Addr).add j = ⟨g, j, none⟩ := by unfold Addr.add; split <;> simp_all
  rw [ha]
  have hj : j < m := by have := (List.getElem?_eq_some_iff.1 hu).1; rw [List.length_take] at this; omega
  rw [List.getElem?_take, if_pos hj] at hu
  rw [(own_len h hn).cellAt j (by omega)]
  exact hu
theorem src_nil {w w4 : World} {n m size : Nat} {zs : List Value} {ws : List (List Int)} (h : WnI w (.slice none 0 0) zs ws w4) (hn : n = ws.length) (h0 : n = 0) (hm : m ≤ n) : Src Try.prog size 23 (.slice none 0 0) m (zs.take m) w4 := by
  obtain rfl : m = 0 := by omega
  rw [List.take_zero]
  exact Src.ofNil w4 Try.underlying23 0
theorem self_out {w0 w w4 w5 : World} {v v5 : Value} {zs : List Value} {ws : List (List Int)} {n m : Nat} (hb : Below w0.heap.size w0 w) (h : WnI w v zs ws w4) (hn : n = ws.length) (hm : m ≤ n) (h38 : n ≤ 38) (hown : w5.ownsRow w.heap.size 22 1 v5 (n + m) (zs ++ zs.take m)) (hg : w4.grownBy w5 v.ownBlock) (hat : v5.ownBlock = v.ownBlock ∨ v5.ownBlock = some w4.heap.size) :
    ∃ (A : Option Addr) (c k : Nat) (us : List (List Int)), v5 = .slice A k c ∧ WsR w5 us A k c ∧ Below w.heap.size w w5 := by
  have hl : (ws.take m).length = m := by rw [List.length_take]; omega
  have h5 := h.app (Below.refl _ _) (WsA.take h.2.1 m) (by rw [hl, ← hn]; exact hown) hg hat
  obtain ⟨A, c, e, hr⟩ := wn_open h5 (by rw [List.length_append, hl]; omega)
  exact ⟨A, c, _, _, e, hr, h5.bel⟩
set_option maxRecDepth 1000000 in
set_option maxHeartbeats 32000000 in
theorem walk (l : List Int) (Al : Option Addr) (cl : Nat) (li : ∀ x ∈ l, inI x) (ln : l.length ≤ cl) (lm : cl ≤ maxLen) (m : List Int) (Am : Option Addr) (cm : Nat) (mi : ∀ x ∈ m, inI x) (mn : m.length ≤ cm) (mm : cm ≤ maxLen) (words : List (List Int)) (Awords : Option Addr) (nwords cwords bwords owords : Nat) (wordsn : nwords = words.length) (wordsc : nwords ≤ cwords) (wordsm : cwords ≤ maxLen) (many : Int) (manyi : inI many) (pos : Int) (posi : inI pos) (how : Int) (howi : inI how) (w : World) (lr : Rd w Al (iv l)) (mr : Rd w Am (iv m)) (wordsr : RwR w words Awords nwords bwords owords) : Calls Try.prog 5 #[.slice Al l.length cl, .slice Am m.length cm, .slice Awords nwords cwords, .int .i64 many, .int .i64 pos, .int .i64 how] w fun e w' => e = .returned (.bool true) ∧ Below w.heap.size w w' := by
  obtain ⟨L, hL⟩ : ∃ L, L = lettersP l := ⟨_, rfl⟩
  have hv : valP L = true := by rw [hL]; exact letters_val l
  obtain ⟨j0, hj0, hy0, hy1, hy2⟩ := info_parts Try.infoSl
  have HTX : Hid (∀ x ∈ L, x.text.length ≤ maxLen) := Lib.hid fun x hx => by have := (val_plain hv hx).2.1; unfold maxLen; omega
  have HLE : Hid (Calls Try.prog 12 #[.slice Al l.length cl] w (LtPost w L)) := Lib.hid (by rw [hL]; exact letters_any l Al _ cl rfl ln lm li w lr)
  obtain ⟨N, hN⟩ : ∃ N : Nat, arP many 20 = N := ⟨_, (Int.toNat_of_nonneg (arP_bd many (by omega)).1).symm⟩
  have HNB : Hid (N ≤ 30) := Lib.hid (by have := (arP_bd many (m := 20) (by omega)).2; omega)
  have HAR : Hid (∀ W, Calls Try.prog 27 #[.int .i64 many, .int .i64 20] W fun e w' => e = .returned (.int .i64 N) ∧ W = w') := Lib.hid fun W => by rw [← hN]; exact raround_any many 20 manyi.1 manyi.2 (by omega) (by omega) W
  have HWD : Hid (∀ AL q cq W, Below w.heap.size w W → AlR W L AL q cq → Calls Try.prog 15 #[.slice AL q cq, .slice Am m.length cm, .int .i64 ((N : Nat) : Int)] W (WnPost W fun ws => ws.length = N ∧ ∀ k, k < N → (ws.getD k []).length ≤ 3 * (k + 1))) := Lib.hid fun AL q cq W hb ha => by
    have h1 := ((valP_iff L).1 hv).1
    have h2 := ((valP_iff L).1 hv).2.1
    have h3 := words_any L AL q cq (by rw [ha.len]; exact h1) (by rw [ha.len]; exact h2) m Am m.length cm rfl mn mm mi (N) HNB.out W ha (mr.below hb)
    exact h3
  have HRW : Hid (∀ W, Below w.heap.size w W → Calls Try.prog 16 #[.slice Awords nwords cwords] W (RwPost W)) := Lib.hid fun W hb => raw_hi words Awords nwords cwords W wordsn wordsc wordsm bwords owords (wordsr.below hb)
  have HLI : Hid (∀ W, Calls Try.prog 20 #[] W (BoolB W true)) := Lib.hid fun W => lives_any W
  have HV := Lib.hid hv
  have HSP : Hid (∀ (AL : Option Addr) (q cq : Nat) (W : World), AlR W L AL q cq → Calls Try.prog 13 #[.slice AL q cq, .int .i64 pos, .int .i64 how, .int .i64 many] W (SpPost W)) := Lib.hid fun AL q cq W ha => spoilt_any L AL q cq pos how many posi howi manyi (by rw [ha.len]; exact ((valP_iff L).1 hv).1) (by rw [ha.len]; exact ((valP_iff L).1 hv).2.1) W ha
  clear hL hv hN li lr mi mr wordsr wordsn manyi posi howi
  go_enter Try.func5, Try.ntmps5
  go_wp2_with (first
    | ((with_reducible refine HLE.out.mono ?_); rintro e w1 hp; obtain ⟨AL, q, cq, rfl, h1, h2, h3, h4, hb⟩ := lt_out hp; have HA : Hid (AlR w1 L AL q cq ∧ Below w.heap.size w w1) := Lib.hid ⟨⟨h1, h3, h4, HTX.out, h2⟩, hb⟩; have hqc : q ≤ cq := h3; have hqb : cq ≤ 9223372036854775807 := (by unfold maxLen at h4; omega); clear hp h1 h2 h3 h4 hb)
    | ((with_reducible refine (HAR.out _).mono ?_); rintro e wa ⟨rfl, rfl⟩)
    | ((with_reducible refine (HWD.out _ _ _ _ HA.out.2 HA.out.1).mono ?_); rintro e w2 hp; obtain ⟨v1, xs, us, rfl, hul, hw⟩ := wn_out hp; have HU : Hid (us.length = N ∧ WnI w1 v1 xs us w2) := Lib.hid ⟨hul, hw⟩; clear hp hul hw)
    | ((with_reducible refine (HRW.out _ (below_next HA.out.2 HU.out.2.bel)).mono ?_); rintro e w3 hp; obtain ⟨v2, ys, vs, rfl, hvl, hw, hi⟩ := rw_out hp; have HR : Hid (vs.length ≤ 8 ∧ WnI w2 v2 ys vs w3 ∧ Hi w2.heap.size ys) := Lib.hid ⟨hvl, hw, hi⟩; have hu1 : us.length + vs.length ≤ maxLen := (by rw [HU.out.1]; have := HNB.out; unfold maxLen; omega); have hu2 : (us.length + vs.length) * 24 ≤ 140737488355328 := (by rw [HU.out.1]; have := HNB.out; omega); clear hp hvl hw hi)
    | (at_builtin; refine wpList_own_src rfl (.tmp 22) (.tmp 24) 23 23 rfl w1.heap.size 22 j0 _ 1 24 Try.underlying23 hj0 hy0 hy1 hy2 rfl _ _ _ rfl (own_keep HU.out.2.1 HR.out.2.1.bel) _ vs.length ys rfl (src_wn Try.underlying23 hy1 HR.out.2.1.1 HR.out.2.1.2.1.ws) hu1 hu2 (Nat.le_trans HU.out.2.bel.size HR.out.2.1.bel.size) ?_; intro v4 w4 hown4 hg4 hat4; obtain ⟨n4, zs, ws, hn4, hwl, hwn⟩ := join_own HU.out.2 HR.out.2.1 HR.out.2.2 hown4 hg4 hat4 HU.out.1 HNB.out HR.out.1; have HJ : Hid (WnI w1 v4 zs ws w4 ∧ n4 = ws.length ∧ Below w.heap.size w w4 ∧ AlR w4 L AL q cq) := Lib.hid ⟨hwn, hwl, below_next HA.out.2 hwn.bel, HA.out.1.below hwn.bel⟩; clear hown4 hg4 hat4 hwn hu1 hu2; have hwe : ws.length = n4 := hwl.symm; clear hwl; obtain ⟨m3, hm3⟩ : ∃ m3, m3 = n4 / 3 := ⟨_, rfl⟩; have hq1 : (n4 : Int).tdiv 3 = (m3 : Int) := (by rw [Int.tdiv_eq_ediv_of_nonneg (by omega), hm3]; rfl); have hq2 : (n4 : Int) / 3 = (m3 : Int) := (by rw [hm3]; rfl); have hm34 : m3 ≤ n4 := (by omega); clear hm3; have hv1 : n4 + m3 ≤ maxLen := (by unfold maxLen; omega); have hv2 : (n4 + m3) * 24 ≤ 140737488355328 := (by omega); rcases own_two HJ.out.1 HJ.out.2.1 with ⟨hv4, h04⟩ | ⟨g4, c4, hv4, hc4, hm4⟩ <;> subst hv4)
    | (at_builtin; refine wpList_own_src rfl (.tmp 26) (.tmp 31) 23 23 rfl w1.heap.size 22 j0 _ 1 24 Try.underlying23 hj0 hy0 hy1 hy2 rfl _ n4 zs rfl (own_len HJ.out.1 HJ.out.2.1) _ m3 (zs.take m3) rfl (src_nil HJ.out.1 HJ.out.2.1 h04 hm34) hv1 hv2 HJ.out.1.bel.size ?_; intro v5 w5 hown5 hg5 hat5; obtain ⟨A5, c5, n5, ws5, hv5, hws5, hb5⟩ := self_out HA.out.2 HJ.out.1 HJ.out.2.1 hm34 hn4 hown5 hg5 hat5; subst hv5; have HW : Hid (WsR w5 ws5 A5 n5 c5 ∧ Below w.heap.size w w5 ∧ AlR w5 L AL q cq) := Lib.hid ⟨hws5, below_next HA.out.2 hb5, HA.out.1.below hb5⟩; clear hown5 hg5 hat5 hws5 hb5)
    | (at_builtin; refine wpList_own_src rfl (.tmp 26) (.tmp 31) 23 23 rfl w1.heap.size 22 j0 _ 1 24 Try.underlying23 hj0 hy0 hy1 hy2 rfl _ n4 zs rfl (own_len HJ.out.1 HJ.out.2.1) _ m3 (zs.take m3) rfl (src_pre hy1 HJ.out.1 HJ.out.2.1 hm34) hv1 hv2 HJ.out.1.bel.size ?_; intro v5 w5 hown5 hg5 hat5; obtain ⟨A5, c5, n5, ws5, hv5, hws5, hb5⟩ := self_out HA.out.2 HJ.out.1 HJ.out.2.1 hm34 hn4 hown5 hg5 hat5; subst hv5; have HW : Hid (WsR w5 ws5 A5 n5 c5 ∧ Below w.heap.size w w5 ∧ AlR w5 L AL q cq) := Lib.hid ⟨hws5, below_next HA.out.2 hb5, HA.out.1.below hb5⟩; clear hown5 hg5 hat5 hws5 hb5)
    | ((with_reducible refine (HSP.out _ _ _ _ HW.out.2.2).mono ?_); rintro e w6 hp; obtain ⟨L2, A2, q2, c2, rfl, hal, hb⟩ := sp_out hp; obtain ⟨d1, hd1⟩ := KRS.sort_both L ws5; obtain ⟨d2, hd2⟩ := KRS.sort_both L2 ws5; have H6 : Hid (Below w.heap.size w w6) := Lib.hid (below_next HW.out.2.1 hb); have HS1 : Hid (∀ W, Below w6.heap.size w6 W → Calls Try.prog 28 #[.slice AL q cq, .slice A5 n5 c5] W (LPost W d1)) := Lib.hid (fun W hw => (hd1 _ _ _ _ _ _ _ ((HW.out.2.2.below hb).below hw) ((HW.out.1.below hb).below hw)).1); have HS2 : Hid (∀ W, Below w6.heap.size w6 W → Calls Try.prog 29 #[.slice AL q cq, .slice A5 n5 c5] W (LPost W d1)) := Lib.hid (fun W hw => (hd1 _ _ _ _ _ _ _ ((HW.out.2.2.below hb).below hw) ((HW.out.1.below hb).below hw)).2); have HS3 : Hid (∀ W, Below w6.heap.size w6 W → Calls Try.prog 28 #[.slice A2 q2 c2, .slice A5 n5 c5] W (LPost W d2)) := Lib.hid (fun W hw => (hd2 _ _ _ _ _ _ _ (hal.below hw) ((HW.out.1.below hb).below hw)).1); have HS4 : Hid (∀ W, Below w6.heap.size w6 W → Calls Try.prog 29 #[.slice A2 q2 c2, .slice A5 n5 c5] W (LPost W d2)) := Lib.hid (fun W hw => (hd2 _ _ _ _ _ _ _ (hal.below hw) ((HW.out.1.below hb).below hw)).2); clear hp hal hb hd1 hd2)
    | ((with_reducible refine (HS1.out _ (Below.refl _ _)).mono ?_); rintro e x1 hp; obtain ⟨P1, cP1, nP1, rfl, hn, hr, hc, hm, hb⟩ := l_out hp; have Hx1 : Hid (Below w6.heap.size w6 x1 ∧ nP1 = d1.length ∧ Rd x1 P1 (iv d1) ∧ nP1 ≤ maxLen) := Lib.hid ⟨below_next (Below.refl _ _) hb, hn, hr, by omega⟩; clear hp hn hr hc hm hb)
    | ((with_reducible refine (HS2.out _ Hx1.out.1).mono ?_); rintro e x2 hp; obtain ⟨P2, cP2, nP2, rfl, hn, hr, hc, hm, hb⟩ := l_out hp; have Hx2 : Hid (Below w6.heap.size w6 x2 ∧ nP2 = d1.length ∧ Rd x2 P2 (iv d1) ∧ nP2 ≤ maxLen) := Lib.hid ⟨below_next Hx1.out.1 hb, hn, hr, by omega⟩; have HB12 : Hid (Below x1.heap.size x1 x2) := Lib.hid hb; clear hp hn hr hc hm hb)
    | ((with_reducible refine (same_any d1 d1 _ _ _ _ _ _ Hx1.out.2.1 Hx2.out.2.1 Hx1.out.2.2.2 true (decide_eq_true rfl).symm _ (Hx1.out.2.2.1.below HB12.out) Hx2.out.2.2.1).mono ?_); rintro e x3 hp; obtain ⟨rfl, hb⟩ := boolb_out hp; have Hx3 : Hid (Below w6.heap.size w6 x3) := Lib.hid (below_next Hx2.out.1 hb); clear hp hb)
    | ((with_reducible refine (HS3.out _ Hx3.out).mono ?_); rintro e x4 hp; obtain ⟨P4, cP4, nP4, rfl, hn, hr, hc, hm, hb⟩ := l_out hp; have Hx4 : Hid (Below w6.heap.size w6 x4 ∧ nP4 = d2.length ∧ Rd x4 P4 (iv d2) ∧ nP4 ≤ maxLen) := Lib.hid ⟨below_next Hx3.out hb, hn, hr, by omega⟩; clear hp hn hr hc hm hb)
    | ((with_reducible refine (HS4.out _ Hx4.out.1).mono ?_); rintro e x5 hp; obtain ⟨P5, cP5, nP5, rfl, hn, hr, hc, hm, hb⟩ := l_out hp; have Hx5 : Hid (Below w6.heap.size w6 x5 ∧ nP5 = d2.length ∧ Rd x5 P5 (iv d2) ∧ nP5 ≤ maxLen) := Lib.hid ⟨below_next Hx4.out.1 hb, hn, hr, by omega⟩; have HB45 : Hid (Below x4.heap.size x4 x5) := Lib.hid hb; clear hp hn hr hc hm hb)
    | ((with_reducible refine (same_any d2 d2 _ _ _ _ _ _ Hx4.out.2.1 Hx5.out.2.1 Hx4.out.2.2.2 true (decide_eq_true rfl).symm _ (Hx4.out.2.2.1.below HB45.out) Hx5.out.2.2.1).mono ?_); rintro e x6 hp; obtain ⟨rfl, hb⟩ := boolb_out hp; have Hx6 : Hid (Below w6.heap.size w6 x6) := Lib.hid (below_next Hx5.out.1 hb); clear hp hb)
    | ((with_reducible refine (HLI.out _).mono ?_); rintro e x7 hp; obtain ⟨rfl, hb⟩ := boolb_out hp; have H7 : Hid (Below w.heap.size w x7) := Lib.hid (below_next H6.out (below_next Hx6.out hb)); clear hp hb))
  all_goals (go_ret; exact ⟨rfl, H7.out⟩)

set_option maxRecDepth 100000 in
theorem contract (H : Type) (enc : TypeId × Value → H) (W : World) (base : Nat) (args : Array Value) (ds gs : List (DataW H)) (before : List MemPlace)
    (hval : ∀ (j : Nat) t v, Try.f5.params[j]? = some t → args[j]? = some v → Value.okWide Try.prog W .any base t v)
    (hW : DataW.Whole enc Try.prog Try.f5.params.toList Rows.collateSortsSpec.vars false W args.toList ds gs before) :
    Calls Try.prog 5 args W fun e W' => ∃ v, e = .returned v ∧ Rows.collateSortsSpec.post enc Try.prog Try.f5 false true false false W args v W' := by
  have hW' := hW
  obtain ⟨p, q, hA0, hV, rfl, hfz, hnd⟩ := hW
  have hA : DataW.TrodAll enc Try.prog W 0 (fun _ => true) true Try.f5.params.toList args.toList ds p := hA0
  rw [Try.params5] at hA hval
  obtain ⟨rfl, rfl⟩ := trodVars_none hV
  obtain ⟨v0, w0, d0, e0, p0, q0, hargs, rfl, rfl, h0, r0⟩ := trodAll_cons hA
  obtain ⟨v1, w1, d1, e1, p1, q1, rfl, rfl, rfl, h1, r1⟩ := trodAll_cons r0
  obtain ⟨v2, w2, d2, e2, p2, q2, rfl, rfl, rfl, h2, r2⟩ := trodAll_cons r1
  obtain ⟨v3, w3, d3, e3, p3, q3, rfl, rfl, rfl, h3, r3⟩ := trodAll_cons r2
  obtain ⟨v4, w4, d4, e4, p4, q4, rfl, rfl, rfl, h4, r4⟩ := trodAll_cons r3
  obtain ⟨v5, w5, d5, e5, p5, q5, rfl, rfl, rfl, h5, r5⟩ := trodAll_cons r4
  obtain ⟨rfl, rfl, rfl⟩ := trodAll_nil r5
  obtain rfl : args = #[v0, v1, v2, v3, v4, v5] := by cases args; simp_all
  clear hargs
  obtain ⟨Al, l, cl, rfl, lr, li, ln, lm⟩ := open_ivs (hval 0 22 v0 rfl rfl) h0
  obtain ⟨Am, m, cm, rfl, mr, mi, mn, mm⟩ := open_ivs (hval 1 22 v1 rfl rfl) h1
  obtain ⟨Awords, words, nwords, cwords, bwords, owords, rfl, wordsn, wordsc, wordsm, wordsr⟩ := open_iws (hval 2 23 v2 rfl rfl) h2
  obtain ⟨many, rfl, rfl, rfl, manyw⟩ := open_int Try.underlying3 (hval 3 3 v3 rfl rfl) h3
  obtain ⟨pos, rfl, rfl, rfl, posw⟩ := open_int Try.underlying3 (hval 4 3 v4 rfl rfl) h4
  obtain ⟨how, rfl, rfl, rfl, howw⟩ := open_int Try.underlying3 (hval 5 3 v5 rfl rfl) h5
  refine (walk l Al cl li ln lm m Am cm mi mn mm words Awords nwords cwords bwords owords wordsn wordsc wordsm many (inI_wf manyw) pos (inI_wf posw) how (inI_wf howw) W lr mr wordsr).mono fun e W' ⟨he, hb⟩ => ⟨_, he, ?_⟩
  exact law_post rfl rfl (by kernel_rfl) hW' rfl hb

set_option maxRecDepth 100000 in
theorem lifted (os : Os) (started : os.Started) (H : Type) (enc : TypeId × Value → H) :
    ReturnsInHanded {} Try.checked os 5 .any (Rows.collateSortsSpec.pre6 enc Try.prog Try.f5 Rows.collateSortsRow.domain false) (Rows.collateSortsSpec.post enc Try.prog Try.f5 false true false false) := by
  refine returnsInHanded_of_change_sized (C := Try.checked) Try.own started (by kernel_rfl) Try.func5
    (ChangeSpec.witness6 (enc := enc) (C := Try.checked) false ⟨#[], #[.slice none 0 0, .slice none 0 0, .slice none 0 0, .int .i64 0, .int .i64 0, .int .i64 0], []⟩ 8 (by kernel_rfl) (by kernel_rfl) (by kernel_rfl) (by kernel_rfl)) ?_
  intro W base args ds gs before hval hW _ hsz _
  exact contract H enc W base args ds gs before hval hW

theorem proved : Rows.CollateSortsSaid :=
  OpenClaim.holds_of_wide 5 Try.f5 rfl rfl rfl rfl rfl rfl rfl ⟨rfl, rfl, rfl, rfl, rfl⟩ rfl rfl rfl rfl rfl (by kernel_rfl) Try.func5 (by kernel_rfl)
    (of_decide_eq_true (by kernel_rfl)) (by unfold Func.isWrapper; first | (rw [if_pos (by decide +kernel)]; kernel_rfl) | (rw [if_neg (by decide +kernel)]; exact ⟨rfl, rfl⟩))
    (fun os started H enc _ => lifted os started H enc)

end KL3
end Go.Proofs.Ytalladdmedmfeaa
