/-
  CollateBytes: for all arguments the law returns true, and leaves what was there as it was.
-/
import Derived.Test.YtalladdmedmfeaaKLaw2
import Derived.Test.YtalladdmedmfeaaKByteP
import Derived.Test.YtalladdmedmfeaaKWire
import Derived.Test.YtalladdmedmfeaaARead
import Derived.BigQuiet
import Derived.BigRegion
namespace Go.Proofs.Ytalladdmedmfeaa
open Go.ChangeShapes Go.WideShapes Go.ChangeAt Go.RowKit Go.ChangeMaps
open Alp Col
set_option linter.unusedVariables false
set_option linter.unusedSimpArgs false
namespace KL8
theorem r_out2' {w w' : World} {l : List Int} {y : Int} {e : Ending} (h : RPost w (l, y) e w') : ∃ (A : Option Addr) (c n : Nat), e = .returned (.tuple #[.slice A n c, .int .i64 y]) ∧ n = l.length ∧ Rd w' A (iv l) ∧ n ≤ c ∧ c ≤ maxLen ∧ Below w.heap.size w w' := h
theorem words_out {w w2 : World} {N : Nat} {Q : List (List Int) → Prop} {e : Ending} (hN : N ≤ 1000) (h : WnPost w (fun ws => ws.length = N ∧ Q ws) e w2) : ∃ A c us, e = .returned (.slice A N c) ∧ WsR w2 us A N c ∧ Below w.heap.size w w2 := by
  obtain ⟨v, xs, us, h1, h2, h3⟩ := wn_out h
  obtain ⟨A, c, e, hr⟩ := wn_open h3 (by omega)
  rw [h2] at e hr
  exact ⟨A, c, us, by rw [h1, e], hr, h3.bel⟩
theorem own_len3 {w w4 : World} {v : Value} {zs : List Value} {ws : List (List Int)} {n : Nat} (h : WnI w v zs ws w4) (hn : ws.length = n) : w4.ownsRow w.heap.size 22 1 v n zs := by rw [← hn]; exact h.1
theorem own_row3 {w w4 : World} {v : Value} {zs : List Value} {ws : List (List Int)} (h : WnI w v zs ws w4) (hn : ws.length = 3) : ∃ g c, v = .slice (some ⟨g, 0, none⟩) 3 c ∧ w.heap.size ≤ g ∧ 3 ≤ c ∧ c ≤ 9223372036854775807 := by
  rcases (own_len3 h hn).2 with ⟨_, h0⟩ | ⟨g, cap, cur, e, h1, _, h2, h3, _⟩
  · omega
  · exact ⟨g, cap, e, h1, h2, by unfold maxLen at h3; exact h3⟩
theorem own_none {w : World} {base : Nat} {A : Option Addr} {l : List UInt8} {c : Nat} (h : w.ownsRow base 5 1 (.slice A l.length c) l.length (bs l)) : A = none → l = [] := fun e => by
  rcases h.2 with ⟨_, h0⟩ | ⟨g, cap, cur, h1, _⟩
  · exact List.eq_nil_of_length_eq_zero h0
  · rw [e] at h1; simp at h1
theorem src_two {size : Nat} (hs : size = 1) (w : World) (A B : Option Addr) (n c m d : Nat) : Src Try.prog size 23 (.slice (some ⟨w.heap.size, 0, none⟩) 2 2) 2 [.slice A n c, .slice B m d] (w.alloc (.cells #[.slice A n c, .slice B m d] 22)) := by
  subst hs
  refine Src.ofSlice _ Try.underlying23 _ 2 2 _ rfl (fun j u hu => ?_) (by simp [Value.oneCell'])
  have hadd : (⟨w.heap.size, 0, none⟩ : Addr).add j = ⟨w.heap.size, j, none⟩ := by unfold Addr.add; split <;> simp_all
  rw [hadd]
  exact (Blk.at w [.slice A n c, .slice B m d] _ 22 _ rfl rfl).cell hu
theorem two_out {w w3 w4 : World} {v v4 : Value} {xs : List Value} {us : List (List Int)} {o : Obj} {l1 l2 : List Int} {A B : Option Addr} {n c m d : Nat} (h : WnI w v xs us w3) (hl : us.length = 3) (h1 : WdR w l1 A n c) (h2 : WdR w l2 B m d) (hown : w4.ownsRow w.heap.size 22 1 v4 (3 + 2) (xs ++ [.slice A n c, .slice B m d])) (hg : (w3.alloc o).grownBy w4 v.ownBlock) (hat : v4.ownBlock = v.ownBlock ∨ v4.ownBlock = some (w3.alloc o).heap.size) :
    ∃ (A' : Option Addr) (c' : Nat) (ws : List (List Int)), v4 = .slice A' 5 c' ∧ WsR w4 ws A' 5 c' ∧ Below w.heap.size w w4 := by
  have hb : Below w.heap.size w (w3.alloc o) := below_al h.bel o
  have h5 : Below w.heap.size w w4 := below_own hb hg (fun g hg' => (h.1.lt g hg').1)
  have hw : Ws w4 xs us := ((h.below (below_a1 w3 o)).2.1.grown hg hat).ws
  have hw2 := (hw.snoc (h1.below h5)).snoc (h2.below h5)
  have e1 : xs ++ [.slice A n c] ++ [.slice B m d] = xs ++ [.slice A n c, .slice B m d] := by simp
  rw [e1] at hw2
  obtain ⟨A', c', e, hr, h3, h4⟩ := Rd.of_own hown
  exact ⟨A', c', us ++ [l1] ++ [l2], e, ⟨by simp [hl], by omega, h3, h4, _, hw2, hr⟩, h5⟩
theorem take_getD {l : List Int} {n : Nat} (h : n < l.length) : l.take (n + 1) = l.take n ++ [l.getD n 0] := by
  rw [List.take_succ_eq_append_getElem h]
  simp [List.getD, h]
theorem key_facts {L : List Lt} (hv : valP L = true) {W : World} {x : List Int} {A : Option Addr} {n c : Nat} (h : WdR W x A n c) : 3 ≤ (keyP L x).length ∧ (keyP L x).length ≤ 400003 ∧ ∀ n, n < (keyP L x).length → inI ((keyP L x).getD n 0) := by
  have h1 := key_len hv x
  have h2 := h.len
  have h3 := h.few
  refine ⟨h1.1, by omega, fun n hn => key_in hv x _ ?_⟩
  simp only [List.getD, List.getElem?_eq_getElem hn, Option.getD_some]
  exact List.getElem_mem hn
theorem read_len {L : List Lt} (hv : valP L = true) (s : B) : (readP L s).1.length ≤ s.length := by
  rw [readP_val hv]
  obtain ⟨_, c, h1, _, h2, _⟩ := readG_long hv (s.length + 1) s 0 (by omega)
  omega
set_option maxRecDepth 1000000 in
set_option maxHeartbeats 64000000 in
theorem walk (l : List Int) (Al : Option Addr) (cl : Nat) (li : ∀ x ∈ l, inI x) (ln : l.length ≤ cl) (lm : cl ≤ maxLen) (m : List Int) (Am : Option Addr) (cm : Nat) (mi : ∀ x ∈ m, inI x) (mn : m.length ≤ cm) (mm : cm ≤ maxLen) (k : List Int) (Ak : Option Addr) (ck : Nat) (ki : ∀ x ∈ k, inI x) (kn : k.length ≤ ck) (km : ck ≤ maxLen) (w : World) (lr : Rd w Al (iv l)) (mr : Rd w Am (iv m)) (kr : Rd w Ak (iv k)) : Calls Try.prog 10 #[.slice Al l.length cl, .slice Am m.length cm, .slice Ak k.length ck] w fun e w' => e = .returned (.bool true) ∧ Below w.heap.size w w' := by
  obtain ⟨L, hL⟩ : ∃ L, L = lettersP l := ⟨_, rfl⟩
  have hv : valP L = true := by rw [hL]; exact letters_val l
  obtain ⟨j0, hj0, hy0, hy1, hy2⟩ := info_parts Try.infoSl
  have HTX : Hid (∀ x ∈ L, x.text.length ≤ maxLen) := Lib.hid fun x hx => by have := (val_plain hv hx).2.1; unfold maxLen; omega
  have HLE : Hid (Calls Try.prog 12 #[.slice Al l.length cl] w (LtPost w L)) := Lib.hid (by rw [hL]; exact letters_any l Al _ cl rfl ln lm li w lr)
  have HNB : Hid (3 ≤ 30) := Lib.hid (by omega)
  have HWD : Hid (∀ AL q cq W, Below w.heap.size w W → AlR W L AL q cq → Calls Try.prog 15 #[.slice AL q cq, .slice Am m.length cm, .int .i64 (3)] W (WnPost W fun ws => ws.length = 3 ∧ ∀ k, k < 3 → (ws.getD k []).length ≤ 3 * (k + 1))) := Lib.hid fun AL q cq W hb ha => by
    have h1 := ((valP_iff L).1 hv).1
    have h2 := ((valP_iff L).1 hv).2.1
    have h3 := words_any L AL q cq (by rw [ha.len]; exact h1) (by rw [ha.len]; exact h2) m Am m.length cm rfl mn mm mi (3) HNB.out W ha (mr.below hb)
    exact h3
  have HLI : Hid (∀ W, Calls Try.prog 20 #[] W (BoolB W true)) := Lib.hid fun W => lives_any W
  have HV := Lib.hid hv
  obtain ⟨u0, hu0, hk0, hk1, hk2⟩ := info_parts Try.info5
  obtain ⟨t1, ht1⟩ : ∃ t, t = textP L m := ⟨_, rfl⟩
  obtain ⟨t2, ht2⟩ : ∃ t, t = textP L k := ⟨_, rfl⟩
  have htl1 : t1.length ≤ 160 := by rw [ht1]; exact textP_len hv m
  have htl2 : t2.length ≤ 160 := by rw [ht2]; exact textP_len hv k
  obtain ⟨v1, e1, hr1⟩ : ∃ v e, (v, e) = readP L t1 := ⟨_, _, rfl⟩
  obtain ⟨v2, e2, hr2⟩ : ∃ v e, (v, e) = readP L t2 := ⟨_, _, rfl⟩
  have HVL : Hid (v1.length ≤ 160 ∧ v2.length ≤ 160) := Lib.hid ⟨by have := read_len hv t1; rw [← hr1] at this; exact Nat.le_trans this htl1, by have := read_len hv t2; rw [← hr2] at this; exact Nat.le_trans this htl2⟩
  have HTX1 : Hid (∀ AL q cq W, Below w.heap.size w W → AlR W L AL q cq → Calls Try.prog 35 #[.slice AL q cq, .slice Am m.length cm] W (TxPost W t1)) := Lib.hid fun AL q cq W hb ha => by rw [ht1]; exact text_any L hv AL q cq ha.len ha.cap ha.max m Am m.length cm rfl mn mm mi W ha.rd (mr.below hb)
  have HTX2 : Hid (∀ AL q cq W, Below w.heap.size w W → AlR W L AL q cq → Calls Try.prog 35 #[.slice AL q cq, .slice Ak k.length ck] W (TxPost W t2)) := Lib.hid fun AL q cq W hb ha => by rw [ht2]; exact text_any L hv AL q cq ha.len ha.cap ha.max k Ak k.length ck rfl kn km ki W ha.rd (kr.below hb)
  have HRD1 : Hid (∀ AL q cq W, AlR W L AL q cq → Calls Try.prog 34 #[.slice AL q cq, .string (tb t1)] W (RPost W (v1, e1))) := Lib.hid fun AL q cq W ha => read_any L t1 (by omega) AL q cq ha.len ha.cap ha.max ha.txt _ hr1 W ha.rd
  have HRD2 : Hid (∀ AL q cq W, AlR W L AL q cq → Calls Try.prog 34 #[.slice AL q cq, .string (tb t2)] W (RPost W (v2, e2))) := Lib.hid fun AL q cq W ha => read_any L t2 (by omega) AL q cq ha.len ha.cap ha.max ha.txt _ hr2 W ha.rd
  clear hL hv li lr mi mr ki kr ht1 ht2 htl1 htl2 hr1 hr2
  by_cases q1 : e1 = -1
  · subst q1
    by_cases q2 : e2 = -1
    · subst q2
      go_enter Try.func10, Try.ntmps10
      go_wp2_with (first
        | ((with_reducible refine HLE.out.mono ?_); rintro e w1 hp; obtain ⟨AL, q, cq, rfl, h1, h2, h3, h4, hb⟩ := lt_out hp; have HA : Hid (AlR w1 L AL q cq ∧ Below w.heap.size w w1) := Lib.hid ⟨⟨h1, h3, h4, HTX.out, h2⟩, hb⟩; have hqc : q ≤ cq := h3; have hqb : cq ≤ 9223372036854775807 := (by unfold maxLen at h4; omega); clear hp h1 h2 h3 h4 hb)
        | ((with_reducible refine (HTX1.out _ _ _ _ HA.out.2 HA.out.1).mono ?_); rintro e x1 hp; obtain ⟨rfl, hb⟩ := tx_out hp; have Hx1 : Hid (AlR x1 L AL q cq ∧ Below w.heap.size w x1) := Lib.hid ⟨HA.out.1.below hb, below_next HA.out.2 hb⟩; clear hp hb)
        | ((with_reducible refine (HRD1.out _ _ _ _ Hx1.out.1).mono ?_); rintro e x2 hp; obtain ⟨Av, cv, nv, rfl, hn, hr, hc, hm, hb⟩ := r_out2' hp; have Hx2 : Hid (AlR x2 L AL q cq ∧ Below w.heap.size w x2 ∧ WdR x2 v1 Av nv cv) := Lib.hid ⟨Hx1.out.1.below hb, below_next Hx1.out.2 hb, ⟨hn, by have := HVL.out.1; omega, hc, hm, hr⟩⟩; clear hp hn hr hc hm hb)
        | ((with_reducible refine (HTX2.out _ _ _ _ Hx2.out.2.1 Hx2.out.1).mono ?_); rintro e x3 hp; obtain ⟨rfl, hb⟩ := tx_out hp; have Hx3 : Hid (AlR x3 L AL q cq ∧ Below w.heap.size w x3 ∧ WdR x3 v1 Av nv cv) := Lib.hid ⟨Hx2.out.1.below hb, below_next Hx2.out.2.1 hb, Hx2.out.2.2.below hb⟩; clear hp hb)
        | ((with_reducible refine (HRD2.out _ _ _ _ Hx3.out.1).mono ?_); rintro e x4 hp; obtain ⟨Au, cu, nu, rfl, hn, hr, hc, hm, hb⟩ := r_out2' hp; have Hx4 : Hid (AlR x4 L AL q cq ∧ Below w.heap.size w x4 ∧ WdR x4 v1 Av nv cv ∧ WdR x4 v2 Au nu cu) := Lib.hid ⟨Hx3.out.1.below hb, below_next Hx3.out.2.1 hb, Hx3.out.2.2.below hb, ⟨hn, by have := HVL.out.2; omega, hc, hm, hr⟩⟩; clear hp hn hr hc hm hb)
        | ((with_reducible refine (HWD.out _ _ _ _ Hx4.out.2.1 Hx4.out.1).mono ?_); rintro e w3 hp; obtain ⟨vw, xs, us, rfl, hul, hw⟩ := wn_out hp; have HU : Hid (us.length = 3 ∧ WnI x4 vw xs us w3) := Lib.hid ⟨hul, hw⟩; obtain ⟨g3, c3, hvw, hg3, hc3, hm3⟩ := own_row3 hw hul; subst hvw; clear hp hul hw)
        | (at_builtin; refine wpList_own_src rfl (.tmp 50) (.tmp 53) 23 23 rfl x4.heap.size 22 j0 _ 1 24 Try.underlying23 hj0 hy0 hy1 hy2 rfl _ 3 xs rfl (own_alc (own_len3 HU.out.2 HU.out.1) _) _ 2 [.slice Av nv cv, .slice Au nu cu] rfl (src_two hy1 w3 _ _ _ _ _ _) (by unfold maxLen; omega) (by omega) (below_al HU.out.2.bel _).size ?_; intro v4 w4 hown4 hg4 hat4; obtain ⟨A4, c4, ws, hv4, hws, hb4⟩ := two_out HU.out.2 HU.out.1 Hx4.out.2.2.1 Hx4.out.2.2.2 hown4 hg4 hat4; subst hv4; have HW : Hid (WsR w4 ws A4 5 c4 ∧ Below w.heap.size w w4 ∧ AlR w4 L AL q cq) := Lib.hid ⟨hws, below_next Hx4.out.2.1 hb4, Hx4.out.1.below hb4⟩; have hc4 : 5 ≤ c4 := hws.cap; have hm4 : c4 ≤ 9223372036854775807 := (by have := hws.max; unfold maxLen at this; omega); clear hown4 hg4 hat4 hws hb4))
      obtain ⟨b4, o4, hA4⟩ := ws_or HW.out.1
      obtain ⟨b, o, rfl, hrl⟩ := rl_open HW.out.2.2.rd (val_ne HV.out)
      obtain ⟨rfl, hwa⟩ : A4 = some ⟨b4, o4, none⟩ ∧ WsAt w4 b4 o4 ws := by
        rcases hA4 with h | h
        · omega
        · exact h
      have H5 : Hid (AlR w4 L (some ⟨b, o, none⟩) q cq ∧ Below w.heap.size w w4) := Lib.hid ⟨HW.out.2.2, HW.out.2.1⟩
      have HWA : Hid (∀ k, k < 5 → ∃ A n c, Hid (∀ W, Below w4.heap.size w4 W → W.cell? ⟨b4, o4 + k, none⟩ = some (.slice A n c) ∧ WdR W (ws.getD k []) A n c)) := Lib.hid fun k hk => by
        obtain ⟨A, n, c, h1, h2⟩ := hwa k (by rw [← HW.out.1.len]; exact hk)
        exact ⟨A, n, c, Lib.hid fun W hb => ⟨(hb.cell (p := ⟨b4, o4 + k, none⟩) (World.block_lt_of_cell? w4 _ h1)).trans h1, h2.below hb⟩⟩
      have HKY : Hid (∀ (x : List Int) (K : List Int) (A1 : Option Addr) (n1 c1 : Nat) (W : World), Below w4.heap.size w4 W → WdR W x A1 n1 c1 → K = keyP L x → Calls Try.prog 18 #[.slice (some ⟨b, o, none⟩) q cq, .slice A1 n1 c1] W (LPost W K)) := Lib.hid fun x K A1 n1 c1 W hb hx hK => key_any L _ A1 q cq n1 c1 x K hK W (H5.out.1.below hb) hx
      have HCO : Hid (∀ (x y : List Int) (A1 A2 : Option Addr) (n1 c1 n2 c2 : Nat) (R : Int) (W : World), Below w4.heap.size w4 W → WdR W x A1 n1 c1 → WdR W y A2 n2 c2 → R = cmpU L x y 0 4 → Calls Try.prog 23 #[.slice (some ⟨b, o, none⟩) q cq, .slice A1 n1 c1, .slice A2 n2 c2] W (IPost W R)) := Lib.hid fun x y A1 A2 n1 c1 n2 c2 R W hb hx hy hR => compare_any L _ A1 A2 q cq n1 c1 n2 c2 x y R (by rw [cmpP_yes HV.out, hR]) W (H5.out.1.below hb) hx hy
      clear hA4 hrl hwa HA HU HW Hx1 Hx2 Hx3 Hx4 HTX1 HTX2 HRD1 HRD2
      go_loopg [13, 14, 15, 16, 17, 18, 19, 20, 21, 22] 5 (fun g s13 s14 s15 s16 s17 s18 s19 s20 s21 s22 wr => ∃ (i : Nat), i + g = 5 ∧ s13 = .int .i64 (i : Int) ∧ Hid (Below w4.heap.size w4 wr))
      case atStart => exact ⟨0, by omega, rfl, Lib.hid (Below.refl _ _)⟩
      case round =>
        obtain ⟨i, hi, rfl, HI⟩ := hrel
        by_cases hlt : i < 5
        · obtain ⟨g, rfl⟩ : ∃ g, gk = g + 1 := ⟨gk - 1, by omega⟩
          obtain ⟨Ai, ni, ci, HWI⟩ := HWA.out i hlt
          have a1 : decide ((i : Int) < 5) = true := decide_eq_true (by omega)
          have a2 : decide (i < 5) = true := decide_eq_true hlt
          have a3 : (i : Int) < 5 := by omega
          obtain ⟨K1, hK1⟩ : ∃ K, K = keyP L (ws.getD i []) := ⟨_, rfl⟩
          have HKP1 : Hid (3 ≤ K1.length ∧ K1.length ≤ 400003 ∧ ∀ n, n < K1.length → inI (K1.getD n 0)) := Lib.hid (by rw [hK1]; exact key_facts HV.out (HWI.out _ (Below.refl _ _)).2)
          have HK1 := Lib.hid hK1
          clear hK1
          go_wp2_with fail
          go_loopg [14, 15, 16, 17, 18, 19, 20, 21, 22] 5 (fun g s14 s15 s16 s17 s18 s19 s20 s21 s22 wr => ∃ (j : Nat), j + g = 5 ∧ s14 = .int .i64 (j : Int) ∧ Hid (Below w4.heap.size w4 wr))
          case atStart => exact ⟨0, by omega, rfl, Lib.hid HI.out⟩
          case round =>
            obtain ⟨j, hj, rfl, HJ⟩ := hrel
            by_cases hltj : j < 5
            · obtain ⟨g, rfl⟩ : ∃ g, gk = g + 1 := ⟨gk - 1, by omega⟩
              obtain ⟨Aj, nj, cj, HWJ⟩ := HWA.out j hltj
              have a4 : decide ((j : Int) < 5) = true := decide_eq_true (by omega)
              have a5 : decide (j < 5) = true := decide_eq_true hltj
              have a6 : (j : Int) < 5 := by omega
              obtain ⟨K2, hK2⟩ : ∃ K, K = keyP L (ws.getD j []) := ⟨_, rfl⟩
              have HKP2 : Hid (3 ≤ K2.length ∧ K2.length ≤ 400003 ∧ ∀ n, n < K2.length → inI (K2.getD n 0)) := Lib.hid (by rw [hK2]; exact key_facts HV.out (HWJ.out _ (Below.refl _ _)).2)
              have HK2 := Lib.hid hK2
              clear hK2
              have HY1 : Hid (∀ W, Below w4.heap.size w4 W → Calls Try.prog 18 #[.slice (some ⟨b, o, none⟩) q cq, .slice Ai ni ci] W (LPost W K1)) := Lib.hid fun W hb => HKY.out _ _ _ _ _ W hb (HWI.out W hb).2 HK1.out
              have HY2 : Hid (∀ W, Below w4.heap.size w4 W → Calls Try.prog 18 #[.slice (some ⟨b, o, none⟩) q cq, .slice Aj nj cj] W (LPost W K2)) := Lib.hid fun W hb => HKY.out _ _ _ _ _ W hb (HWJ.out W hb).2 HK2.out
              have hcc1 := (HWI.out _ HJ.out).1
              go_wp2_with (first
                | ((with_reducible refine (HY1.out _ HJ.out).mono ?_); rintro e x1 hp; obtain ⟨P1, cP1, nP1, rfl, hn, hr, hc, hm, hb⟩ := l_out hp; have Hx1 : Hid (Below w4.heap.size w4 x1 ∧ nP1 = K1.length ∧ Rd x1 P1 (iv K1)) := Lib.hid ⟨below_next HJ.out hb, hn, hr⟩; have hP13 : 3 ≤ nP1 := (by rw [hn]; exact HKP1.out.1); have hP1c : nP1 ≤ cP1 := hc; have hP1m : cP1 ≤ 9223372036854775807 := (by unfold maxLen at hm; exact hm); have hcc2 := (HWJ.out _ (below_next HJ.out hb)).1; clear hp hn hr hc hm hb)
                | ((with_reducible refine (HY2.out _ Hx1.out.1).mono ?_); rintro e x2 hp; obtain ⟨P2, cP2, nP2, rfl, hn, hr, hc, hm, hb⟩ := l_out hp; have Hx2 : Hid (Below w4.heap.size w4 x2 ∧ nP2 = K2.length ∧ Rd x2 P2 (iv K2)) := Lib.hid ⟨below_next Hx1.out.1 hb, hn, hr⟩; have hP23 : 3 ≤ nP2 := (by rw [hn]; exact HKP2.out.1); have hP2c : nP2 ≤ cP2 := hc; have hP2m : cP2 ≤ 9223372036854775807 := (by unfold maxLen at hm; exact hm); have HBAB : Hid (Below x1.heap.size x1 x2) := Lib.hid hb; clear hp hn hr hc hm hb))
              have HP1 : Hid (∀ W, Below x2.heap.size x2 W → Below x2.heap.size x2 W ∧ Rd W P1 (iv K1)) := Lib.hid fun W hb => ⟨hb, (Hx1.out.2.2.below HBAB.out).below hb⟩
              have HP1N : Hid (nP1 = K1.length ∧ K1.length ≤ 400003 ∧ ∀ n, n < K1.length → inI (K1.getD n 0)) := Lib.hid ⟨Hx1.out.2.1, HKP1.out.2⟩
              have HB2 : Hid (Below w4.heap.size w4 x2) := Lib.hid Hx2.out.1
              go_loopg [15, 19] nP1 (fun g s15 s19 wr => ∃ (n : Nat), n + g = nP1 ∧ s19 = .int .i64 (n : Int) ∧ Hid (wr.ownsRow x2.heap.size 5 1 s15 (flat (K1.take n)).length (bs (flat (K1.take n))) ∧ Below x2.heap.size x2 wr))
              case atStart => exact ⟨0, by omega, rfl, Lib.hid ⟨⟨rfl, .inl ⟨rfl, rfl⟩⟩, Below.refl _ _⟩⟩
              case round =>
                obtain ⟨n, hn, rfl, HN⟩ := hrel
                by_cases hltn : n < nP1
                · obtain ⟨g, rfl⟩ : ∃ g, gk = g + 1 := ⟨gk - 1, by omega⟩
                  obtain ⟨Ao, co, hvo, _, hoc, hom⟩ := Rd.of_own HN.out.1
                  subst hvo
                  obtain ⟨x, hx⟩ : ∃ x, x = K1.getD n 0 := ⟨_, rfl⟩
                  obtain ⟨bP1, oP1, hAP1, hil⟩ := il_open (HP1.out x2 (Below.refl _ _)).2 (by intro e; have := HP1N.out.1; rw [e] at this; simp at this; omega)
                  subst hAP1
                  have hcx : wr.cell? ⟨bP1, oP1 + n, none⟩ = some (.int .i64 x) := hil.at HN.out.2 (by rw [← HP1N.out.1]; exact hltn) hx
                  have HX : Hid (inI x ∧ K1.take (n + 1) = K1.take n ++ [x]) := Lib.hid ⟨by rw [hx]; exact HP1N.out.2.2 n (by rw [← HP1N.out.1]; exact hltn), by rw [hx]; exact take_getD (by rw [← HP1N.out.1]; exact hltn)⟩
                  have HI8 : Hid (∀ W, Calls Try.prog 36 #[.int .i64 x] W fun e w' => ∃ v', e = .returned v' ∧ w'.ownsRow W.heap.size 5 1 v' (en x).length (bs (en x)) ∧ Below W.heap.size W w') := Lib.hid fun W => int_any x HX.out.1 W
                  have HLE : Hid ((flat (K1.take n)).length ≤ 4000000) := Lib.hid (by have h1 := flat_len (K1.take n); have h2 := HP1N.out.2.1; rw [List.length_take] at h1; omega)
                  have hs1 : (flat (K1.take n)).length + (en x).length ≤ maxLen := by have := HLE.out; have := (en_length x).2; unfold maxLen; omega
                  have hs2 : ((flat (K1.take n)).length + (en x).length) * 1 ≤ 140737488355328 := by have := HLE.out; have := (en_length x).2; omega
                  obtain ⟨T, hT⟩ : ∃ T, T = flat (K1.take n) := ⟨_, rfl⟩
                  rw [← hT] at HN hs1 hs2 ⊢
                  have HT := Lib.hid hT
                  clear hx hil hT
                  go_wp2_with (first
                    | ((with_reducible refine (HI8.out _).mono ?_); rintro e y1 ⟨v1, rfl, hown1, hb1⟩; obtain ⟨A1, c1, hv1, hrd1, hc1, hm1⟩ := Rd.of_own hown1; subst hv1; have HY : Hid (y1.ownsRow x2.heap.size 5 1 (.slice Ao T.length co) T.length (bs T) ∧ Below x2.heap.size x2 y1 ∧ Rd y1 A1 (bs (en x)) ∧ (A1 = none → en x = [])) := Lib.hid ⟨own_keep HN.out.1 hb1, below_next HN.out.2 hb1, hrd1, own_none hown1⟩; clear hown1 hb1 hrd1)
                    | (at_builtin; refine wpList_own_src rfl (.tmp 93) (.tmp 98) 50 50 rfl x2.heap.size 5 u0 _ 1 1 Try.underlying50 hu0 hk0 hk1 hk2 rfl _ _ _ rfl HY.out.1 _ (en x).length (bs (en x)) rfl (src_rd Try.underlying50 hk1 HY.out.2.2.1 HY.out.2.2.2 _) hs1 hs2 HY.out.2.1.size ?_; intro v2 y2 hown2 hg2 hat2; have HZ : Hid (y2.ownsRow x2.heap.size 5 1 v2 (T.length + (en x).length) (bs T ++ bs (en x)) ∧ Below x2.heap.size x2 y2) := Lib.hid ⟨hown2, below_own HY.out.2.1 hg2 (fun g hg => (HY.out.1.lt _ hg).1)⟩; clear hown2 hg2 hat2))
                  go_roundg g
                  case rel => exact ⟨n + 1, by omega, by go_num, Lib.hid ⟨by rw [HX.out.2, flat_snoc, ← HT.out, List.length_append, bs_append]; exact HZ.out.1, HZ.out.2⟩⟩
                  case measure => omega
                · obtain rfl : n = nP1 := by omega
                  have HOP1 : Hid (wr.ownsRow x2.heap.size 5 1 u15 (flat K1).length (bs (flat K1))) := Lib.hid (by have := HN.out.1; rwa [HP1N.out.1, List.take_length] at this)
                  have HBP1 : Hid (Below x2.heap.size x2 wr) := Lib.hid HN.out.2
                  rename World => x3
                  clear HN
                  obtain ⟨A15, c15, hv15, hr15, hc15, hm15⟩ := Rd.of_own HOP1.out
                  subst hv15
                  have HR15 : Hid (∀ W, Below x3.heap.size x3 W → Rd W A15 (bs (flat K1))) := Lib.hid fun W hb => hr15.below hb
                  have HP2 : Hid (∀ W, Below x3.heap.size x3 W → Below x3.heap.size x3 W ∧ Rd W P2 (iv K2)) := Lib.hid fun W hb => ⟨hb, (Hx2.out.2.2.below HBP1.out).below hb⟩
                  have HP2N : Hid (nP2 = K2.length ∧ K2.length ≤ 400003 ∧ ∀ n, n < K2.length → inI (K2.getD n 0)) := Lib.hid ⟨Hx2.out.2.1, HKP2.out.2⟩
                  have HB3 : Hid (Below w4.heap.size w4 x3) := Lib.hid (below_next HB2.out HBP1.out)
                  have hle15 : (flat K1).length ≤ 9223372036854775807 := by have h1 := flat_len K1; have := HP1N.out.2.1; omega
                  clear hr15
                  go_wp2_with fail
                  go_loopg [16, 20] nP2 (fun g s16 s20 wr => ∃ (n : Nat), n + g = nP2 ∧ s20 = .int .i64 (n : Int) ∧ Hid (wr.ownsRow x3.heap.size 5 1 s16 (flat (K2.take n)).length (bs (flat (K2.take n))) ∧ Below x3.heap.size x3 wr))
                  case atStart => exact ⟨0, by omega, rfl, Lib.hid ⟨⟨rfl, .inl ⟨rfl, rfl⟩⟩, Below.refl _ _⟩⟩
                  case round =>
                    obtain ⟨n, hn, rfl, HN⟩ := hrel
                    by_cases hltn : n < nP2
                    · obtain ⟨g, rfl⟩ : ∃ g, gk = g + 1 := ⟨gk - 1, by omega⟩
                      obtain ⟨Ao, co, hvo, _, hoc, hom⟩ := Rd.of_own HN.out.1
                      subst hvo
                      obtain ⟨x, hx⟩ : ∃ x, x = K2.getD n 0 := ⟨_, rfl⟩
                      obtain ⟨bP2, oP2, hAP2, hil⟩ := il_open (HP2.out x3 (Below.refl _ _)).2 (by intro e; have := HP2N.out.1; rw [e] at this; simp at this; omega)
                      subst hAP2
                      have hcx : wr.cell? ⟨bP2, oP2 + n, none⟩ = some (.int .i64 x) := hil.at HN.out.2 (by rw [← HP2N.out.1]; exact hltn) hx
                      have HX : Hid (inI x ∧ K2.take (n + 1) = K2.take n ++ [x]) := Lib.hid ⟨by rw [hx]; exact HP2N.out.2.2 n (by rw [← HP2N.out.1]; exact hltn), by rw [hx]; exact take_getD (by rw [← HP2N.out.1]; exact hltn)⟩
                      have HI8 : Hid (∀ W, Calls Try.prog 36 #[.int .i64 x] W fun e w' => ∃ v', e = .returned v' ∧ w'.ownsRow W.heap.size 5 1 v' (en x).length (bs (en x)) ∧ Below W.heap.size W w') := Lib.hid fun W => int_any x HX.out.1 W
                      have HLE : Hid ((flat (K2.take n)).length ≤ 4000000) := Lib.hid (by have h1 := flat_len (K2.take n); have h2 := HP2N.out.2.1; rw [List.length_take] at h1; omega)
                      have hs1 : (flat (K2.take n)).length + (en x).length ≤ maxLen := by have := HLE.out; have := (en_length x).2; unfold maxLen; omega
                      have hs2 : ((flat (K2.take n)).length + (en x).length) * 1 ≤ 140737488355328 := by have := HLE.out; have := (en_length x).2; omega
                      obtain ⟨T, hT⟩ : ∃ T, T = flat (K2.take n) := ⟨_, rfl⟩
                      rw [← hT] at HN hs1 hs2 ⊢
                      have HT := Lib.hid hT
                      clear hx hil hT
                      go_wp2_with (first
                        | ((with_reducible refine (HI8.out _).mono ?_); rintro e y1 ⟨v1, rfl, hown1, hb1⟩; obtain ⟨A1, c1, hv1, hrd1, hc1, hm1⟩ := Rd.of_own hown1; subst hv1; have HY : Hid (y1.ownsRow x3.heap.size 5 1 (.slice Ao T.length co) T.length (bs T) ∧ Below x3.heap.size x3 y1 ∧ Rd y1 A1 (bs (en x)) ∧ (A1 = none → en x = [])) := Lib.hid ⟨own_keep HN.out.1 hb1, below_next HN.out.2 hb1, hrd1, own_none hown1⟩; clear hown1 hb1 hrd1)
                        | (at_builtin; refine wpList_own_src rfl (.tmp 106) (.tmp 111) 50 50 rfl x3.heap.size 5 u0 _ 1 1 Try.underlying50 hu0 hk0 hk1 hk2 rfl _ _ _ rfl HY.out.1 _ (en x).length (bs (en x)) rfl (src_rd Try.underlying50 hk1 HY.out.2.2.1 HY.out.2.2.2 _) hs1 hs2 HY.out.2.1.size ?_; intro v2 y2 hown2 hg2 hat2; have HZ : Hid (y2.ownsRow x3.heap.size 5 1 v2 (T.length + (en x).length) (bs T ++ bs (en x)) ∧ Below x3.heap.size x3 y2) := Lib.hid ⟨hown2, below_own HY.out.2.1 hg2 (fun g hg => (HY.out.1.lt _ hg).1)⟩; clear hown2 hg2 hat2))
                      go_roundg g
                      case rel => exact ⟨n + 1, by omega, by go_num, Lib.hid ⟨by rw [HX.out.2, flat_snoc, ← HT.out, List.length_append, bs_append]; exact HZ.out.1, HZ.out.2⟩⟩
                      case measure => omega
                    · obtain rfl : n = nP2 := by omega
                      have HOP2 : Hid (wr.ownsRow x3.heap.size 5 1 u16 (flat K2).length (bs (flat K2))) := Lib.hid (by have := HN.out.1; rwa [HP2N.out.1, List.take_length] at this)
                      have HBP2 : Hid (Below x3.heap.size x3 wr) := Lib.hid HN.out.2
                      rename World => x4
                      clear HN
                      obtain ⟨A16, c16, hv16, hr16, hc16, hm16⟩ := Rd.of_own HOP2.out
                      subst hv16
                      have HB4 : Hid (Below w4.heap.size w4 x4) := Lib.hid (below_next HB3.out HBP2.out)
                      obtain ⟨R, hR⟩ : ∃ R, R = cmpU L (ws.getD i []) (ws.getD j []) 0 4 := ⟨_, rfl⟩
                      have HC1 : Hid (∀ W, Below w4.heap.size w4 W → Calls Try.prog 23 #[.slice (some ⟨b, o, none⟩) q cq, .slice Ai ni ci, .slice Aj nj cj] W fun e w' => e = .returned (.int .i64 R) ∧ Below w4.heap.size w4 w') := Lib.hid fun W hb => (HCO.out _ _ _ _ _ _ _ _ R W hb (HWI.out W hb).2 (HWJ.out W hb).2 hR).mono fun e w' hp => ⟨(i_out hp).1, below_next hb (i_out hp).2⟩
                      have HC2 : Hid (∀ W, Below x4.heap.size x4 W → Calls Try.prog 23 #[.slice (some ⟨b, o, none⟩) q cq, .slice Ai ni ci, .slice Aj nj cj] W fun e w' => e = .returned (.int .i64 R) ∧ Below x4.heap.size x4 w') := Lib.hid fun W hb => (HCO.out _ _ _ _ _ _ _ _ R W (below_next HB4.out hb) (HWI.out W (below_next HB4.out hb)).2 (HWJ.out W (below_next HB4.out hb)).2 hR).mono fun e w' hp => ⟨(i_out hp).1, below_next hb (i_out hp).2⟩
                      obtain ⟨X, hX⟩ : ∃ X, X = decide (R < 0) := ⟨_, rfl⟩
                      obtain ⟨Y, hY⟩ : ∃ Y, Y = decide (R = 0) := ⟨_, rfl⟩
                      obtain ⟨s1, hs1⟩ : ∃ s, s = tb (flat K1) := ⟨_, rfl⟩
                      obtain ⟨s2, hs2⟩ : ∃ s, s = tb (flat K2) := ⟨_, rfl⟩
                      have hf3 : Op.bytesLess s1.toList s2.toList = X := by rw [hs1, hs2, tb_toList, tb_toList, hX, hR, HK1.out, HK2.out]; exact (key_bytes HV.out _ _).1
                      have hf4 : (s1.toList == s2.toList) = Y := by rw [hs1, hs2, tb_toList, tb_toList, hY, hR, HK1.out, HK2.out]; exact (key_bytes HV.out _ _).2
                      have hx1 : decide (R < 0) = X := hX.symm
                      have hy1 : decide (R = 0) = Y := hY.symm
                      have hy2 : (R == 0) = Y := by rw [hY]; rfl
                      have HCV : Hid (∀ W, Below x4.heap.size x4 W → (convert 50 9 (.slice A15 (flat K1).length c15)).run Try.prog W = .ok (.string s1) W ∧ (convert 50 9 (.slice A16 (flat K2).length c16)).run Try.prog W = .ok (.string s2) W) := Lib.hid fun W hb => ⟨by rw [hs1]; exact conv_rd Try.underlying50 Try.underlying5 Try.underlying9 (HR15.out W (below_next HBP2.out hb)) c15, by rw [hs2]; exact conv_rd Try.underlying50 Try.underlying5 Try.underlying9 (hr16.below hb) c16⟩
                      have l1 : ∀ p : Wo (Below x4.heap.size x4), p.wo.cell? ⟨b4, o4 + i, none⟩ = some (.slice Ai ni ci) := fun p => (HWI.out _ (below_next HB4.out p.ok)).1
                      have l2 : ∀ p : Wo (Below x4.heap.size x4), p.wo.cell? ⟨b4, o4 + j, none⟩ = some (.slice Aj nj cj) := fun p => (HWJ.out _ (below_next HB4.out p.ok)).1
                      have H44 : Hid (Below x4.heap.size x4 x4) := Lib.hid (Below.refl _ _)
                      clear hR hX hY hs1 hs2 hr16 hcc1 hcc2
                      go_wp2_with fail
                      haveI : Nonempty (Wo (Below x4.heap.size x4)) := ⟨⟨x4, H44.out⟩⟩
                      refine wp_region_wo (Below x4.heap.size x4) mixedTry (by kernel_rfl) (below_drewN H44.out 1) ?_
                      repeat (go_big_quiet_step ((go_at_call 23; exact calls_wo HC2.out _)))
                      refine wpQuiet_nil ?_
                      intro x5 hw2
                      obtain ⟨⟨x5x, hok⟩, hw3⟩ := hw2
                      have hw4 : x5 = x5x := hw3
                      subst hw4
                      have Hx5 := Lib.hid hok
                      clear hw3 hok
                      go_wp2_with fail
                      haveI : Nonempty (Wo (Below x4.heap.size x4)) := ⟨⟨x5, Hx5.out⟩⟩
                      refine wp_region_wo (Below x4.heap.size x4) mixedTry (by kernel_rfl) (below_drewN Hx5.out 1) ?_
                      repeat (go_big_quiet_step ((go_at_call 23; exact calls_wo HC2.out _)))
                      refine wpQuiet_nil ?_
                      intro x6 hw2
                      obtain ⟨⟨x6x, hok⟩, hw3⟩ := hw2
                      have hw4 : x6 = x6x := hw3
                      subst hw4
                      have Hx6 := Lib.hid hok
                      clear hw3 hok
                      obtain ⟨hcv1, hcv2⟩ := HCV.out _ Hx6.out
                      go_wp2_with fail
                      go_roundg g
                      case rel => exact ⟨j + 1, by omega, by go_num, Lib.hid (below_next HB4.out Hx6.out)⟩
                      case measure => omega
            · obtain rfl : j = 5 := by omega
              go_wp2_with fail
              go_roundg g
              case rel => exact ⟨i + 1, by omega, by go_num, Lib.hid HJ.out⟩
              case measure => omega
        · obtain rfl : i = 5 := by omega
          go_wp2_with ((with_reducible refine (HLI.out _).mono ?_); rintro e w7 hp; obtain ⟨rfl, hb⟩ := boolb_out hp; have H7 : Hid (Below w.heap.size w w7) := Lib.hid (below_next H5.out.2 (below_next HI.out hb)); clear hp hb)
          go_ret
          exact ⟨rfl, H7.out⟩
    · have q3 : (e2 == -1) = false := beq_eq_false_iff_ne.2 q2
      have q4 : decide (e2 = -1) = false := decide_eq_false q2
      go_enter Try.func10, Try.ntmps10
      go_wp2_with (first
        | ((with_reducible refine HLE.out.mono ?_); rintro e w1 hp; obtain ⟨AL, q, cq, rfl, h1, h2, h3, h4, hb⟩ := lt_out hp; have HA : Hid (AlR w1 L AL q cq ∧ Below w.heap.size w w1) := Lib.hid ⟨⟨h1, h3, h4, HTX.out, h2⟩, hb⟩; have hqc : q ≤ cq := h3; have hqb : cq ≤ 9223372036854775807 := (by unfold maxLen at h4; omega); clear hp h1 h2 h3 h4 hb)
        | ((with_reducible refine (HTX1.out _ _ _ _ HA.out.2 HA.out.1).mono ?_); rintro e x1 hp; obtain ⟨rfl, hb⟩ := tx_out hp; have Hx1 : Hid (AlR x1 L AL q cq ∧ Below w.heap.size w x1) := Lib.hid ⟨HA.out.1.below hb, below_next HA.out.2 hb⟩; clear hp hb)
        | ((with_reducible refine (HRD1.out _ _ _ _ Hx1.out.1).mono ?_); rintro e x2 hp; obtain ⟨Av, cv, nv, rfl, hn, hr, hc, hm, hb⟩ := r_out2' hp; have Hx2 : Hid (AlR x2 L AL q cq ∧ Below w.heap.size w x2 ∧ WdR x2 v1 Av nv cv) := Lib.hid ⟨Hx1.out.1.below hb, below_next Hx1.out.2 hb, ⟨hn, by have := HVL.out.1; omega, hc, hm, hr⟩⟩; clear hp hn hr hc hm hb)
        | ((with_reducible refine (HTX2.out _ _ _ _ Hx2.out.2.1 Hx2.out.1).mono ?_); rintro e x3 hp; obtain ⟨rfl, hb⟩ := tx_out hp; have Hx3 : Hid (AlR x3 L AL q cq ∧ Below w.heap.size w x3 ∧ WdR x3 v1 Av nv cv) := Lib.hid ⟨Hx2.out.1.below hb, below_next Hx2.out.2.1 hb, Hx2.out.2.2.below hb⟩; clear hp hb)
        | ((with_reducible refine (HRD2.out _ _ _ _ Hx3.out.1).mono ?_); rintro e x4 hp; obtain ⟨Au, cu, nu, rfl, hn, hr, hc, hm, hb⟩ := r_out2' hp; have Hx4 : Hid (AlR x4 L AL q cq ∧ Below w.heap.size w x4 ∧ WdR x4 v1 Av nv cv ∧ WdR x4 v2 Au nu cu) := Lib.hid ⟨Hx3.out.1.below hb, below_next Hx3.out.2.1 hb, Hx3.out.2.2.below hb, ⟨hn, by have := HVL.out.2; omega, hc, hm, hr⟩⟩; clear hp hn hr hc hm hb)
        | ((with_reducible refine (HWD.out _ _ _ _ Hx4.out.2.1 Hx4.out.1).mono ?_); rintro e w4 hp; obtain ⟨A4, c4, ws, rfl, hws, hb⟩ := words_out (by omega) hp; have HW : Hid (WsR w4 ws A4 3 c4 ∧ Below w.heap.size w w4 ∧ AlR w4 L AL q cq) := Lib.hid ⟨hws, below_next Hx4.out.2.1 hb, Hx4.out.1.below hb⟩; have hc4 : 3 ≤ c4 := hws.cap; have hm4 : c4 ≤ 9223372036854775807 := (by have := hws.max; unfold maxLen at this; omega); clear hp hws hb))
      obtain ⟨b4, o4, hA4⟩ := ws_or HW.out.1
      obtain ⟨b, o, rfl, hrl⟩ := rl_open HW.out.2.2.rd (val_ne HV.out)
      obtain ⟨rfl, hwa⟩ : A4 = some ⟨b4, o4, none⟩ ∧ WsAt w4 b4 o4 ws := by
        rcases hA4 with h | h
        · omega
        · exact h
      have H5 : Hid (AlR w4 L (some ⟨b, o, none⟩) q cq ∧ Below w.heap.size w w4) := Lib.hid ⟨HW.out.2.2, HW.out.2.1⟩
      have HWA : Hid (∀ k, k < 3 → ∃ A n c, Hid (∀ W, Below w4.heap.size w4 W → W.cell? ⟨b4, o4 + k, none⟩ = some (.slice A n c) ∧ WdR W (ws.getD k []) A n c)) := Lib.hid fun k hk => by
        obtain ⟨A, n, c, h1, h2⟩ := hwa k (by rw [← HW.out.1.len]; exact hk)
        exact ⟨A, n, c, Lib.hid fun W hb => ⟨(hb.cell (p := ⟨b4, o4 + k, none⟩) (World.block_lt_of_cell? w4 _ h1)).trans h1, h2.below hb⟩⟩
      have HKY : Hid (∀ (x : List Int) (K : List Int) (A1 : Option Addr) (n1 c1 : Nat) (W : World), Below w4.heap.size w4 W → WdR W x A1 n1 c1 → K = keyP L x → Calls Try.prog 18 #[.slice (some ⟨b, o, none⟩) q cq, .slice A1 n1 c1] W (LPost W K)) := Lib.hid fun x K A1 n1 c1 W hb hx hK => key_any L _ A1 q cq n1 c1 x K hK W (H5.out.1.below hb) hx
      have HCO : Hid (∀ (x y : List Int) (A1 A2 : Option Addr) (n1 c1 n2 c2 : Nat) (R : Int) (W : World), Below w4.heap.size w4 W → WdR W x A1 n1 c1 → WdR W y A2 n2 c2 → R = cmpU L x y 0 4 → Calls Try.prog 23 #[.slice (some ⟨b, o, none⟩) q cq, .slice A1 n1 c1, .slice A2 n2 c2] W (IPost W R)) := Lib.hid fun x y A1 A2 n1 c1 n2 c2 R W hb hx hy hR => compare_any L _ A1 A2 q cq n1 c1 n2 c2 x y R (by rw [cmpP_yes HV.out, hR]) W (H5.out.1.below hb) hx hy
      clear hA4 hrl hwa HA HW Hx1 Hx2 Hx3 Hx4 HTX1 HTX2 HRD1 HRD2
      go_loopg [13, 14, 15, 16, 17, 18, 19, 20, 21, 22] 3 (fun g s13 s14 s15 s16 s17 s18 s19 s20 s21 s22 wr => ∃ (i : Nat), i + g = 3 ∧ s13 = .int .i64 (i : Int) ∧ Hid (Below w4.heap.size w4 wr))
      case atStart => exact ⟨0, by omega, rfl, Lib.hid (Below.refl _ _)⟩
      case round =>
        obtain ⟨i, hi, rfl, HI⟩ := hrel
        by_cases hlt : i < 3
        · obtain ⟨g, rfl⟩ : ∃ g, gk = g + 1 := ⟨gk - 1, by omega⟩
          obtain ⟨Ai, ni, ci, HWI⟩ := HWA.out i hlt
          have a1 : decide ((i : Int) < 3) = true := decide_eq_true (by omega)
          have a2 : decide (i < 3) = true := decide_eq_true hlt
          have a3 : (i : Int) < 3 := by omega
          obtain ⟨K1, hK1⟩ : ∃ K, K = keyP L (ws.getD i []) := ⟨_, rfl⟩
          have HKP1 : Hid (3 ≤ K1.length ∧ K1.length ≤ 400003 ∧ ∀ n, n < K1.length → inI (K1.getD n 0)) := Lib.hid (by rw [hK1]; exact key_facts HV.out (HWI.out _ (Below.refl _ _)).2)
          have HK1 := Lib.hid hK1
          clear hK1
          go_wp2_with fail
          go_loopg [14, 15, 16, 17, 18, 19, 20, 21, 22] 3 (fun g s14 s15 s16 s17 s18 s19 s20 s21 s22 wr => ∃ (j : Nat), j + g = 3 ∧ s14 = .int .i64 (j : Int) ∧ Hid (Below w4.heap.size w4 wr))
          case atStart => exact ⟨0, by omega, rfl, Lib.hid HI.out⟩
          case round =>
            obtain ⟨j, hj, rfl, HJ⟩ := hrel
            by_cases hltj : j < 3
            · obtain ⟨g, rfl⟩ : ∃ g, gk = g + 1 := ⟨gk - 1, by omega⟩
              obtain ⟨Aj, nj, cj, HWJ⟩ := HWA.out j hltj
              have a4 : decide ((j : Int) < 3) = true := decide_eq_true (by omega)
              have a5 : decide (j < 3) = true := decide_eq_true hltj
              have a6 : (j : Int) < 3 := by omega
              obtain ⟨K2, hK2⟩ : ∃ K, K = keyP L (ws.getD j []) := ⟨_, rfl⟩
              have HKP2 : Hid (3 ≤ K2.length ∧ K2.length ≤ 400003 ∧ ∀ n, n < K2.length → inI (K2.getD n 0)) := Lib.hid (by rw [hK2]; exact key_facts HV.out (HWJ.out _ (Below.refl _ _)).2)
              have HK2 := Lib.hid hK2
              clear hK2
              have HY1 : Hid (∀ W, Below w4.heap.size w4 W → Calls Try.prog 18 #[.slice (some ⟨b, o, none⟩) q cq, .slice Ai ni ci] W (LPost W K1)) := Lib.hid fun W hb => HKY.out _ _ _ _ _ W hb (HWI.out W hb).2 HK1.out
              have HY2 : Hid (∀ W, Below w4.heap.size w4 W → Calls Try.prog 18 #[.slice (some ⟨b, o, none⟩) q cq, .slice Aj nj cj] W (LPost W K2)) := Lib.hid fun W hb => HKY.out _ _ _ _ _ W hb (HWJ.out W hb).2 HK2.out
              have hcc1 := (HWI.out _ HJ.out).1
              go_wp2_with (first
                | ((with_reducible refine (HY1.out _ HJ.out).mono ?_); rintro e x1 hp; obtain ⟨P1, cP1, nP1, rfl, hn, hr, hc, hm, hb⟩ := l_out hp; have Hx1 : Hid (Below w4.heap.size w4 x1 ∧ nP1 = K1.length ∧ Rd x1 P1 (iv K1)) := Lib.hid ⟨below_next HJ.out hb, hn, hr⟩; have hP13 : 3 ≤ nP1 := (by rw [hn]; exact HKP1.out.1); have hP1c : nP1 ≤ cP1 := hc; have hP1m : cP1 ≤ 9223372036854775807 := (by unfold maxLen at hm; exact hm); have hcc2 := (HWJ.out _ (below_next HJ.out hb)).1; clear hp hn hr hc hm hb)
                | ((with_reducible refine (HY2.out _ Hx1.out.1).mono ?_); rintro e x2 hp; obtain ⟨P2, cP2, nP2, rfl, hn, hr, hc, hm, hb⟩ := l_out hp; have Hx2 : Hid (Below w4.heap.size w4 x2 ∧ nP2 = K2.length ∧ Rd x2 P2 (iv K2)) := Lib.hid ⟨below_next Hx1.out.1 hb, hn, hr⟩; have hP23 : 3 ≤ nP2 := (by rw [hn]; exact HKP2.out.1); have hP2c : nP2 ≤ cP2 := hc; have hP2m : cP2 ≤ 9223372036854775807 := (by unfold maxLen at hm; exact hm); have HBAB : Hid (Below x1.heap.size x1 x2) := Lib.hid hb; clear hp hn hr hc hm hb))
              have HP1 : Hid (∀ W, Below x2.heap.size x2 W → Below x2.heap.size x2 W ∧ Rd W P1 (iv K1)) := Lib.hid fun W hb => ⟨hb, (Hx1.out.2.2.below HBAB.out).below hb⟩
              have HP1N : Hid (nP1 = K1.length ∧ K1.length ≤ 400003 ∧ ∀ n, n < K1.length → inI (K1.getD n 0)) := Lib.hid ⟨Hx1.out.2.1, HKP1.out.2⟩
              have HB2 : Hid (Below w4.heap.size w4 x2) := Lib.hid Hx2.out.1
              go_loopg [15, 19] nP1 (fun g s15 s19 wr => ∃ (n : Nat), n + g = nP1 ∧ s19 = .int .i64 (n : Int) ∧ Hid (wr.ownsRow x2.heap.size 5 1 s15 (flat (K1.take n)).length (bs (flat (K1.take n))) ∧ Below x2.heap.size x2 wr))
              case atStart => exact ⟨0, by omega, rfl, Lib.hid ⟨⟨rfl, .inl ⟨rfl, rfl⟩⟩, Below.refl _ _⟩⟩
              case round =>
                obtain ⟨n, hn, rfl, HN⟩ := hrel
                by_cases hltn : n < nP1
                · obtain ⟨g, rfl⟩ : ∃ g, gk = g + 1 := ⟨gk - 1, by omega⟩
                  obtain ⟨Ao, co, hvo, _, hoc, hom⟩ := Rd.of_own HN.out.1
                  subst hvo
                  obtain ⟨x, hx⟩ : ∃ x, x = K1.getD n 0 := ⟨_, rfl⟩
                  obtain ⟨bP1, oP1, hAP1, hil⟩ := il_open (HP1.out x2 (Below.refl _ _)).2 (by intro e; have := HP1N.out.1; rw [e] at this; simp at this; omega)
                  subst hAP1
                  have hcx : wr.cell? ⟨bP1, oP1 + n, none⟩ = some (.int .i64 x) := hil.at HN.out.2 (by rw [← HP1N.out.1]; exact hltn) hx
                  have HX : Hid (inI x ∧ K1.take (n + 1) = K1.take n ++ [x]) := Lib.hid ⟨by rw [hx]; exact HP1N.out.2.2 n (by rw [← HP1N.out.1]; exact hltn), by rw [hx]; exact take_getD (by rw [← HP1N.out.1]; exact hltn)⟩
                  have HI8 : Hid (∀ W, Calls Try.prog 36 #[.int .i64 x] W fun e w' => ∃ v', e = .returned v' ∧ w'.ownsRow W.heap.size 5 1 v' (en x).length (bs (en x)) ∧ Below W.heap.size W w') := Lib.hid fun W => int_any x HX.out.1 W
                  have HLE : Hid ((flat (K1.take n)).length ≤ 4000000) := Lib.hid (by have h1 := flat_len (K1.take n); have h2 := HP1N.out.2.1; rw [List.length_take] at h1; omega)
                  have hs1 : (flat (K1.take n)).length + (en x).length ≤ maxLen := by have := HLE.out; have := (en_length x).2; unfold maxLen; omega
                  have hs2 : ((flat (K1.take n)).length + (en x).length) * 1 ≤ 140737488355328 := by have := HLE.out; have := (en_length x).2; omega
                  obtain ⟨T, hT⟩ : ∃ T, T = flat (K1.take n) := ⟨_, rfl⟩
                  rw [← hT] at HN hs1 hs2 ⊢
                  have HT := Lib.hid hT
                  clear hx hil hT
                  go_wp2_with (first
                    | ((with_reducible refine (HI8.out _).mono ?_); rintro e y1 ⟨v1, rfl, hown1, hb1⟩; obtain ⟨A1, c1, hv1, hrd1, hc1, hm1⟩ := Rd.of_own hown1; subst hv1; have HY : Hid (y1.ownsRow x2.heap.size 5 1 (.slice Ao T.length co) T.length (bs T) ∧ Below x2.heap.size x2 y1 ∧ Rd y1 A1 (bs (en x)) ∧ (A1 = none → en x = [])) := Lib.hid ⟨own_keep HN.out.1 hb1, below_next HN.out.2 hb1, hrd1, own_none hown1⟩; clear hown1 hb1 hrd1)
                    | (at_builtin; refine wpList_own_src rfl (.tmp 93) (.tmp 98) 50 50 rfl x2.heap.size 5 u0 _ 1 1 Try.underlying50 hu0 hk0 hk1 hk2 rfl _ _ _ rfl HY.out.1 _ (en x).length (bs (en x)) rfl (src_rd Try.underlying50 hk1 HY.out.2.2.1 HY.out.2.2.2 _) hs1 hs2 HY.out.2.1.size ?_; intro v2 y2 hown2 hg2 hat2; have HZ : Hid (y2.ownsRow x2.heap.size 5 1 v2 (T.length + (en x).length) (bs T ++ bs (en x)) ∧ Below x2.heap.size x2 y2) := Lib.hid ⟨hown2, below_own HY.out.2.1 hg2 (fun g hg => (HY.out.1.lt _ hg).1)⟩; clear hown2 hg2 hat2))
                  go_roundg g
                  case rel => exact ⟨n + 1, by omega, by go_num, Lib.hid ⟨by rw [HX.out.2, flat_snoc, ← HT.out, List.length_append, bs_append]; exact HZ.out.1, HZ.out.2⟩⟩
                  case measure => omega
                · obtain rfl : n = nP1 := by omega
                  have HOP1 : Hid (wr.ownsRow x2.heap.size 5 1 u15 (flat K1).length (bs (flat K1))) := Lib.hid (by have := HN.out.1; rwa [HP1N.out.1, List.take_length] at this)
                  have HBP1 : Hid (Below x2.heap.size x2 wr) := Lib.hid HN.out.2
                  rename World => x3
                  clear HN
                  obtain ⟨A15, c15, hv15, hr15, hc15, hm15⟩ := Rd.of_own HOP1.out
                  subst hv15
                  have HR15 : Hid (∀ W, Below x3.heap.size x3 W → Rd W A15 (bs (flat K1))) := Lib.hid fun W hb => hr15.below hb
                  have HP2 : Hid (∀ W, Below x3.heap.size x3 W → Below x3.heap.size x3 W ∧ Rd W P2 (iv K2)) := Lib.hid fun W hb => ⟨hb, (Hx2.out.2.2.below HBP1.out).below hb⟩
                  have HP2N : Hid (nP2 = K2.length ∧ K2.length ≤ 400003 ∧ ∀ n, n < K2.length → inI (K2.getD n 0)) := Lib.hid ⟨Hx2.out.2.1, HKP2.out.2⟩
                  have HB3 : Hid (Below w4.heap.size w4 x3) := Lib.hid (below_next HB2.out HBP1.out)
                  have hle15 : (flat K1).length ≤ 9223372036854775807 := by have h1 := flat_len K1; have := HP1N.out.2.1; omega
                  clear hr15
                  go_wp2_with fail
                  go_loopg [16, 20] nP2 (fun g s16 s20 wr => ∃ (n : Nat), n + g = nP2 ∧ s20 = .int .i64 (n : Int) ∧ Hid (wr.ownsRow x3.heap.size 5 1 s16 (flat (K2.take n)).length (bs (flat (K2.take n))) ∧ Below x3.heap.size x3 wr))
                  case atStart => exact ⟨0, by omega, rfl, Lib.hid ⟨⟨rfl, .inl ⟨rfl, rfl⟩⟩, Below.refl _ _⟩⟩
                  case round =>
                    obtain ⟨n, hn, rfl, HN⟩ := hrel
                    by_cases hltn : n < nP2
                    · obtain ⟨g, rfl⟩ : ∃ g, gk = g + 1 := ⟨gk - 1, by omega⟩
                      obtain ⟨Ao, co, hvo, _, hoc, hom⟩ := Rd.of_own HN.out.1
                      subst hvo
                      obtain ⟨x, hx⟩ : ∃ x, x = K2.getD n 0 := ⟨_, rfl⟩
                      obtain ⟨bP2, oP2, hAP2, hil⟩ := il_open (HP2.out x3 (Below.refl _ _)).2 (by intro e; have := HP2N.out.1; rw [e] at this; simp at this; omega)
                      subst hAP2
                      have hcx : wr.cell? ⟨bP2, oP2 + n, none⟩ = some (.int .i64 x) := hil.at HN.out.2 (by rw [← HP2N.out.1]; exact hltn) hx
                      have HX : Hid (inI x ∧ K2.take (n + 1) = K2.take n ++ [x]) := Lib.hid ⟨by rw [hx]; exact HP2N.out.2.2 n (by rw [← HP2N.out.1]; exact hltn), by rw [hx]; exact take_getD (by rw [← HP2N.out.1]; exact hltn)⟩
                      have HI8 : Hid (∀ W, Calls Try.prog 36 #[.int .i64 x] W fun e w' => ∃ v', e = .returned v' ∧ w'.ownsRow W.heap.size 5 1 v' (en x).length (bs (en x)) ∧ Below W.heap.size W w') := Lib.hid fun W => int_any x HX.out.1 W
                      have HLE : Hid ((flat (K2.take n)).length ≤ 4000000) := Lib.hid (by have h1 := flat_len (K2.take n); have h2 := HP2N.out.2.1; rw [List.length_take] at h1; omega)
                      have hs1 : (flat (K2.take n)).length + (en x).length ≤ maxLen := by have := HLE.out; have := (en_length x).2; unfold maxLen; omega
                      have hs2 : ((flat (K2.take n)).length + (en x).length) * 1 ≤ 140737488355328 := by have := HLE.out; have := (en_length x).2; omega
                      obtain ⟨T, hT⟩ : ∃ T, T = flat (K2.take n) := ⟨_, rfl⟩
                      rw [← hT] at HN hs1 hs2 ⊢
                      have HT := Lib.hid hT
                      clear hx hil hT
                      go_wp2_with (first
                        | ((with_reducible refine (HI8.out _).mono ?_); rintro e y1 ⟨v1, rfl, hown1, hb1⟩; obtain ⟨A1, c1, hv1, hrd1, hc1, hm1⟩ := Rd.of_own hown1; subst hv1; have HY : Hid (y1.ownsRow x3.heap.size 5 1 (.slice Ao T.length co) T.length (bs T) ∧ Below x3.heap.size x3 y1 ∧ Rd y1 A1 (bs (en x)) ∧ (A1 = none → en x = [])) := Lib.hid ⟨own_keep HN.out.1 hb1, below_next HN.out.2 hb1, hrd1, own_none hown1⟩; clear hown1 hb1 hrd1)
                        | (at_builtin; refine wpList_own_src rfl (.tmp 106) (.tmp 111) 50 50 rfl x3.heap.size 5 u0 _ 1 1 Try.underlying50 hu0 hk0 hk1 hk2 rfl _ _ _ rfl HY.out.1 _ (en x).length (bs (en x)) rfl (src_rd Try.underlying50 hk1 HY.out.2.2.1 HY.out.2.2.2 _) hs1 hs2 HY.out.2.1.size ?_; intro v2 y2 hown2 hg2 hat2; have HZ : Hid (y2.ownsRow x3.heap.size 5 1 v2 (T.length + (en x).length) (bs T ++ bs (en x)) ∧ Below x3.heap.size x3 y2) := Lib.hid ⟨hown2, below_own HY.out.2.1 hg2 (fun g hg => (HY.out.1.lt _ hg).1)⟩; clear hown2 hg2 hat2))
                      go_roundg g
                      case rel => exact ⟨n + 1, by omega, by go_num, Lib.hid ⟨by rw [HX.out.2, flat_snoc, ← HT.out, List.length_append, bs_append]; exact HZ.out.1, HZ.out.2⟩⟩
                      case measure => omega
                    · obtain rfl : n = nP2 := by omega
                      have HOP2 : Hid (wr.ownsRow x3.heap.size 5 1 u16 (flat K2).length (bs (flat K2))) := Lib.hid (by have := HN.out.1; rwa [HP2N.out.1, List.take_length] at this)
                      have HBP2 : Hid (Below x3.heap.size x3 wr) := Lib.hid HN.out.2
                      rename World => x4
                      clear HN
                      obtain ⟨A16, c16, hv16, hr16, hc16, hm16⟩ := Rd.of_own HOP2.out
                      subst hv16
                      have HB4 : Hid (Below w4.heap.size w4 x4) := Lib.hid (below_next HB3.out HBP2.out)
                      obtain ⟨R, hR⟩ : ∃ R, R = cmpU L (ws.getD i []) (ws.getD j []) 0 4 := ⟨_, rfl⟩
                      have HC1 : Hid (∀ W, Below w4.heap.size w4 W → Calls Try.prog 23 #[.slice (some ⟨b, o, none⟩) q cq, .slice Ai ni ci, .slice Aj nj cj] W fun e w' => e = .returned (.int .i64 R) ∧ Below w4.heap.size w4 w') := Lib.hid fun W hb => (HCO.out _ _ _ _ _ _ _ _ R W hb (HWI.out W hb).2 (HWJ.out W hb).2 hR).mono fun e w' hp => ⟨(i_out hp).1, below_next hb (i_out hp).2⟩
                      have HC2 : Hid (∀ W, Below x4.heap.size x4 W → Calls Try.prog 23 #[.slice (some ⟨b, o, none⟩) q cq, .slice Ai ni ci, .slice Aj nj cj] W fun e w' => e = .returned (.int .i64 R) ∧ Below x4.heap.size x4 w') := Lib.hid fun W hb => (HCO.out _ _ _ _ _ _ _ _ R W (below_next HB4.out hb) (HWI.out W (below_next HB4.out hb)).2 (HWJ.out W (below_next HB4.out hb)).2 hR).mono fun e w' hp => ⟨(i_out hp).1, below_next hb (i_out hp).2⟩
                      obtain ⟨X, hX⟩ : ∃ X, X = decide (R < 0) := ⟨_, rfl⟩
                      obtain ⟨Y, hY⟩ : ∃ Y, Y = decide (R = 0) := ⟨_, rfl⟩
                      obtain ⟨s1, hs1⟩ : ∃ s, s = tb (flat K1) := ⟨_, rfl⟩
                      obtain ⟨s2, hs2⟩ : ∃ s, s = tb (flat K2) := ⟨_, rfl⟩
                      have hf3 : Op.bytesLess s1.toList s2.toList = X := by rw [hs1, hs2, tb_toList, tb_toList, hX, hR, HK1.out, HK2.out]; exact (key_bytes HV.out _ _).1
                      have hf4 : (s1.toList == s2.toList) = Y := by rw [hs1, hs2, tb_toList, tb_toList, hY, hR, HK1.out, HK2.out]; exact (key_bytes HV.out _ _).2
                      have hx1 : decide (R < 0) = X := hX.symm
                      have hy1 : decide (R = 0) = Y := hY.symm
                      have hy2 : (R == 0) = Y := by rw [hY]; rfl
                      have HCV : Hid (∀ W, Below x4.heap.size x4 W → (convert 50 9 (.slice A15 (flat K1).length c15)).run Try.prog W = .ok (.string s1) W ∧ (convert 50 9 (.slice A16 (flat K2).length c16)).run Try.prog W = .ok (.string s2) W) := Lib.hid fun W hb => ⟨by rw [hs1]; exact conv_rd Try.underlying50 Try.underlying5 Try.underlying9 (HR15.out W (below_next HBP2.out hb)) c15, by rw [hs2]; exact conv_rd Try.underlying50 Try.underlying5 Try.underlying9 (hr16.below hb) c16⟩
                      have l1 : ∀ p : Wo (Below x4.heap.size x4), p.wo.cell? ⟨b4, o4 + i, none⟩ = some (.slice Ai ni ci) := fun p => (HWI.out _ (below_next HB4.out p.ok)).1
                      have l2 : ∀ p : Wo (Below x4.heap.size x4), p.wo.cell? ⟨b4, o4 + j, none⟩ = some (.slice Aj nj cj) := fun p => (HWJ.out _ (below_next HB4.out p.ok)).1
                      have H44 : Hid (Below x4.heap.size x4 x4) := Lib.hid (Below.refl _ _)
                      clear hR hX hY hs1 hs2 hr16 hcc1 hcc2
                      go_wp2_with fail
                      haveI : Nonempty (Wo (Below x4.heap.size x4)) := ⟨⟨x4, H44.out⟩⟩
                      refine wp_region_wo (Below x4.heap.size x4) mixedTry (by kernel_rfl) (below_drewN H44.out 1) ?_
                      repeat (go_big_quiet_step ((go_at_call 23; exact calls_wo HC2.out _)))
                      refine wpQuiet_nil ?_
                      intro x5 hw2
                      obtain ⟨⟨x5x, hok⟩, hw3⟩ := hw2
                      have hw4 : x5 = x5x := hw3
                      subst hw4
                      have Hx5 := Lib.hid hok
                      clear hw3 hok
                      go_wp2_with fail
                      haveI : Nonempty (Wo (Below x4.heap.size x4)) := ⟨⟨x5, Hx5.out⟩⟩
                      refine wp_region_wo (Below x4.heap.size x4) mixedTry (by kernel_rfl) (below_drewN Hx5.out 1) ?_
                      repeat (go_big_quiet_step ((go_at_call 23; exact calls_wo HC2.out _)))
                      refine wpQuiet_nil ?_
                      intro x6 hw2
                      obtain ⟨⟨x6x, hok⟩, hw3⟩ := hw2
                      have hw4 : x6 = x6x := hw3
                      subst hw4
                      have Hx6 := Lib.hid hok
                      clear hw3 hok
                      obtain ⟨hcv1, hcv2⟩ := HCV.out _ Hx6.out
                      go_wp2_with fail
                      go_roundg g
                      case rel => exact ⟨j + 1, by omega, by go_num, Lib.hid (below_next HB4.out Hx6.out)⟩
                      case measure => omega
            · obtain rfl : j = 3 := by omega
              go_wp2_with fail
              go_roundg g
              case rel => exact ⟨i + 1, by omega, by go_num, Lib.hid HJ.out⟩
              case measure => omega
        · obtain rfl : i = 3 := by omega
          go_wp2_with ((with_reducible refine (HLI.out _).mono ?_); rintro e w7 hp; obtain ⟨rfl, hb⟩ := boolb_out hp; have H7 : Hid (Below w.heap.size w w7) := Lib.hid (below_next H5.out.2 (below_next HI.out hb)); clear hp hb)
          go_ret
          exact ⟨rfl, H7.out⟩
  · have q3 : (e1 == -1) = false := beq_eq_false_iff_ne.2 q1
    have q4 : decide (e1 = -1) = false := decide_eq_false q1
    go_enter Try.func10, Try.ntmps10
    go_wp2_with (first
      | ((with_reducible refine HLE.out.mono ?_); rintro e w1 hp; obtain ⟨AL, q, cq, rfl, h1, h2, h3, h4, hb⟩ := lt_out hp; have HA : Hid (AlR w1 L AL q cq ∧ Below w.heap.size w w1) := Lib.hid ⟨⟨h1, h3, h4, HTX.out, h2⟩, hb⟩; have hqc : q ≤ cq := h3; have hqb : cq ≤ 9223372036854775807 := (by unfold maxLen at h4; omega); clear hp h1 h2 h3 h4 hb)
      | ((with_reducible refine (HTX1.out _ _ _ _ HA.out.2 HA.out.1).mono ?_); rintro e x1 hp; obtain ⟨rfl, hb⟩ := tx_out hp; have Hx1 : Hid (AlR x1 L AL q cq ∧ Below w.heap.size w x1) := Lib.hid ⟨HA.out.1.below hb, below_next HA.out.2 hb⟩; clear hp hb)
      | ((with_reducible refine (HRD1.out _ _ _ _ Hx1.out.1).mono ?_); rintro e x2 hp; obtain ⟨Av, cv, nv, rfl, hn, hr, hc, hm, hb⟩ := r_out2' hp; have Hx2 : Hid (AlR x2 L AL q cq ∧ Below w.heap.size w x2 ∧ WdR x2 v1 Av nv cv) := Lib.hid ⟨Hx1.out.1.below hb, below_next Hx1.out.2 hb, ⟨hn, by have := HVL.out.1; omega, hc, hm, hr⟩⟩; clear hp hn hr hc hm hb)
      | ((with_reducible refine (HTX2.out _ _ _ _ Hx2.out.2.1 Hx2.out.1).mono ?_); rintro e x3 hp; obtain ⟨rfl, hb⟩ := tx_out hp; have Hx3 : Hid (AlR x3 L AL q cq ∧ Below w.heap.size w x3 ∧ WdR x3 v1 Av nv cv) := Lib.hid ⟨Hx2.out.1.below hb, below_next Hx2.out.2.1 hb, Hx2.out.2.2.below hb⟩; clear hp hb)
      | ((with_reducible refine (HRD2.out _ _ _ _ Hx3.out.1).mono ?_); rintro e x4 hp; obtain ⟨Au, cu, nu, rfl, hn, hr, hc, hm, hb⟩ := r_out2' hp; have Hx4 : Hid (AlR x4 L AL q cq ∧ Below w.heap.size w x4 ∧ WdR x4 v1 Av nv cv ∧ WdR x4 v2 Au nu cu) := Lib.hid ⟨Hx3.out.1.below hb, below_next Hx3.out.2.1 hb, Hx3.out.2.2.below hb, ⟨hn, by have := HVL.out.2; omega, hc, hm, hr⟩⟩; clear hp hn hr hc hm hb)
      | ((with_reducible refine (HWD.out _ _ _ _ Hx4.out.2.1 Hx4.out.1).mono ?_); rintro e w4 hp; obtain ⟨A4, c4, ws, rfl, hws, hb⟩ := words_out (by omega) hp; have HW : Hid (WsR w4 ws A4 3 c4 ∧ Below w.heap.size w w4 ∧ AlR w4 L AL q cq) := Lib.hid ⟨hws, below_next Hx4.out.2.1 hb, Hx4.out.1.below hb⟩; have hc4 : 3 ≤ c4 := hws.cap; have hm4 : c4 ≤ 9223372036854775807 := (by have := hws.max; unfold maxLen at this; omega); clear hp hws hb))
    obtain ⟨b4, o4, hA4⟩ := ws_or HW.out.1
    obtain ⟨b, o, rfl, hrl⟩ := rl_open HW.out.2.2.rd (val_ne HV.out)
    obtain ⟨rfl, hwa⟩ : A4 = some ⟨b4, o4, none⟩ ∧ WsAt w4 b4 o4 ws := by
      rcases hA4 with h | h
      · omega
      · exact h
    have H5 : Hid (AlR w4 L (some ⟨b, o, none⟩) q cq ∧ Below w.heap.size w w4) := Lib.hid ⟨HW.out.2.2, HW.out.2.1⟩
    have HWA : Hid (∀ k, k < 3 → ∃ A n c, Hid (∀ W, Below w4.heap.size w4 W → W.cell? ⟨b4, o4 + k, none⟩ = some (.slice A n c) ∧ WdR W (ws.getD k []) A n c)) := Lib.hid fun k hk => by
      obtain ⟨A, n, c, h1, h2⟩ := hwa k (by rw [← HW.out.1.len]; exact hk)
      exact ⟨A, n, c, Lib.hid fun W hb => ⟨(hb.cell (p := ⟨b4, o4 + k, none⟩) (World.block_lt_of_cell? w4 _ h1)).trans h1, h2.below hb⟩⟩
    have HKY : Hid (∀ (x : List Int) (K : List Int) (A1 : Option Addr) (n1 c1 : Nat) (W : World), Below w4.heap.size w4 W → WdR W x A1 n1 c1 → K = keyP L x → Calls Try.prog 18 #[.slice (some ⟨b, o, none⟩) q cq, .slice A1 n1 c1] W (LPost W K)) := Lib.hid fun x K A1 n1 c1 W hb hx hK => key_any L _ A1 q cq n1 c1 x K hK W (H5.out.1.below hb) hx
    have HCO : Hid (∀ (x y : List Int) (A1 A2 : Option Addr) (n1 c1 n2 c2 : Nat) (R : Int) (W : World), Below w4.heap.size w4 W → WdR W x A1 n1 c1 → WdR W y A2 n2 c2 → R = cmpU L x y 0 4 → Calls Try.prog 23 #[.slice (some ⟨b, o, none⟩) q cq, .slice A1 n1 c1, .slice A2 n2 c2] W (IPost W R)) := Lib.hid fun x y A1 A2 n1 c1 n2 c2 R W hb hx hy hR => compare_any L _ A1 A2 q cq n1 c1 n2 c2 x y R (by rw [cmpP_yes HV.out, hR]) W (H5.out.1.below hb) hx hy
    clear hA4 hrl hwa HA HW Hx1 Hx2 Hx3 Hx4 HTX1 HTX2 HRD1 HRD2
    go_loopg [13, 14, 15, 16, 17, 18, 19, 20, 21, 22] 3 (fun g s13 s14 s15 s16 s17 s18 s19 s20 s21 s22 wr => ∃ (i : Nat), i + g = 3 ∧ s13 = .int .i64 (i : Int) ∧ Hid (Below w4.heap.size w4 wr))
    case atStart => exact ⟨0, by omega, rfl, Lib.hid (Below.refl _ _)⟩
    case round =>
      obtain ⟨i, hi, rfl, HI⟩ := hrel
      by_cases hlt : i < 3
      · obtain ⟨g, rfl⟩ : ∃ g, gk = g + 1 := ⟨gk - 1, by omega⟩
        obtain ⟨Ai, ni, ci, HWI⟩ := HWA.out i hlt
        have a1 : decide ((i : Int) < 3) = true := decide_eq_true (by omega)
        have a2 : decide (i < 3) = true := decide_eq_true hlt
        have a3 : (i : Int) < 3 := by omega
        obtain ⟨K1, hK1⟩ : ∃ K, K = keyP L (ws.getD i []) := ⟨_, rfl⟩
        have HKP1 : Hid (3 ≤ K1.length ∧ K1.length ≤ 400003 ∧ ∀ n, n < K1.length → inI (K1.getD n 0)) := Lib.hid (by rw [hK1]; exact key_facts HV.out (HWI.out _ (Below.refl _ _)).2)
        have HK1 := Lib.hid hK1
        clear hK1
        go_wp2_with fail
        go_loopg [14, 15, 16, 17, 18, 19, 20, 21, 22] 3 (fun g s14 s15 s16 s17 s18 s19 s20 s21 s22 wr => ∃ (j : Nat), j + g = 3 ∧ s14 = .int .i64 (j : Int) ∧ Hid (Below w4.heap.size w4 wr))
        case atStart => exact ⟨0, by omega, rfl, Lib.hid HI.out⟩
        case round =>
          obtain ⟨j, hj, rfl, HJ⟩ := hrel
          by_cases hltj : j < 3
          · obtain ⟨g, rfl⟩ : ∃ g, gk = g + 1 := ⟨gk - 1, by omega⟩
            obtain ⟨Aj, nj, cj, HWJ⟩ := HWA.out j hltj
            have a4 : decide ((j : Int) < 3) = true := decide_eq_true (by omega)
            have a5 : decide (j < 3) = true := decide_eq_true hltj
            have a6 : (j : Int) < 3 := by omega
            obtain ⟨K2, hK2⟩ : ∃ K, K = keyP L (ws.getD j []) := ⟨_, rfl⟩
            have HKP2 : Hid (3 ≤ K2.length ∧ K2.length ≤ 400003 ∧ ∀ n, n < K2.length → inI (K2.getD n 0)) := Lib.hid (by rw [hK2]; exact key_facts HV.out (HWJ.out _ (Below.refl _ _)).2)
            have HK2 := Lib.hid hK2
            clear hK2
            have HY1 : Hid (∀ W, Below w4.heap.size w4 W → Calls Try.prog 18 #[.slice (some ⟨b, o, none⟩) q cq, .slice Ai ni ci] W (LPost W K1)) := Lib.hid fun W hb => HKY.out _ _ _ _ _ W hb (HWI.out W hb).2 HK1.out
            have HY2 : Hid (∀ W, Below w4.heap.size w4 W → Calls Try.prog 18 #[.slice (some ⟨b, o, none⟩) q cq, .slice Aj nj cj] W (LPost W K2)) := Lib.hid fun W hb => HKY.out _ _ _ _ _ W hb (HWJ.out W hb).2 HK2.out
            have hcc1 := (HWI.out _ HJ.out).1
            go_wp2_with (first
              | ((with_reducible refine (HY1.out _ HJ.out).mono ?_); rintro e x1 hp; obtain ⟨P1, cP1, nP1, rfl, hn, hr, hc, hm, hb⟩ := l_out hp; have Hx1 : Hid (Below w4.heap.size w4 x1 ∧ nP1 = K1.length ∧ Rd x1 P1 (iv K1)) := Lib.hid ⟨below_next HJ.out hb, hn, hr⟩; have hP13 : 3 ≤ nP1 := (by rw [hn]; exact HKP1.out.1); have hP1c : nP1 ≤ cP1 := hc; have hP1m : cP1 ≤ 9223372036854775807 := (by unfold maxLen at hm; exact hm); have hcc2 := (HWJ.out _ (below_next HJ.out hb)).1; clear hp hn hr hc hm hb)
              | ((with_reducible refine (HY2.out _ Hx1.out.1).mono ?_); rintro e x2 hp; obtain ⟨P2, cP2, nP2, rfl, hn, hr, hc, hm, hb⟩ := l_out hp; have Hx2 : Hid (Below w4.heap.size w4 x2 ∧ nP2 = K2.length ∧ Rd x2 P2 (iv K2)) := Lib.hid ⟨below_next Hx1.out.1 hb, hn, hr⟩; have hP23 : 3 ≤ nP2 := (by rw [hn]; exact HKP2.out.1); have hP2c : nP2 ≤ cP2 := hc; have hP2m : cP2 ≤ 9223372036854775807 := (by unfold maxLen at hm; exact hm); have HBAB : Hid (Below x1.heap.size x1 x2) := Lib.hid hb; clear hp hn hr hc hm hb))
            have HP1 : Hid (∀ W, Below x2.heap.size x2 W → Below x2.heap.size x2 W ∧ Rd W P1 (iv K1)) := Lib.hid fun W hb => ⟨hb, (Hx1.out.2.2.below HBAB.out).below hb⟩
            have HP1N : Hid (nP1 = K1.length ∧ K1.length ≤ 400003 ∧ ∀ n, n < K1.length → inI (K1.getD n 0)) := Lib.hid ⟨Hx1.out.2.1, HKP1.out.2⟩
            have HB2 : Hid (Below w4.heap.size w4 x2) := Lib.hid Hx2.out.1
            go_loopg [15, 19] nP1 (fun g s15 s19 wr => ∃ (n : Nat), n + g = nP1 ∧ s19 = .int .i64 (n : Int) ∧ Hid (wr.ownsRow x2.heap.size 5 1 s15 (flat (K1.take n)).length (bs (flat (K1.take n))) ∧ Below x2.heap.size x2 wr))
            case atStart => exact ⟨0, by omega, rfl, Lib.hid ⟨⟨rfl, .inl ⟨rfl, rfl⟩⟩, Below.refl _ _⟩⟩
            case round =>
              obtain ⟨n, hn, rfl, HN⟩ := hrel
              by_cases hltn : n < nP1
              · obtain ⟨g, rfl⟩ : ∃ g, gk = g + 1 := ⟨gk - 1, by omega⟩
                obtain ⟨Ao, co, hvo, _, hoc, hom⟩ := Rd.of_own HN.out.1
                subst hvo
                obtain ⟨x, hx⟩ : ∃ x, x = K1.getD n 0 := ⟨_, rfl⟩
                obtain ⟨bP1, oP1, hAP1, hil⟩ := il_open (HP1.out x2 (Below.refl _ _)).2 (by intro e; have := HP1N.out.1; rw [e] at this; simp at this; omega)
                subst hAP1
                have hcx : wr.cell? ⟨bP1, oP1 + n, none⟩ = some (.int .i64 x) := hil.at HN.out.2 (by rw [← HP1N.out.1]; exact hltn) hx
                have HX : Hid (inI x ∧ K1.take (n + 1) = K1.take n ++ [x]) := Lib.hid ⟨by rw [hx]; exact HP1N.out.2.2 n (by rw [← HP1N.out.1]; exact hltn), by rw [hx]; exact take_getD (by rw [← HP1N.out.1]; exact hltn)⟩
                have HI8 : Hid (∀ W, Calls Try.prog 36 #[.int .i64 x] W fun e w' => ∃ v', e = .returned v' ∧ w'.ownsRow W.heap.size 5 1 v' (en x).length (bs (en x)) ∧ Below W.heap.size W w') := Lib.hid fun W => int_any x HX.out.1 W
                have HLE : Hid ((flat (K1.take n)).length ≤ 4000000) := Lib.hid (by have h1 := flat_len (K1.take n); have h2 := HP1N.out.2.1; rw [List.length_take] at h1; omega)
                have hs1 : (flat (K1.take n)).length + (en x).length ≤ maxLen := by have := HLE.out; have := (en_length x).2; unfold maxLen; omega
                have hs2 : ((flat (K1.take n)).length + (en x).length) * 1 ≤ 140737488355328 := by have := HLE.out; have := (en_length x).2; omega
                obtain ⟨T, hT⟩ : ∃ T, T = flat (K1.take n) := ⟨_, rfl⟩
                rw [← hT] at HN hs1 hs2 ⊢
                have HT := Lib.hid hT
                clear hx hil hT
                go_wp2_with (first
                  | ((with_reducible refine (HI8.out _).mono ?_); rintro e y1 ⟨v1, rfl, hown1, hb1⟩; obtain ⟨A1, c1, hv1, hrd1, hc1, hm1⟩ := Rd.of_own hown1; subst hv1; have HY : Hid (y1.ownsRow x2.heap.size 5 1 (.slice Ao T.length co) T.length (bs T) ∧ Below x2.heap.size x2 y1 ∧ Rd y1 A1 (bs (en x)) ∧ (A1 = none → en x = [])) := Lib.hid ⟨own_keep HN.out.1 hb1, below_next HN.out.2 hb1, hrd1, own_none hown1⟩; clear hown1 hb1 hrd1)
                  | (at_builtin; refine wpList_own_src rfl (.tmp 93) (.tmp 98) 50 50 rfl x2.heap.size 5 u0 _ 1 1 Try.underlying50 hu0 hk0 hk1 hk2 rfl _ _ _ rfl HY.out.1 _ (en x).length (bs (en x)) rfl (src_rd Try.underlying50 hk1 HY.out.2.2.1 HY.out.2.2.2 _) hs1 hs2 HY.out.2.1.size ?_; intro v2 y2 hown2 hg2 hat2; have HZ : Hid (y2.ownsRow x2.heap.size 5 1 v2 (T.length + (en x).length) (bs T ++ bs (en x)) ∧ Below x2.heap.size x2 y2) := Lib.hid ⟨hown2, below_own HY.out.2.1 hg2 (fun g hg => (HY.out.1.lt _ hg).1)⟩; clear hown2 hg2 hat2))
                go_roundg g
                case rel => exact ⟨n + 1, by omega, by go_num, Lib.hid ⟨by rw [HX.out.2, flat_snoc, ← HT.out, List.length_append, bs_append]; exact HZ.out.1, HZ.out.2⟩⟩
                case measure => omega
              · obtain rfl : n = nP1 := by omega
                have HOP1 : Hid (wr.ownsRow x2.heap.size 5 1 u15 (flat K1).length (bs (flat K1))) := Lib.hid (by have := HN.out.1; rwa [HP1N.out.1, List.take_length] at this)
                have HBP1 : Hid (Below x2.heap.size x2 wr) := Lib.hid HN.out.2
                rename World => x3
                clear HN
                obtain ⟨A15, c15, hv15, hr15, hc15, hm15⟩ := Rd.of_own HOP1.out
                subst hv15
                have HR15 : Hid (∀ W, Below x3.heap.size x3 W → Rd W A15 (bs (flat K1))) := Lib.hid fun W hb => hr15.below hb
                have HP2 : Hid (∀ W, Below x3.heap.size x3 W → Below x3.heap.size x3 W ∧ Rd W P2 (iv K2)) := Lib.hid fun W hb => ⟨hb, (Hx2.out.2.2.below HBP1.out).below hb⟩
                have HP2N : Hid (nP2 = K2.length ∧ K2.length ≤ 400003 ∧ ∀ n, n < K2.length → inI (K2.getD n 0)) := Lib.hid ⟨Hx2.out.2.1, HKP2.out.2⟩
                have HB3 : Hid (Below w4.heap.size w4 x3) := Lib.hid (below_next HB2.out HBP1.out)
                have hle15 : (flat K1).length ≤ 9223372036854775807 := by have h1 := flat_len K1; have := HP1N.out.2.1; omega
                clear hr15
                go_wp2_with fail
                go_loopg [16, 20] nP2 (fun g s16 s20 wr => ∃ (n : Nat), n + g = nP2 ∧ s20 = .int .i64 (n : Int) ∧ Hid (wr.ownsRow x3.heap.size 5 1 s16 (flat (K2.take n)).length (bs (flat (K2.take n))) ∧ Below x3.heap.size x3 wr))
                case atStart => exact ⟨0, by omega, rfl, Lib.hid ⟨⟨rfl, .inl ⟨rfl, rfl⟩⟩, Below.refl _ _⟩⟩
                case round =>
                  obtain ⟨n, hn, rfl, HN⟩ := hrel
                  by_cases hltn : n < nP2
                  · obtain ⟨g, rfl⟩ : ∃ g, gk = g + 1 := ⟨gk - 1, by omega⟩
                    obtain ⟨Ao, co, hvo, _, hoc, hom⟩ := Rd.of_own HN.out.1
                    subst hvo
                    obtain ⟨x, hx⟩ : ∃ x, x = K2.getD n 0 := ⟨_, rfl⟩
                    obtain ⟨bP2, oP2, hAP2, hil⟩ := il_open (HP2.out x3 (Below.refl _ _)).2 (by intro e; have := HP2N.out.1; rw [e] at this; simp at this; omega)
                    subst hAP2
                    have hcx : wr.cell? ⟨bP2, oP2 + n, none⟩ = some (.int .i64 x) := hil.at HN.out.2 (by rw [← HP2N.out.1]; exact hltn) hx
                    have HX : Hid (inI x ∧ K2.take (n + 1) = K2.take n ++ [x]) := Lib.hid ⟨by rw [hx]; exact HP2N.out.2.2 n (by rw [← HP2N.out.1]; exact hltn), by rw [hx]; exact take_getD (by rw [← HP2N.out.1]; exact hltn)⟩
                    have HI8 : Hid (∀ W, Calls Try.prog 36 #[.int .i64 x] W fun e w' => ∃ v', e = .returned v' ∧ w'.ownsRow W.heap.size 5 1 v' (en x).length (bs (en x)) ∧ Below W.heap.size W w') := Lib.hid fun W => int_any x HX.out.1 W
                    have HLE : Hid ((flat (K2.take n)).length ≤ 4000000) := Lib.hid (by have h1 := flat_len (K2.take n); have h2 := HP2N.out.2.1; rw [List.length_take] at h1; omega)
                    have hs1 : (flat (K2.take n)).length + (en x).length ≤ maxLen := by have := HLE.out; have := (en_length x).2; unfold maxLen; omega
                    have hs2 : ((flat (K2.take n)).length + (en x).length) * 1 ≤ 140737488355328 := by have := HLE.out; have := (en_length x).2; omega
                    obtain ⟨T, hT⟩ : ∃ T, T = flat (K2.take n) := ⟨_, rfl⟩
                    rw [← hT] at HN hs1 hs2 ⊢
                    have HT := Lib.hid hT
                    clear hx hil hT
                    go_wp2_with (first
                      | ((with_reducible refine (HI8.out _).mono ?_); rintro e y1 ⟨v1, rfl, hown1, hb1⟩; obtain ⟨A1, c1, hv1, hrd1, hc1, hm1⟩ := Rd.of_own hown1; subst hv1; have HY : Hid (y1.ownsRow x3.heap.size 5 1 (.slice Ao T.length co) T.length (bs T) ∧ Below x3.heap.size x3 y1 ∧ Rd y1 A1 (bs (en x)) ∧ (A1 = none → en x = [])) := Lib.hid ⟨own_keep HN.out.1 hb1, below_next HN.out.2 hb1, hrd1, own_none hown1⟩; clear hown1 hb1 hrd1)
                      | (at_builtin; refine wpList_own_src rfl (.tmp 106) (.tmp 111) 50 50 rfl x3.heap.size 5 u0 _ 1 1 Try.underlying50 hu0 hk0 hk1 hk2 rfl _ _ _ rfl HY.out.1 _ (en x).length (bs (en x)) rfl (src_rd Try.underlying50 hk1 HY.out.2.2.1 HY.out.2.2.2 _) hs1 hs2 HY.out.2.1.size ?_; intro v2 y2 hown2 hg2 hat2; have HZ : Hid (y2.ownsRow x3.heap.size 5 1 v2 (T.length + (en x).length) (bs T ++ bs (en x)) ∧ Below x3.heap.size x3 y2) := Lib.hid ⟨hown2, below_own HY.out.2.1 hg2 (fun g hg => (HY.out.1.lt _ hg).1)⟩; clear hown2 hg2 hat2))
                    go_roundg g
                    case rel => exact ⟨n + 1, by omega, by go_num, Lib.hid ⟨by rw [HX.out.2, flat_snoc, ← HT.out, List.length_append, bs_append]; exact HZ.out.1, HZ.out.2⟩⟩
                    case measure => omega
                  · obtain rfl : n = nP2 := by omega
                    have HOP2 : Hid (wr.ownsRow x3.heap.size 5 1 u16 (flat K2).length (bs (flat K2))) := Lib.hid (by have := HN.out.1; rwa [HP2N.out.1, List.take_length] at this)
                    have HBP2 : Hid (Below x3.heap.size x3 wr) := Lib.hid HN.out.2
                    rename World => x4
                    clear HN
                    obtain ⟨A16, c16, hv16, hr16, hc16, hm16⟩ := Rd.of_own HOP2.out
                    subst hv16
                    have HB4 : Hid (Below w4.heap.size w4 x4) := Lib.hid (below_next HB3.out HBP2.out)
                    obtain ⟨R, hR⟩ : ∃ R, R = cmpU L (ws.getD i []) (ws.getD j []) 0 4 := ⟨_, rfl⟩
                    have HC1 : Hid (∀ W, Below w4.heap.size w4 W → Calls Try.prog 23 #[.slice (some ⟨b, o, none⟩) q cq, .slice Ai ni ci, .slice Aj nj cj] W fun e w' => e = .returned (.int .i64 R) ∧ Below w4.heap.size w4 w') := Lib.hid fun W hb => (HCO.out _ _ _ _ _ _ _ _ R W hb (HWI.out W hb).2 (HWJ.out W hb).2 hR).mono fun e w' hp => ⟨(i_out hp).1, below_next hb (i_out hp).2⟩
                    have HC2 : Hid (∀ W, Below x4.heap.size x4 W → Calls Try.prog 23 #[.slice (some ⟨b, o, none⟩) q cq, .slice Ai ni ci, .slice Aj nj cj] W fun e w' => e = .returned (.int .i64 R) ∧ Below x4.heap.size x4 w') := Lib.hid fun W hb => (HCO.out _ _ _ _ _ _ _ _ R W (below_next HB4.out hb) (HWI.out W (below_next HB4.out hb)).2 (HWJ.out W (below_next HB4.out hb)).2 hR).mono fun e w' hp => ⟨(i_out hp).1, below_next hb (i_out hp).2⟩
                    obtain ⟨X, hX⟩ : ∃ X, X = decide (R < 0) := ⟨_, rfl⟩
                    obtain ⟨Y, hY⟩ : ∃ Y, Y = decide (R = 0) := ⟨_, rfl⟩
                    obtain ⟨s1, hs1⟩ : ∃ s, s = tb (flat K1) := ⟨_, rfl⟩
                    obtain ⟨s2, hs2⟩ : ∃ s, s = tb (flat K2) := ⟨_, rfl⟩
                    have hf3 : Op.bytesLess s1.toList s2.toList = X := by rw [hs1, hs2, tb_toList, tb_toList, hX, hR, HK1.out, HK2.out]; exact (key_bytes HV.out _ _).1
                    have hf4 : (s1.toList == s2.toList) = Y := by rw [hs1, hs2, tb_toList, tb_toList, hY, hR, HK1.out, HK2.out]; exact (key_bytes HV.out _ _).2
                    have hx1 : decide (R < 0) = X := hX.symm
                    have hy1 : decide (R = 0) = Y := hY.symm
                    have hy2 : (R == 0) = Y := by rw [hY]; rfl
                    have HCV : Hid (∀ W, Below x4.heap.size x4 W → (convert 50 9 (.slice A15 (flat K1).length c15)).run Try.prog W = .ok (.string s1) W ∧ (convert 50 9 (.slice A16 (flat K2).length c16)).run Try.prog W = .ok (.string s2) W) := Lib.hid fun W hb => ⟨by rw [hs1]; exact conv_rd Try.underlying50 Try.underlying5 Try.underlying9 (HR15.out W (below_next HBP2.out hb)) c15, by rw [hs2]; exact conv_rd Try.underlying50 Try.underlying5 Try.underlying9 (hr16.below hb) c16⟩
                    have l1 : ∀ p : Wo (Below x4.heap.size x4), p.wo.cell? ⟨b4, o4 + i, none⟩ = some (.slice Ai ni ci) := fun p => (HWI.out _ (below_next HB4.out p.ok)).1
                    have l2 : ∀ p : Wo (Below x4.heap.size x4), p.wo.cell? ⟨b4, o4 + j, none⟩ = some (.slice Aj nj cj) := fun p => (HWJ.out _ (below_next HB4.out p.ok)).1
                    have H44 : Hid (Below x4.heap.size x4 x4) := Lib.hid (Below.refl _ _)
                    clear hR hX hY hs1 hs2 hr16 hcc1 hcc2
                    go_wp2_with fail
                    haveI : Nonempty (Wo (Below x4.heap.size x4)) := ⟨⟨x4, H44.out⟩⟩
                    refine wp_region_wo (Below x4.heap.size x4) mixedTry (by kernel_rfl) (below_drewN H44.out 1) ?_
                    repeat (go_big_quiet_step ((go_at_call 23; exact calls_wo HC2.out _)))
                    refine wpQuiet_nil ?_
                    intro x5 hw2
                    obtain ⟨⟨x5x, hok⟩, hw3⟩ := hw2
                    have hw4 : x5 = x5x := hw3
                    subst hw4
                    have Hx5 := Lib.hid hok
                    clear hw3 hok
                    go_wp2_with fail
                    haveI : Nonempty (Wo (Below x4.heap.size x4)) := ⟨⟨x5, Hx5.out⟩⟩
                    refine wp_region_wo (Below x4.heap.size x4) mixedTry (by kernel_rfl) (below_drewN Hx5.out 1) ?_
                    repeat (go_big_quiet_step ((go_at_call 23; exact calls_wo HC2.out _)))
                    refine wpQuiet_nil ?_
                    intro x6 hw2
                    obtain ⟨⟨x6x, hok⟩, hw3⟩ := hw2
                    have hw4 : x6 = x6x := hw3
                    subst hw4
                    have Hx6 := Lib.hid hok
                    clear hw3 hok
                    obtain ⟨hcv1, hcv2⟩ := HCV.out _ Hx6.out
                    go_wp2_with fail
                    go_roundg g
                    case rel => exact ⟨j + 1, by omega, by go_num, Lib.hid (below_next HB4.out Hx6.out)⟩
                    case measure => omega
          · obtain rfl : j = 3 := by omega
            go_wp2_with fail
            go_roundg g
            case rel => exact ⟨i + 1, by omega, by go_num, Lib.hid HJ.out⟩
            case measure => omega
      · obtain rfl : i = 3 := by omega
        go_wp2_with ((with_reducible refine (HLI.out _).mono ?_); rintro e w7 hp; obtain ⟨rfl, hb⟩ := boolb_out hp; have H7 : Hid (Below w.heap.size w w7) := Lib.hid (below_next H5.out.2 (below_next HI.out hb)); clear hp hb)
        go_ret
        exact ⟨rfl, H7.out⟩


set_option maxRecDepth 100000 in
theorem contract (H : Type) (enc : TypeId × Value → H) (W : World) (base : Nat) (args : Array Value) (ds gs : List (DataW H)) (before : List MemPlace)
    (hval : ∀ (j : Nat) t v, Try.f10.params[j]? = some t → args[j]? = some v → Value.okWide Try.prog W .any base t v)
    (hW : DataW.Whole enc Try.prog Try.f10.params.toList Rows.collateBytesSpec.vars false W args.toList ds gs before) :
    Calls Try.prog 10 args W fun e W' => ∃ v, e = .returned v ∧ Rows.collateBytesSpec.post enc Try.prog Try.f10 false true false false W args v W' := by
  have hW' := hW
  obtain ⟨p, q, hA0, hV, rfl, hfz, hnd⟩ := hW
  have hA : DataW.TrodAll enc Try.prog W 0 (fun _ => true) true Try.f10.params.toList args.toList ds p := hA0
  rw [Try.params10] at hA hval
  obtain ⟨rfl, rfl⟩ := trodVars_none hV
  obtain ⟨v0, w0, d0, e0, p0, q0, hargs, rfl, rfl, h0, r0⟩ := trodAll_cons hA
  obtain ⟨v1, w1, d1, e1, p1, q1, rfl, rfl, rfl, h1, r1⟩ := trodAll_cons r0
  obtain ⟨v2, w2, d2, e2, p2, q2, rfl, rfl, rfl, h2, r2⟩ := trodAll_cons r1
  obtain ⟨rfl, rfl, rfl⟩ := trodAll_nil r2
  obtain rfl : args = #[v0, v1, v2] := by cases args; simp_all
  clear hargs
  obtain ⟨Al, l, cl, rfl, lr, li, ln, lm⟩ := open_ivs (hval 0 22 v0 rfl rfl) h0
  obtain ⟨Am, m, cm, rfl, mr, mi, mn, mm⟩ := open_ivs (hval 1 22 v1 rfl rfl) h1
  obtain ⟨Ak, k, ck, rfl, kr, ki, kn, km⟩ := open_ivs (hval 2 22 v2 rfl rfl) h2
  refine (walk l Al cl li ln lm m Am cm mi mn mm k Ak ck ki kn km W lr mr kr).mono fun e W' ⟨he, hb⟩ => ⟨_, he, ?_⟩
  exact law_post rfl rfl (by kernel_rfl) hW' rfl hb

set_option maxRecDepth 100000 in
theorem lifted (os : Os) (started : os.Started) (H : Type) (enc : TypeId × Value → H) :
    ReturnsInHanded {} Try.checked os 10 .any (Rows.collateBytesSpec.pre6 enc Try.prog Try.f10 Rows.collateBytesRow.domain false) (Rows.collateBytesSpec.post enc Try.prog Try.f10 false true false false) := by
  refine returnsInHanded_of_change_sized (C := Try.checked) Try.own started (by kernel_rfl) Try.func10
    (ChangeSpec.witness6 (enc := enc) (C := Try.checked) false ⟨#[], #[.slice none 0 0, .slice none 0 0, .slice none 0 0], []⟩ 8 (by kernel_rfl) (by kernel_rfl) (by kernel_rfl) (by kernel_rfl)) ?_
  intro W base args ds gs before hval hW _ hsz _
  exact contract H enc W base args ds gs before hval hW

theorem proved : Rows.CollateBytesSaid :=
  OpenClaim.holds_of_wide 10 Try.f10 rfl rfl rfl rfl rfl rfl rfl ⟨rfl, rfl, rfl, rfl, rfl⟩ rfl rfl rfl rfl rfl (by kernel_rfl) Try.func10 (by kernel_rfl)
    (of_decide_eq_true (by kernel_rfl)) (by unfold Func.isWrapper; first | (rw [if_pos (by decide +kernel)]; kernel_rfl) | (rw [if_neg (by decide +kernel)]; exact ⟨rfl, rfl⟩))
    (fun os started H enc _ => lifted os started H enc)

end KL8
end Go.Proofs.Ytalladdmedmfeaa
