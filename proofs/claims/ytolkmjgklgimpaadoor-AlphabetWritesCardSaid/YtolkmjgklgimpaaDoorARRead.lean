/-
  The reference's longest and Read.
-/
import Derived.Test.YtolkmjgklgimpaaDoorARValid
namespace Go.Proofs.YtolkmjgklgimpaaDoor
open Go.RowKit
open Alp
set_option linter.unusedVariables false
set_option linter.unusedSimpArgs false

def optI : Option Nat → Int | none => -1 | some b => (b : Int)
theorem longG_lt (L : List Lt) (s : B) (i b : Nat) (h : longG L s i = some b) : b < i := by
  rcases longG_spec L s i with ⟨h1, _⟩ | ⟨c, h1, h2, _⟩
  · rw [h1] at h; cases h
  · rw [h1] at h; cases h; exact h2
theorem pre_iff {t s : B} {p n : Nat} (hn : n = t.length) (h : p + n ≤ s.length) : t <+: s.drop p ↔ (s.drop p).take n = t := by
  rw [hn]
  exact ⟨fun e => prefix_take e, fun e => by rw [← e]; exact take_pre _ _⟩
theorem pre_no {t s : B} {p n : Nat} (hn : n = t.length) (h : s.length < p + n) (hp : p ≤ s.length) : ¬ t <+: s.drop p := fun e => by
  have := e.length_le
  rw [List.length_drop] at this
  omega
theorem nxt_no {L : List Lt} {s : B} {i : Nat} {r : Option Nat} (h : ¬ (L.getD i z).text <+: s) : nxt L s i r = r := by
  cases r with
  | none => exact if_neg h
  | some b => exact if_neg fun e => h e.1
set_option maxRecDepth 100000 in
set_option maxHeartbeats 8000000 in
theorem longest_any (L : List Lt) (q cq b o : Nat) (hq : q = L.length) (hq1 : 1 ≤ q) (hcq : q ≤ cq) (hcq2 : cq ≤ maxLen) (hs4 : ∀ l ∈ L, l.text.length ≤ 4) (s : B) (m p : Nat) (hm : m = s.length) (hm2 : m ≤ 1000000) (hp : p ≤ m) (w : World) (hrl : RL w b o L) :
    Calls Tryd.prog 35 #[.slice (some ⟨b, o, none⟩) q cq, .string (tb s), .int .i64 (p : Int)] w fun e w' => e = .returned (.int .i64 (optI (longP L (s.drop p)))) ∧ Below w.heap.size w w' := by
  have hsz : (tb s).size = m := by rw [tb_size, hm]
  have hq' : cq ≤ 9223372036854775807 := by unfold maxLen at hcq2; omega
  have HQ := Lib.hid hq
  have HM := Lib.hid hm
  have HRL := Lib.hid hrl
  have H4 := Lib.hid hs4
  clear hq hm hrl hs4
  go_enter Tryd.func35, Tryd.ntmps35
  go_wp2_with fail
  go_loopg [7, 8, 9] q (fun g s7 s8 s9 wr => ∃ (i a : Nat) (r : Option Nat), i + g = q ∧ s8 = .int .i64 (i : Int) ∧ s7 = .int .i64 (optI r) ∧ Hid (r = longG L (s.drop p) i) ∧ wr = w.drewN a)
  case atStart => exact ⟨0, 0, none, by omega, rfl, rfl, Lib.hid rfl, rfl⟩
  case round =>
    obtain ⟨i, a, r, hi, rfl, rfl, HR, rfl⟩ := hrel
    by_cases hlt : i < q
    · obtain ⟨g, rfl⟩ : ∃ g, gk = g + 1 := ⟨gk - 1, by omega⟩
      have hil : i < L.length := by rw [← HQ.out]; exact hlt
      obtain ⟨l, hl⟩ : ∃ l, l = L.getD i z := ⟨_, rfl⟩
      obtain ⟨t, ht⟩ : ∃ t, t = l.text := ⟨_, rfl⟩
      have hct : w.cell? ⟨b, o + i * 5, none⟩ = some (.string (tb t)) := by rw [ht]; exact HRL.out.c0 hil hl
      obtain ⟨n, hn⟩ : ∃ n, n = t.length := ⟨_, rfl⟩
      have hn4 : n ≤ 4 := by rw [hn, ht, hl]; exact H4.out _ (getD_mem hil)
      have htz : (tb t).size = n := by rw [tb_size, hn]
      have HNX : Hid (longG L (s.drop p) (i + 1) = nxt L (s.drop p) i r) := Lib.hid (by rw [HR.out]; rfl)
      have HT : Hid ((L.getD i z).text = t ∧ n = t.length) := Lib.hid ⟨by rw [ht, hl], hn⟩
      have hwr : IntKind.i64.wrap ((p : Int) + (n : Int)) = (p : Int) + (n : Int) := IntWalk.i64_in _ (by omega)
      clear hl ht hn
      by_cases hle : p + n ≤ m
      · obtain ⟨u, hu⟩ : ∃ u, u = (s.drop p).take n := ⟨_, rfl⟩
        have hsub : (tb s).extract p (p + n) = tb u := by rw [tb_sub, hu, show p + n - p = n by omega]
        have hd : decide ((p : Int) + (n : Int) ≤ (m : Int)) = true := decide_eq_true (by omega)
        have HU : Hid ((L.getD i z).text <+: s.drop p ↔ u = t) := Lib.hid (by rw [HT.out.1, pre_iff HT.out.2 (by rw [← HM.out]; exact hle), ← hu])
        clear hu
        by_cases he : u = t
        · subst he
          have heq : ((tb u).toList == (tb u).toList) = true := beq_self_eq_true _
          cases r with
          | none =>
            have HN2 : Hid (longG L (s.drop p) (i + 1) = some i) := Lib.hid (by rw [HNX.out]; exact if_pos (HU.out.2 rfl))
            have hd0 : decide ((-1 : Int) < 0) = true := by decide
            have hop : optI none = -1 := rfl
            rw [hop]
            go_wp2_with fail
            go_quiet (fail)
            go_wp2_with fail
            go_roundg g
            case rel => exact ⟨i + 1, _, some i, by omega, by go_num, rfl, Lib.hid HN2.out.symm, rfl⟩
            case measure => omega
          | some c =>
            have hci : c < i := longG_lt L (s.drop p) i c HR.out.symm
            have hcL : c < L.length := by omega
            obtain ⟨lc', hlc⟩ : ∃ l, l = L.getD c z := ⟨_, rfl⟩
            obtain ⟨tc, htc⟩ : ∃ t, t = lc'.text := ⟨_, rfl⟩
            have hcc : w.cell? ⟨b, o + c * 5, none⟩ = some (.string (tb tc)) := by rw [htc]; exact HRL.out.c0 hcL hlc
            obtain ⟨nc, hnc⟩ : ∃ n, n = tc.length := ⟨_, rfl⟩
            have htcz : (tb tc).size = nc := by rw [tb_size, hnc]
            have hcq3 : c < q := by omega
            have HC : Hid ((L.getD c z).text.length = nc) := Lib.hid (by rw [hnc, htc, hlc])
            have hop : optI (some c) = (c : Int) := rfl
            have hd0 : decide ((c : Int) < 0) = false := decide_eq_false (by omega)
            rw [hop]
            clear hlc htc hnc
            by_cases hgt : nc < n
            · have HN2 : Hid (longG L (s.drop p) (i + 1) = some i) := Lib.hid (by rw [HNX.out]; exact if_pos ⟨HU.out.2 rfl, by rw [HC.out, HT.out.1, ← HT.out.2]; exact hgt⟩)
              have hd2 : decide ((nc : Int) < (n : Int)) = true := decide_eq_true (by omega)
              go_wp2_with fail
              go_quiet (fail)
              go_wp2_with fail
              go_roundg g
              case rel => exact ⟨i + 1, _, some i, by omega, by go_num, rfl, Lib.hid HN2.out.symm, rfl⟩
              case measure => omega
            · have HN2 : Hid (longG L (s.drop p) (i + 1) = some c) := Lib.hid (by rw [HNX.out]; exact if_neg fun e => hgt (by have := e.2; rw [HC.out, HT.out.1, ← HT.out.2] at this; exact this))
              have hd2 : decide ((nc : Int) < (n : Int)) = false := decide_eq_false (by omega)
              go_wp2_with fail
              go_quiet (fail)
              go_wp2_with fail
              go_roundg g
              case rel => exact ⟨i + 1, _, some c, by omega, by go_num, rfl, Lib.hid HN2.out.symm, rfl⟩
              case measure => omega
        · have heq : ((tb u).toList == (tb t).toList) = false := by rw [tb_toList, tb_toList]; exact beq_eq_false_iff_ne.2 he
          have HN2 : Hid (longG L (s.drop p) (i + 1) = r) := Lib.hid (by rw [HNX.out]; exact nxt_no fun e => he (HU.out.1 e))
          go_wp2_with fail
          go_quiet (fail)
          go_wp2_with fail
          go_roundg g
          case rel => exact ⟨i + 1, _, r, by omega, by go_num, rfl, Lib.hid HN2.out.symm, rfl⟩
          case measure => omega
      · have hd : decide ((p : Int) + (n : Int) ≤ (m : Int)) = false := decide_eq_false (by omega)
        have HN2 : Hid (longG L (s.drop p) (i + 1) = r) := Lib.hid (by rw [HNX.out]; exact nxt_no (pre_no (n := n) (by rw [HT.out.1]; exact HT.out.2) (by rw [← HM.out]; omega) (by rw [← HM.out]; exact hp)))
        go_wp2_with fail
        go_quiet (fail)
        go_wp2_with fail
        go_roundg g
        case rel => exact ⟨i + 1, _, r, by omega, by go_num, rfl, Lib.hid HN2.out.symm, rfl⟩
        case measure => omega
    · obtain rfl : i = q := by omega
      have HE : Hid (longP L (s.drop p) = r) := Lib.hid (by rw [HR.out]; unfold longP; rw [HQ.out])
      go_wp2_with fail
      go_ret
      rw [HE.out]
      exact ⟨rfl, below_drewN (Below.refl _ _) _⟩
set_option maxRecDepth 100000 in
theorem rread_no (L : List Lt) (s : B) (A : Option Addr) (n c : Nat) (hn : n = L.length) (hc : n ≤ c) (hm : c ≤ maxLen) (hs : ∀ l ∈ L, l.text.length ≤ maxLen) (hV : valP L = false) (w : World) (hr : Rd w A (lv L)) :
    Calls Tryd.prog 13 #[.slice A n c, .string (tb s)] w (RPost w ([], 0)) := by
  have HC := Lib.hid (rvalid_any L A n c hn hc hm hs false hV.symm w hr)
  clear hn hr hs hV
  go_enter Tryd.func13, Tryd.ntmps13
  go_wp2_with ((with_reducible refine HC.out.mono ?_); rintro e w1 hb1; obtain ⟨rfl, hb2⟩ := boolb_out hb1; have HB := Lib.hid hb2; clear hb1 hb2)
  go_ret2
  exact ⟨none, 0, 0, rfl, rfl, .inl rfl, Nat.le_refl _, Nat.zero_le _, HB.out⟩
set_option maxRecDepth 100000 in
set_option maxHeartbeats 2000000 in
theorem rread_yes (L : List Lt) (s : B) (q : Nat) (hq : q = s.length) (hq2 : q ≤ 1000000) (R : List Int × Int) (hR : R = readG (q + 1) L s 0) (b o : Nat) (n c : Nat) (hn : n = L.length) (hc : n ≤ c) (hm : c ≤ maxLen) (hs : ∀ l ∈ L, l.text.length ≤ maxLen) (hV : valP L = true) (w : World) (hr : Rd w (some ⟨b, o, none⟩) (lv L)) (hrl : RL w b o L) :
    Calls Tryd.prog 13 #[.slice (some ⟨b, o, none⟩) n c, .string (tb s)] w (RPost w R) := by
  have HC := Lib.hid (rvalid_any L (some ⟨b, o, none⟩) n c hn hc hm hs true hV.symm w hr)
  have hsz : (tb s).size = q := by rw [tb_size, hq]
  have hm' : c ≤ 9223372036854775807 := by unfold maxLen at hm; omega
  obtain ⟨i0, hi0, hz0, hz1, hz2⟩ := info_parts Tryd.infoInt
  have HLO : Hid (∀ (p : Nat), p ≤ q → ∀ W, Below w.heap.size w W → Calls Tryd.prog 35 #[.slice (some ⟨b, o, none⟩) n c, .string (tb s), .int .i64 (p : Int)] W fun e w' => e = .returned (.int .i64 (optI ((stepP L (s.drop p)).map (·.1)))) ∧ Below W.heap.size W w') := Lib.hid fun p hp W hb => by rw [← long_eq hV]; exact longest_any L n c b o hn (by rw [hn]; exact ((valP_iff L).1 hV).1) hc hm (fun l hl => (val_plain hV hl).2.1) s q p hq hq2 hp W (hrl.below hb)
  have HQ := Lib.hid hq
  have HR := Lib.hid hR
  have HV := Lib.hid hV
  have HN := Lib.hid hn
  have HRL := Lib.hid hrl
  clear hn hr hs hV hq hR hrl
  go_enter Tryd.func13, Tryd.ntmps13
  go_wp2_with ((with_reducible refine HC.out.mono ?_); rintro e w1 hb1; obtain ⟨rfl, hb2⟩ := boolb_out hb1; have HB := Lib.hid hb2; clear hb1 hb2)
  go_loopg [6, 7, 8] q (fun g s6 s7 s8 wr => ∃ (p : Nat) (D : List Int), p ≤ q ∧ q ≤ p + g ∧ s7 = .int .i64 (p : Int) ∧ Hid (wr.ownsRow w1.heap.size 3 1 s6 D.length (iv D) ∧ Below w1.heap.size w1 wr ∧ D.length ≤ p ∧ R = (D ++ (readG (g + 1) L (s.drop p) p).1, (readG (g + 1) L (s.drop p) p).2)))
  case atStart => exact ⟨0, [], by omega, by omega, rfl, Lib.hid ⟨⟨rfl, .inl ⟨rfl, rfl⟩⟩, Below.refl _ _, Nat.le_refl _, HR.out⟩⟩
  case round =>
    obtain ⟨p, D, hp, hpg, rfl, HI⟩ := hrel
    obtain ⟨A2, c2, hv, hrd, hmc, hcm⟩ := Rd.of_own HI.out.1
    subst hv
    have HRD := Lib.hid hrd
    have HBW : Hid (Below w.heap.size w wr) := Lib.hid (below_next HB.out HI.out.2.1)
    clear hrd
    by_cases hlt : p < q
    · obtain ⟨g, rfl⟩ : ∃ g, gk = g + 1 := ⟨gk - 1, by omega⟩
      have HS2 : Hid ((s.drop p).length = q - p ∧ s.drop p ≠ []) := Lib.hid ⟨by rw [List.length_drop, ← HQ.out], fun e => by have := congrArg List.length e; rw [List.length_drop, ← HQ.out, List.length_nil] at this; omega⟩
      have HL := Lib.hid (HLO.out p (by omega) wr HBW.out)
      have hDp : D.length ≤ p := HI.out.2.2.1
      cases hst : stepP L (s.drop p) with
      | none =>
        rw [hst] at HL
        have hRE : R = (D, (p : Int)) := by
          have := HI.out.2.2.2
          rw [readG_none HS2.out.2 hst] at this
          simpa using this
        have HRE := Lib.hid hRE
        have HL2 : Hid (Calls Tryd.prog 35 #[.slice (some ⟨b, o, none⟩) n c, .string (tb s), .int .i64 (p : Int)] wr fun e w' => e = .returned (.int .i64 (-1)) ∧ Below wr.heap.size wr w') := HL
        clear hst hRE HL
        go_wp2_with ((with_reducible refine HL2.out.mono ?_); rintro e w2 ⟨rfl, hb2⟩; have HX2 : Hid (Below w.heap.size w w2 ∧ Rd w2 A2 (iv D)) := Lib.hid ⟨below_next HBW.out hb2, HRD.out.below hb2⟩; clear hb2)
        go_ret2
        rw [HRE.out]
        exact ⟨A2, c2, D.length, rfl, rfl, HX2.out.2, hmc, hcm, HX2.out.1⟩
      | some r =>
        obtain ⟨i, k⟩ := r
        rw [hst] at HL
        have HL2 : Hid (Calls Tryd.prog 35 #[.slice (some ⟨b, o, none⟩) n c, .string (tb s), .int .i64 (p : Int)] wr fun e w' => e = .returned (.int .i64 (i : Int)) ∧ Below wr.heap.size wr w') := HL
        obtain ⟨f1, f2, f3, f4, f5, f6, _⟩ := step_some HV.out hst
        obtain ⟨t, ht⟩ : ∃ t, t = L.getD i z := ⟨_, rfl⟩
        have HCT : Hid (∀ W, Below w.heap.size w W → W.cell? ⟨b, o + i * 5, none⟩ = some (.string (tb t.text))) := Lib.hid fun W hb => (HRL.out.below hb).c0 f1 ht
        have htz : (tb t.text).size = k := by rw [tb_size, ht, f3]
        have hin : i < n := by rw [HN.out]; exact f1
        have hkq : p + k ≤ q := by have := HS2.out.1; omega
        have HST := Lib.hid hst
        have hs1 : D.length + 1 ≤ maxLen := by unfold maxLen; omega
        have hs2 : (D.length + 1) * 8 ≤ 140737488355328 := by omega
        clear hst HL f1 f2 f3 f5 ht hDp
        go_wp2_with (first
          | ((with_reducible refine HL2.out.mono ?_); rintro e w2 ⟨rfl, hb2⟩; have HX2 : Hid (w2.ownsRow w1.heap.size 3 1 (.slice A2 D.length c2) D.length (iv D) ∧ Below w1.heap.size w1 w2) := Lib.hid ⟨own_keep HI.out.1 hb2, below_next HI.out.2.1 hb2⟩; clear hb2)
          | (at_builtin; refine wpList_own_src rfl (.tmp 24) (.tmp 26) 22 22 rfl w1.heap.size 3 i0 _ 1 8 Tryd.underlying22 hi0 hz0 hz1 hz2 rfl _ _ _ rfl (own_alc HX2.out.1 _) _ 1 [.int .i64 (i : Int)] rfl (src_one Tryd.underlying22 hz1 _ _ _ rfl) hs1 hs2 (below_al HX2.out.2 _).size ?_; intro v4 w4 hown4 hg4 hat4; have HX4 : Hid (w4.ownsRow w1.heap.size 3 1 v4 (D.length + 1) (iv D ++ [.int .i64 (i : Int)]) ∧ Below w1.heap.size w1 w4) := Lib.hid ⟨hown4, below_own (below_al HX2.out.2 _) hg4 (fun g hg => (HX2.out.1.lt _ hg).1)⟩; have hct := HCT.out w4 (below_next HB.out HX4.out.2); clear hown4 hg4 hat4))
        go_roundg g
        case rel =>
          refine ⟨p + k, D ++ [(i : Int)], by omega, by omega, by go_num, Lib.hid ⟨by rw [iv_snoc, List.length_append]; exact HX4.out.1, HX4.out.2, by rw [List.length_append]; have := HI.out.2.2.1; simp; omega, ?_⟩⟩
          have := HI.out.2.2.2
          rw [readG_some HS2.out.2 HST.out, List.drop_drop] at this
          rw [this, List.append_assoc]
          rfl
        case measure => omega
    · obtain rfl : p = q := by omega
      have hRE : R = (D, -1) := by
        have := HI.out.2.2.2
        rw [List.drop_of_length_le (by rw [← HQ.out]; exact Nat.le_refl _), readG_nil] at this
        simpa using this
      have HRE := Lib.hid hRE
      clear hRE
      go_wp2_with fail
      go_ret2
      rw [HRE.out]
      exact ⟨A2, c2, D.length, rfl, rfl, HRD.out, hmc, hcm, HBW.out⟩
theorem rread_any (L : List Lt) (s : B) (hq2 : s.length ≤ 1000000) (A : Option Addr) (n c : Nat) (hn : n = L.length) (hc : n ≤ c) (hm : c ≤ maxLen) (hs : ∀ l ∈ L, l.text.length ≤ maxLen) (R : List Int × Int) (hR : R = readP L s) (w : World) (hr : Rd w A (lv L)) :
    Calls Tryd.prog 13 #[.slice A n c, .string (tb s)] w (RPost w R) := by
  cases hV : valP L
  · have e : R = ([], 0) := by rw [hR]; unfold readP; rw [hV]; rfl
    rw [e]
    exact rread_no L s A n c hn hc hm hs hV w hr
  · obtain ⟨b, o, rfl, hl⟩ := rl_open hr (by intro e; subst e; simp [valP] at hV)
    exact rread_yes L s _ rfl hq2 R (by rw [hR, readP_val hV]) b o n c hn hc hm hs hV w hr hl
end Go.Proofs.YtolkmjgklgimpaaDoor
