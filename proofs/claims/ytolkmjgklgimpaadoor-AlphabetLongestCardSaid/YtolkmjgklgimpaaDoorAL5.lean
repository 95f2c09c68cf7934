/-
  AlphabetLongest: for every two lists of numbers and every string the law returns true, and leaves what was there as it was; the listed tables are as the library's text lays them (the card ties them).
-/
import Derived.Test.YtolkmjgklgimpaaDoorALaw
import Derived.Test.YtolkmjgklgimpaaDoorAWT
namespace Go.Proofs.YtolkmjgklgimpaaDoor
open Go.ChangeShapes Go.WideShapes Go.ChangeAt Go.RowKit Go.ChangeMaps
open Alp
set_option linter.unusedVariables false
set_option linter.unusedSimpArgs false
namespace AL5

theorem lng_nil {L : List Lt} {s : B} {W : List Int} {k : Nat} (h : lng L s (W.drop k)) (hk : k = W.length) : ∀ l ∈ L, ¬ l.text <+: s := by
  rw [List.drop_of_length_le (by omega)] at h
  exact h
theorem lng_cons {L : List Lt} {s : B} {W : List Int} {k : Nat} (h : lng L s (W.drop k)) (hk : k < W.length) : ∃ x : Nat, W.getD k 0 = x ∧ x < L.length ∧ (L.getD x z).text <+: s ∧ (∀ l ∈ L, l.text <+: s → l.text.length ≤ (L.getD x z).text.length) ∧ lng L (s.drop (L.getD x z).text.length) (W.drop (k + 1)) := by
  rw [drop_getD hk rfl] at h
  obtain ⟨⟨h1, h2, h3, h4⟩, h5⟩ := h
  exact ⟨(W.getD k 0).toNat, by omega, by omega, h3, h4, h5⟩
theorem pre_sub {t s : B} {p n : Nat} (hn : n = t.length) (h : p + n ≤ s.length) : (s.drop p).take n = t → t <+: s.drop p := fun e => by rw [← e]; exact take_pre _ _
set_option maxRecDepth 100000 in
set_option maxHeartbeats 8000000 in
theorem walk (l : List Int) (A : Option Addr) (c : Nat) (li : ∀ x ∈ l, inI x) (ln : l.length ≤ c) (lm : c ≤ maxLen) (k : List Int) (Ak : Option Addr) (ck : Nat) (ki : ∀ x ∈ k, inI x) (kn : k.length ≤ ck) (km : ck ≤ maxLen) (raw : B) (rz : raw.length ≤ 140737488351232)
    (w : World) (lr : Rd w A (iv l)) (kr : Rd w Ak (iv k)) (hK : ML w) : Calls Tryd.prog 7 #[.slice A l.length c, .slice Ak k.length ck, .string (tb raw)] w fun e w' => e = .returned (.bool true) ∧ Below w.heap.size w w' := by
  obtain ⟨L, hL⟩ : ∃ L, L = lettersP l := ⟨_, rfl⟩
  have hv : valP L = true := by rw [hL]; exact letters_val l
  obtain ⟨t, ht⟩ : ∃ t, t = textP L k := ⟨_, rfl⟩
  have htl : t.length ≤ 160 := by rw [ht]; exact textP_len hv k
  have HLE : Hid (Calls Tryd.prog 9 #[.slice A l.length c] w (LtPost w L)) := Lib.hid (by rw [hL]; exact letters_any l A _ c rfl ln lm li w lr)
  have HTE : Hid (∀ AL q cq W, Below w.heap.size w W → q = L.length → q ≤ cq → cq ≤ maxLen → Rd W AL (lv L) → Calls Tryd.prog 10 #[.slice AL q cq, .slice Ak k.length ck] W (TxPost W t)) := Lib.hid fun AL q cq W hb h1 h2 h3 h4 => by rw [ht]; exact text_any L hv AL q cq h1 h2 h3 k Ak _ ck rfl kn km ki W h4 (kr.below hb)
  obtain ⟨u, hu⟩ : ∃ u, u = raw.take 30 := ⟨_, rfl⟩
  have HSH : Hid (∀ W, Calls Tryd.prog 11 #[.string (tb raw), .int .i64 30] W fun e w' => e = .returned (.string (tb u)) ∧ W = w') := Lib.hid fun W => by rw [hu]; exact rshort_any raw (by unfold maxLen; omega) 30 (by omega) W
  obtain ⟨s, hs⟩ : ∃ s, t ++ u = s := ⟨_, rfl⟩
  have hul : u.length ≤ 30 := by rw [hu, List.length_take]; omega
  have hcat := fun W => cat_tb (P := Tryd.prog) (a := t) (b := u) hs (by rw [← hs, List.length_append]; omega) W
  obtain ⟨m, hm⟩ : ∃ m, m = s.length := ⟨_, rfl⟩
  have hm2 : m ≤ 190 := by rw [hm, ← hs, List.length_append]; omega
  have hsz : (tb s).size = m := by rw [tb_size, hm]
  obtain ⟨⟨R, y⟩, hR⟩ : ∃ R, R = readP L s := ⟨_, rfl⟩
  have hlong := readG_long hv (s.length + 1) s 0 (by omega)
  rw [← readP_val hv, ← hR] at hlong
  obtain ⟨hlng, d, hd1, hd2, hd3, hd4⟩ := hlong
  simp only at hlng hd2 hd3 hd4
  have HRE : Hid (∀ AL q cq W, q = L.length → q ≤ cq → cq ≤ maxLen → Rd W AL (lv L) → Calls Tryd.prog 12 #[.slice AL q cq, .string (tb s)] W (RPost W (R, y))) := Lib.hid fun AL q cq W h1 h2 h3 h4 => by rw [hR]; exact read_any L s (by omega) AL q cq h1 h2 h3 (fun l hl => by have := (val_plain hv hl).2.1; unfold maxLen; omega) _ rfl W h4
  have HWR : Hid (∀ AL q cq A1 n1 c1 W, q = L.length → q ≤ cq → cq ≤ maxLen → Rd W AL (lv L) → n1 = R.length → n1 ≤ c1 → c1 ≤ maxLen → Rd W A1 (iv R) → Calls Tryd.prog 17 #[.slice AL q cq, .slice A1 n1 c1] W (WPost W (s.take d, 0))) := Lib.hid fun AL q cq A1 n1 c1 W h1 h2 h3 h4 h5 h6 h7 h8 => write_any L R (by omega) AL q cq h1 h2 h3 (fun l hl => by have := (val_plain hv hl).2.1; unfold maxLen; omega) A1 n1 c1 h5 h6 h7 _ (by rw [writeP_yes hv, hd2]; rfl) W h4 h8
  have HLI : Hid (∀ W, Below w.heap.size w W → Calls Tryd.prog 15 #[] W fun e w' => e = .returned (.bool true) ∧ Below W.heap.size W w') := Lib.hid fun W hb => lives_any W (hK.below hb)
  have hsub : (tb s).extract 0 d = tb (s.take d) := by rw [tb_sub]; simp
  have hdm : d ≤ m := by rw [hm]; exact hd1
  have HM := Lib.hid hm
  have HLNG := Lib.hid hlng
  have HRd : Hid (R.length ≤ d) := Lib.hid hd3
  have HV := Lib.hid hv
  have hy : (y = -1 ∧ d = m) ∨ (y = (d : Int) ∧ d < m) := by
    rcases hd4 with ⟨h1, h2⟩ | ⟨h1, h2⟩
    · exact .inl ⟨h1, by omega⟩
    · exact .inr ⟨by rw [h1]; simp, by omega⟩
  clear hL hv ht li ki lr kr hK hs htl hul hu hR hlng hd1 hd2 hd3 hd4 hm rz
  rcases hy with ⟨rfl, hdm2⟩ | ⟨rfl, hdlt⟩
  · subst hdm2
    go_enter Tryd.func7, Tryd.ntmps7
    go_wp2_with (first
      | ((with_reducible refine HLE.out.mono ?_); rintro e w1 hp; obtain ⟨AL, q, cq, rfl, h1, h2, h3, h4, hb⟩ := lt_out hp; have hqb : cq ≤ 9223372036854775807 := (by unfold maxLen at h4; omega); have hqc : q ≤ cq := h3; have HX1 : Hid (Below w.heap.size w w1 ∧ q = L.length ∧ q ≤ cq ∧ cq ≤ maxLen ∧ Rd w1 AL (lv L)) := Lib.hid ⟨hb, h1, h3, h4, h2⟩; clear hp h1 h2 h3 h4 hb)
      | (go_at_call 10; (with_reducible refine (HTE.out _ _ _ _ HX1.out.1 HX1.out.2.1 HX1.out.2.2.1 HX1.out.2.2.2.1 HX1.out.2.2.2.2).mono ?_); rintro e w2 hp; obtain ⟨rfl, hb⟩ := tx_out hp; have HX2 : Hid (Below w.heap.size w w2 ∧ Rd w2 AL (lv L)) := Lib.hid ⟨below_next HX1.out.1 hb, HX1.out.2.2.2.2.below hb⟩; clear hp hb)
      | ((with_reducible refine (HSH.out _).mono ?_); rintro e w0 ⟨rfl, rfl⟩)
      | ((with_reducible refine (HRE.out _ _ _ _ HX1.out.2.1 HX1.out.2.2.1 HX1.out.2.2.2.1 HX2.out.2).mono ?_); rintro e w3 hp; obtain ⟨A1, c1, n1, rfl, h1, h2, h3, h4, hb⟩ := r_out2 hp; have hn1b : c1 ≤ 9223372036854775807 := (by unfold maxLen at h4; omega); have hn1c : n1 ≤ c1 := h3; have hn1m : n1 ≤ d := (by have := HRd.out; omega); have HX3 : Hid (Below w.heap.size w w3 ∧ Rd w3 AL (lv L) ∧ Rd w3 A1 (iv R) ∧ n1 = R.length ∧ n1 ≤ c1 ∧ c1 ≤ maxLen) := Lib.hid ⟨below_next HX2.out.1 hb, HX2.out.2.below hb, h2, h1, h3, h4⟩; clear hp h1 h2 h3 h4 hb)
      | ((with_reducible refine (HWR.out _ _ _ _ _ _ _ HX1.out.2.1 HX1.out.2.2.1 HX1.out.2.2.2.1 HX3.out.2.1 HX3.out.2.2.2.1 HX3.out.2.2.2.2.1 HX3.out.2.2.2.2.2 HX3.out.2.2.1).mono ?_); rintro e w4 hp; obtain ⟨rfl, hb⟩ := w_out2 hp; have HX4 : Hid (Below w.heap.size w w4 ∧ Rd w4 AL (lv L) ∧ Rd w4 A1 (iv R)) := Lib.hid ⟨below_next HX3.out.1 hb, HX3.out.2.1.below hb, HX3.out.2.2.1.below hb⟩; clear hp hb))
    obtain ⟨b, o, rfl, hrl⟩ := rl_open HX4.out.2.1 (by have := HV.out; intro e; subst e; simp [valP] at this)
    have HRL := Lib.hid hrl
    have HR1 := Lib.hid (show Rd w4 A1 (iv R) from HX4.out.2.2)
    have HNQ : Hid (q = L.length ∧ n1 = R.length) := Lib.hid ⟨HX1.out.2.1, HX3.out.2.2.2.1⟩
    clear hrl
    go_loopg [13, 14, 15, 16, 17] (n1 + 1) (fun g s13 s14 s15 s16 s17 wr => ∃ (i p a : Nat), i + g = n1 + 1 ∧ p ≤ d ∧ s14 = .int .i64 (i : Int) ∧ s13 = .int .i64 (p : Int) ∧ Hid (i ≤ n1 → lng L (s.drop p) (R.drop i)) ∧ wr = w4.drewN a)
    case atStart => exact ⟨0, 0, 0, by omega, by omega, rfl, rfl, Lib.hid fun _ => HLNG.out, rfl⟩
    case round =>
      obtain ⟨i, p, a, hi, hp, rfl, rfl, HI, rfl⟩ := hrel
      by_cases hle : i ≤ n1
      · obtain ⟨g, rfl⟩ : ∃ g, gk = g + 1 := ⟨gk - 1, by omega⟩
        have hin : ∃ n : Nat, n ≤ 4 ∧ p + n ≤ d ∧ (∀ l ∈ L, l.text <+: s.drop p → l.text.length ≤ n) ∧ (i + 1 ≤ n1 → lng L (s.drop (p + n)) (R.drop (i + 1))) ∧ ((i = n1 ∧ n = 0) ∨ (i < n1 ∧ ∃ x : Nat, x < q ∧ R.getD i 0 = x ∧ (L.getD x z).text.length = n)) := by
          have h := HI.out hle
          by_cases hl : i < n1
          · obtain ⟨x, h1, h2, h3, h4, h5⟩ := lng_cons h (by rw [← HNQ.out.2]; exact hl)
            have h6 := h3.length_le
            rw [List.length_drop, ← HM.out] at h6
            have h7 := (val_plain HV.out (getD_mem h2)).2.1
            have h8 := (val_plain HV.out (getD_mem h2)).1
            refine ⟨_, h7, by omega, h4, fun _ => by rw [← List.drop_drop]; exact h5, .inr ⟨hl, x, by rw [HNQ.out.1]; exact h2, h1, rfl⟩⟩
          · obtain rfl : i = n1 := by omega
            exact ⟨0, by omega, by omega, fun l hl2 hp2 => absurd hp2 (lng_nil h HNQ.out.2 l hl2), fun h => by omega, .inl ⟨rfl, rfl⟩⟩
        obtain ⟨n, hn4, hpn, hnp, hnext, hcase⟩ := hin
        have HNP := Lib.hid hnp
        have HNEXT := Lib.hid hnext
        clear hnp hnext
        rcases hcase with ⟨hie, hn0⟩ | ⟨hl, x, hxq, hxe, hxn⟩
        · subst hie
          have hile : (i : Int) ≤ (i : Int) := Int.le_refl _
          have hill : decide ((i : Int) < (i : Int)) = false := decide_eq_false (by omega)
          go_wp2_with fail
          go_loopg [16, 17] q (fun gi s16 s17 wx => ∃ (j e : Nat), j + gi = q ∧ s16 = .int .i64 (j : Int) ∧ wx = w4.drewN e)
          case atStart => exact ⟨0, _, by omega, rfl, rfl⟩
          case round =>
            obtain ⟨j, e, hj, rfl, rfl⟩ := hrel
            by_cases hjq : j < q
            · obtain ⟨gj, rfl⟩ : ∃ g, gk = g + 1 := ⟨gk - 1, by omega⟩
              have hjL : j < L.length := by rw [← HNQ.out.1]; exact hjq
              obtain ⟨tj, htj⟩ : ∃ t, t = L.getD j z := ⟨_, rfl⟩
              obtain ⟨tt, htt⟩ : ∃ t, t = tj.text := ⟨_, rfl⟩
              have hcj : w4.cell? ⟨b, o + j * 5, none⟩ = some (.string (tb tt)) := by rw [htt]; exact HRL.out.c0 hjL htj
              obtain ⟨mj, hmj⟩ : ∃ n, n = tt.length := ⟨_, rfl⟩
              have hmz : (tb tt).size = mj := by rw [tb_size, hmj]
              have hmj4 : mj ≤ 4 := by rw [hmj, htt, htj]; exact (val_plain HV.out (getD_mem hjL)).2.1
              have HP : Hid (tt <+: s.drop p → mj ≤ 0) := Lib.hid fun hp => by rw [hmj, htt, htj]; exact hn0 ▸ HNP.out _ (getD_mem hjL) (by rw [← htj, ← htt]; exact hp)
              have HMJ := Lib.hid hmj
              have hwr : IntKind.i64.wrap ((p : Int) + (mj : Int)) = (p : Int) + (mj : Int) := IntWalk.i64_in _ (by omega)
              clear htj htt hmj
              by_cases hgt : 0 < mj
              · have hd1 : decide ((0 : Int) < (mj : Int)) = true := decide_eq_true (by omega)
                by_cases hfit : p + mj ≤ d
                · have hd2 : decide ((p : Int) + (mj : Int) ≤ (d : Int)) = true := decide_eq_true (by omega)
                  obtain ⟨v, hv⟩ : ∃ v, v = (s.drop p).take mj := ⟨_, rfl⟩
                  have hsub2 : (tb s).extract p (p + mj) = tb v := by rw [tb_sub, hv, show p + mj - p = mj by omega]
                  have heq : ((tb v).toList == (tb tt).toList) = false := by
                    rw [tb_toList, tb_toList]
                    refine beq_eq_false_iff_ne.2 fun e => ?_
                    have := HP.out (pre_sub HMJ.out (by rw [← HM.out]; exact hfit) (by rw [← hv]; exact e))
                    omega
                  clear hv
                  go_wp2_with fail
                  go_quiet (fail)
                  go_wp2_with fail
                  go_roundg gj
                  case rel => exact ⟨j + 1, _, by omega, by go_num, rfl⟩
                  case measure => omega
                · have hd2 : decide ((p : Int) + (mj : Int) ≤ (d : Int)) = false := decide_eq_false (by omega)
                  go_wp2_with fail
                  go_quiet (fail)
                  go_wp2_with fail
                  go_roundg gj
                  case rel => exact ⟨j + 1, _, by omega, by go_num, rfl⟩
                  case measure => omega
              · have hd1 : decide ((0 : Int) < (mj : Int)) = false := decide_eq_false (by omega)
                go_wp2_with fail
                go_quiet (fail)
                go_wp2_with fail
                go_roundg gj
                case rel => exact ⟨j + 1, _, by omega, by go_num, rfl⟩
                case measure => omega
            · obtain rfl : j = q := by omega
              go_wp2_with fail
              go_roundg g
              case rel => exact ⟨i + 1, p, _, by omega, by omega, by go_num, by go_num, Lib.hid fun h => by omega, rfl⟩
              case measure => omega
        · have hile : decide ((i : Int) ≤ (n1 : Int)) = true := decide_eq_true (by omega)
          obtain ⟨b1, o1, rfl, hil⟩ := il_open HR1.out (by intro e; have := HNQ.out.2; rw [e] at this; simp at this; omega)
          have hcx : w4.cell? ⟨b1, o1 + i, none⟩ = some (.int .i64 (x : Int)) := hil.at (Below.refl _ _) (by rw [← HNQ.out.2]; exact hl) hxe.symm
          obtain ⟨tx, htx⟩ : ∃ t, t = L.getD x z := ⟨_, rfl⟩
          have hct : w4.cell? ⟨b, o + x * 5, none⟩ = some (.string (tb tx.text)) := HRL.out.c0 (by rw [← HNQ.out.1]; exact hxq) htx
          have htz : (tb tx.text).size = n := by rw [tb_size, htx, hxn]
          clear hil htx hxe hxn
          go_wp2_with fail
          go_loopg [16, 17] q (fun gi s16 s17 wx => ∃ (j e : Nat), j + gi = q ∧ s16 = .int .i64 (j : Int) ∧ wx = w4.drewN e)
          case atStart => exact ⟨0, _, by omega, rfl, rfl⟩
          case round =>
            obtain ⟨j, e, hj, rfl, rfl⟩ := hrel
            by_cases hjq : j < q
            · obtain ⟨gj, rfl⟩ : ∃ g, gk = g + 1 := ⟨gk - 1, by omega⟩
              have hjL : j < L.length := by rw [← HNQ.out.1]; exact hjq
              obtain ⟨tj, htj⟩ : ∃ t, t = L.getD j z := ⟨_, rfl⟩
              obtain ⟨tt, htt⟩ : ∃ t, t = tj.text := ⟨_, rfl⟩
              have hcj : w4.cell? ⟨b, o + j * 5, none⟩ = some (.string (tb tt)) := by rw [htt]; exact HRL.out.c0 hjL htj
              obtain ⟨mj, hmj⟩ : ∃ n, n = tt.length := ⟨_, rfl⟩
              have hmz : (tb tt).size = mj := by rw [tb_size, hmj]
              have hmj4 : mj ≤ 4 := by rw [hmj, htt, htj]; exact (val_plain HV.out (getD_mem hjL)).2.1
              have HP : Hid (tt <+: s.drop p → mj ≤ n) := Lib.hid fun hp => by rw [hmj, htt, htj]; exact HNP.out _ (getD_mem hjL) (by rw [← htj, ← htt]; exact hp)
              have HMJ := Lib.hid hmj
              have hwr : IntKind.i64.wrap ((p : Int) + (mj : Int)) = (p : Int) + (mj : Int) := IntWalk.i64_in _ (by omega)
              clear htj htt hmj
              by_cases hgt : n < mj
              · have hd1 : decide ((n : Int) < (mj : Int)) = true := decide_eq_true (by omega)
                by_cases hfit : p + mj ≤ d
                · have hd2 : decide ((p : Int) + (mj : Int) ≤ (d : Int)) = true := decide_eq_true (by omega)
                  obtain ⟨v, hv⟩ : ∃ v, v = (s.drop p).take mj := ⟨_, rfl⟩
                  have hsub2 : (tb s).extract p (p + mj) = tb v := by rw [tb_sub, hv, show p + mj - p = mj by omega]
                  have heq : ((tb v).toList == (tb tt).toList) = false := by
                    rw [tb_toList, tb_toList]
                    refine beq_eq_false_iff_ne.2 fun e => ?_
                    have := HP.out (pre_sub HMJ.out (by rw [← HM.out]; exact hfit) (by rw [← hv]; exact e))
                    omega
                  clear hv
                  go_wp2_with fail
                  go_quiet (fail)
                  go_wp2_with fail
                  go_roundg gj
                  case rel => exact ⟨j + 1, _, by omega, by go_num, rfl⟩
                  case measure => omega
                · have hd2 : decide ((p : Int) + (mj : Int) ≤ (d : Int)) = false := decide_eq_false (by omega)
                  go_wp2_with fail
                  go_quiet (fail)
                  go_wp2_with fail
                  go_roundg gj
                  case rel => exact ⟨j + 1, _, by omega, by go_num, rfl⟩
                  case measure => omega
              · have hd1 : decide ((n : Int) < (mj : Int)) = false := decide_eq_false (by omega)
                go_wp2_with fail
                go_quiet (fail)
                go_wp2_with fail
                go_roundg gj
                case rel => exact ⟨j + 1, _, by omega, by go_num, rfl⟩
                case measure => omega
            · obtain rfl : j = q := by omega
              go_wp2_with fail
              go_roundg g
              case rel => exact ⟨i + 1, p + n, _, by omega, by omega, by go_num, by go_num, Lib.hid fun h => HNEXT.out h, rfl⟩
              case measure => omega
      · have hix : i = n1 + 1 := by omega
        have hile : decide ((i : Int) ≤ (n1 : Int)) = false := decide_eq_false (by omega)
        clear hix
        go_wp2_with ((with_reducible refine (HLI.out _ (below_drewN HX4.out.1 _)).mono ?_); rintro e w9 ⟨rfl, hb⟩; have HX9 := Lib.hid (below_next (below_drewN HX4.out.1 _) hb); clear hb)
        go_ret
        exact ⟨rfl, HX9.out⟩
  · skip
    go_enter Tryd.func7, Tryd.ntmps7
    go_wp2_with (first
      | ((with_reducible refine HLE.out.mono ?_); rintro e w1 hp; obtain ⟨AL, q, cq, rfl, h1, h2, h3, h4, hb⟩ := lt_out hp; have hqb : cq ≤ 9223372036854775807 := (by unfold maxLen at h4; omega); have hqc : q ≤ cq := h3; have HX1 : Hid (Below w.heap.size w w1 ∧ q = L.length ∧ q ≤ cq ∧ cq ≤ maxLen ∧ Rd w1 AL (lv L)) := Lib.hid ⟨hb, h1, h3, h4, h2⟩; clear hp h1 h2 h3 h4 hb)
      | (go_at_call 10; (with_reducible refine (HTE.out _ _ _ _ HX1.out.1 HX1.out.2.1 HX1.out.2.2.1 HX1.out.2.2.2.1 HX1.out.2.2.2.2).mono ?_); rintro e w2 hp; obtain ⟨rfl, hb⟩ := tx_out hp; have HX2 : Hid (Below w.heap.size w w2 ∧ Rd w2 AL (lv L)) := Lib.hid ⟨below_next HX1.out.1 hb, HX1.out.2.2.2.2.below hb⟩; clear hp hb)
      | ((with_reducible refine (HSH.out _).mono ?_); rintro e w0 ⟨rfl, rfl⟩)
      | ((with_reducible refine (HRE.out _ _ _ _ HX1.out.2.1 HX1.out.2.2.1 HX1.out.2.2.2.1 HX2.out.2).mono ?_); rintro e w3 hp; obtain ⟨A1, c1, n1, rfl, h1, h2, h3, h4, hb⟩ := r_out2 hp; have hn1b : c1 ≤ 9223372036854775807 := (by unfold maxLen at h4; omega); have hn1c : n1 ≤ c1 := h3; have hn1m : n1 ≤ d := (by have := HRd.out; omega); have HX3 : Hid (Below w.heap.size w w3 ∧ Rd w3 AL (lv L) ∧ Rd w3 A1 (iv R) ∧ n1 = R.length ∧ n1 ≤ c1 ∧ c1 ≤ maxLen) := Lib.hid ⟨below_next HX2.out.1 hb, HX2.out.2.below hb, h2, h1, h3, h4⟩; clear hp h1 h2 h3 h4 hb)
      | ((with_reducible refine (HWR.out _ _ _ _ _ _ _ HX1.out.2.1 HX1.out.2.2.1 HX1.out.2.2.2.1 HX3.out.2.1 HX3.out.2.2.2.1 HX3.out.2.2.2.2.1 HX3.out.2.2.2.2.2 HX3.out.2.2.1).mono ?_); rintro e w4 hp; obtain ⟨rfl, hb⟩ := w_out2 hp; have HX4 : Hid (Below w.heap.size w w4 ∧ Rd w4 AL (lv L) ∧ Rd w4 A1 (iv R)) := Lib.hid ⟨below_next HX3.out.1 hb, HX3.out.2.1.below hb, HX3.out.2.2.1.below hb⟩; clear hp hb))
    obtain ⟨b, o, rfl, hrl⟩ := rl_open HX4.out.2.1 (by have := HV.out; intro e; subst e; simp [valP] at this)
    have HRL := Lib.hid hrl
    have HR1 := Lib.hid (show Rd w4 A1 (iv R) from HX4.out.2.2)
    have HNQ : Hid (q = L.length ∧ n1 = R.length) := Lib.hid ⟨HX1.out.2.1, HX3.out.2.2.2.1⟩
    clear hrl
    go_loopg [13, 14, 15, 16, 17] (n1 + 1) (fun g s13 s14 s15 s16 s17 wr => ∃ (i p a : Nat), i + g = n1 + 1 ∧ p ≤ m ∧ s14 = .int .i64 (i : Int) ∧ s13 = .int .i64 (p : Int) ∧ Hid (i ≤ n1 → lng L (s.drop p) (R.drop i)) ∧ wr = w4.drewN a)
    case atStart => exact ⟨0, 0, 0, by omega, by omega, rfl, rfl, Lib.hid fun _ => HLNG.out, rfl⟩
    case round =>
      obtain ⟨i, p, a, hi, hp, rfl, rfl, HI, rfl⟩ := hrel
      by_cases hle : i ≤ n1
      · obtain ⟨g, rfl⟩ : ∃ g, gk = g + 1 := ⟨gk - 1, by omega⟩
        have hin : ∃ n : Nat, n ≤ 4 ∧ p + n ≤ m ∧ (∀ l ∈ L, l.text <+: s.drop p → l.text.length ≤ n) ∧ (i + 1 ≤ n1 → lng L (s.drop (p + n)) (R.drop (i + 1))) ∧ ((i = n1 ∧ n = 0) ∨ (i < n1 ∧ ∃ x : Nat, x < q ∧ R.getD i 0 = x ∧ (L.getD x z).text.length = n)) := by
          have h := HI.out hle
          by_cases hl : i < n1
          · obtain ⟨x, h1, h2, h3, h4, h5⟩ := lng_cons h (by rw [← HNQ.out.2]; exact hl)
            have h6 := h3.length_le
            rw [List.length_drop, ← HM.out] at h6
            have h7 := (val_plain HV.out (getD_mem h2)).2.1
            have h8 := (val_plain HV.out (getD_mem h2)).1
            refine ⟨_, h7, by omega, h4, fun _ => by rw [← List.drop_drop]; exact h5, .inr ⟨hl, x, by rw [HNQ.out.1]; exact h2, h1, rfl⟩⟩
          · obtain rfl : i = n1 := by omega
            exact ⟨0, by omega, by omega, fun l hl2 hp2 => absurd hp2 (lng_nil h HNQ.out.2 l hl2), fun h => by omega, .inl ⟨rfl, rfl⟩⟩
        obtain ⟨n, hn4, hpn, hnp, hnext, hcase⟩ := hin
        have HNP := Lib.hid hnp
        have HNEXT := Lib.hid hnext
        clear hnp hnext
        rcases hcase with ⟨hie, hn0⟩ | ⟨hl, x, hxq, hxe, hxn⟩
        · subst hie
          have hile : (i : Int) ≤ (i : Int) := Int.le_refl _
          have hill : decide ((i : Int) < (i : Int)) = false := decide_eq_false (by omega)
          go_wp2_with fail
          go_loopg [16, 17] q (fun gi s16 s17 wx => ∃ (j e : Nat), j + gi = q ∧ s16 = .int .i64 (j : Int) ∧ wx = w4.drewN e)
          case atStart => exact ⟨0, _, by omega, rfl, rfl⟩
          case round =>
            obtain ⟨j, e, hj, rfl, rfl⟩ := hrel
            by_cases hjq : j < q
            · obtain ⟨gj, rfl⟩ : ∃ g, gk = g + 1 := ⟨gk - 1, by omega⟩
              have hjL : j < L.length := by rw [← HNQ.out.1]; exact hjq
              obtain ⟨tj, htj⟩ : ∃ t, t = L.getD j z := ⟨_, rfl⟩
              obtain ⟨tt, htt⟩ : ∃ t, t = tj.text := ⟨_, rfl⟩
              have hcj : w4.cell? ⟨b, o + j * 5, none⟩ = some (.string (tb tt)) := by rw [htt]; exact HRL.out.c0 hjL htj
              obtain ⟨mj, hmj⟩ : ∃ n, n = tt.length := ⟨_, rfl⟩
              have hmz : (tb tt).size = mj := by rw [tb_size, hmj]
              have hmj4 : mj ≤ 4 := by rw [hmj, htt, htj]; exact (val_plain HV.out (getD_mem hjL)).2.1
              have HP : Hid (tt <+: s.drop p → mj ≤ 0) := Lib.hid fun hp => by rw [hmj, htt, htj]; exact hn0 ▸ HNP.out _ (getD_mem hjL) (by rw [← htj, ← htt]; exact hp)
              have HMJ := Lib.hid hmj
              have hwr : IntKind.i64.wrap ((p : Int) + (mj : Int)) = (p : Int) + (mj : Int) := IntWalk.i64_in _ (by omega)
              clear htj htt hmj
              by_cases hgt : 0 < mj
              · have hd1 : decide ((0 : Int) < (mj : Int)) = true := decide_eq_true (by omega)
                by_cases hfit : p + mj ≤ m
                · have hd2 : decide ((p : Int) + (mj : Int) ≤ (m : Int)) = true := decide_eq_true (by omega)
                  obtain ⟨v, hv⟩ : ∃ v, v = (s.drop p).take mj := ⟨_, rfl⟩
                  have hsub2 : (tb s).extract p (p + mj) = tb v := by rw [tb_sub, hv, show p + mj - p = mj by omega]
                  have heq : ((tb v).toList == (tb tt).toList) = false := by
                    rw [tb_toList, tb_toList]
                    refine beq_eq_false_iff_ne.2 fun e => ?_
                    have := HP.out (pre_sub HMJ.out (by rw [← HM.out]; exact hfit) (by rw [← hv]; exact e))
                    omega
                  clear hv
                  go_wp2_with fail
                  go_quiet (fail)
                  go_wp2_with fail
                  go_roundg gj
                  case rel => exact ⟨j + 1, _, by omega, by go_num, rfl⟩
                  case measure => omega
                · have hd2 : decide ((p : Int) + (mj : Int) ≤ (m : Int)) = false := decide_eq_false (by omega)
                  go_wp2_with fail
                  go_quiet (fail)
                  go_wp2_with fail
                  go_roundg gj
                  case rel => exact ⟨j + 1, _, by omega, by go_num, rfl⟩
                  case measure => omega
              · have hd1 : decide ((0 : Int) < (mj : Int)) = false := decide_eq_false (by omega)
                go_wp2_with fail
                go_quiet (fail)
                go_wp2_with fail
                go_roundg gj
                case rel => exact ⟨j + 1, _, by omega, by go_num, rfl⟩
                case measure => omega
            · obtain rfl : j = q := by omega
              go_wp2_with fail
              go_roundg g
              case rel => exact ⟨i + 1, p, _, by omega, by omega, by go_num, by go_num, Lib.hid fun h => by omega, rfl⟩
              case measure => omega
        · have hile : decide ((i : Int) ≤ (n1 : Int)) = true := decide_eq_true (by omega)
          obtain ⟨b1, o1, rfl, hil⟩ := il_open HR1.out (by intro e; have := HNQ.out.2; rw [e] at this; simp at this; omega)
          have hcx : w4.cell? ⟨b1, o1 + i, none⟩ = some (.int .i64 (x : Int)) := hil.at (Below.refl _ _) (by rw [← HNQ.out.2]; exact hl) hxe.symm
          obtain ⟨tx, htx⟩ : ∃ t, t = L.getD x z := ⟨_, rfl⟩
          have hct : w4.cell? ⟨b, o + x * 5, none⟩ = some (.string (tb tx.text)) := HRL.out.c0 (by rw [← HNQ.out.1]; exact hxq) htx
          have htz : (tb tx.text).size = n := by rw [tb_size, htx, hxn]
          clear hil htx hxe hxn
          go_wp2_with fail
          go_loopg [16, 17] q (fun gi s16 s17 wx => ∃ (j e : Nat), j + gi = q ∧ s16 = .int .i64 (j : Int) ∧ wx = w4.drewN e)
          case atStart => exact ⟨0, _, by omega, rfl, rfl⟩
          case round =>
            obtain ⟨j, e, hj, rfl, rfl⟩ := hrel
            by_cases hjq : j < q
            · obtain ⟨gj, rfl⟩ : ∃ g, gk = g + 1 := ⟨gk - 1, by omega⟩
              have hjL : j < L.length := by rw [← HNQ.out.1]; exact hjq
              obtain ⟨tj, htj⟩ : ∃ t, t = L.getD j z := ⟨_, rfl⟩
              obtain ⟨tt, htt⟩ : ∃ t, t = tj.text := ⟨_, rfl⟩
              have hcj : w4.cell? ⟨b, o + j * 5, none⟩ = some (.string (tb tt)) := by rw [htt]; exact HRL.out.c0 hjL htj
              obtain ⟨mj, hmj⟩ : ∃ n, n = tt.length := ⟨_, rfl⟩
              have hmz : (tb tt).size = mj := by rw [tb_size, hmj]
              have hmj4 : mj ≤ 4 := by rw [hmj, htt, htj]; exact (val_plain HV.out (getD_mem hjL)).2.1
              have HP : Hid (tt <+: s.drop p → mj ≤ n) := Lib.hid fun hp => by rw [hmj, htt, htj]; exact HNP.out _ (getD_mem hjL) (by rw [← htj, ← htt]; exact hp)
              have HMJ := Lib.hid hmj
              have hwr : IntKind.i64.wrap ((p : Int) + (mj : Int)) = (p : Int) + (mj : Int) := IntWalk.i64_in _ (by omega)
              clear htj htt hmj
              by_cases hgt : n < mj
              · have hd1 : decide ((n : Int) < (mj : Int)) = true := decide_eq_true (by omega)
                by_cases hfit : p + mj ≤ m
                · have hd2 : decide ((p : Int) + (mj : Int) ≤ (m : Int)) = true := decide_eq_true (by omega)
                  obtain ⟨v, hv⟩ : ∃ v, v = (s.drop p).take mj := ⟨_, rfl⟩
                  have hsub2 : (tb s).extract p (p + mj) = tb v := by rw [tb_sub, hv, show p + mj - p = mj by omega]
                  have heq : ((tb v).toList == (tb tt).toList) = false := by
                    rw [tb_toList, tb_toList]
                    refine beq_eq_false_iff_ne.2 fun e => ?_
                    have := HP.out (pre_sub HMJ.out (by rw [← HM.out]; exact hfit) (by rw [← hv]; exact e))
                    omega
                  clear hv
                  go_wp2_with fail
                  go_quiet (fail)
                  go_wp2_with fail
                  go_roundg gj
                  case rel => exact ⟨j + 1, _, by omega, by go_num, rfl⟩
                  case measure => omega
                · have hd2 : decide ((p : Int) + (mj : Int) ≤ (m : Int)) = false := decide_eq_false (by omega)
                  go_wp2_with fail
                  go_quiet (fail)
                  go_wp2_with fail
                  go_roundg gj
                  case rel => exact ⟨j + 1, _, by omega, by go_num, rfl⟩
                  case measure => omega
              · have hd1 : decide ((n : Int) < (mj : Int)) = false := decide_eq_false (by omega)
                go_wp2_with fail
                go_quiet (fail)
                go_wp2_with fail
                go_roundg gj
                case rel => exact ⟨j + 1, _, by omega, by go_num, rfl⟩
                case measure => omega
            · obtain rfl : j = q := by omega
              go_wp2_with fail
              go_roundg g
              case rel => exact ⟨i + 1, p + n, _, by omega, by omega, by go_num, by go_num, Lib.hid fun h => HNEXT.out h, rfl⟩
              case measure => omega
      · have hix : i = n1 + 1 := by omega
        have hile : decide ((i : Int) ≤ (n1 : Int)) = false := decide_eq_false (by omega)
        clear hix
        go_wp2_with ((with_reducible refine (HLI.out _ (below_drewN HX4.out.1 _)).mono ?_); rintro e w9 ⟨rfl, hb⟩; have HX9 := Lib.hid (below_next (below_drewN HX4.out.1 _) hb); clear hb)
        go_ret
        exact ⟨rfl, HX9.out⟩

set_option maxRecDepth 100000 in
theorem contract (H : Type) (enc : TypeId × Value → H) (W : World) (base : Nat) (args : Array Value) (ds gs : List (DataW H)) (before : List MemPlace)
    (hval : ∀ (j : Nat) t v, Tryd.f7.params[j]? = some t → args[j]? = some v → Value.okWide Tryd.prog W .any base t v)
    (hW : DataW.Whole enc Tryd.prog Tryd.f7.params.toList Rows.alphabetLongestSpec.vars false W args.toList ds gs before)
    (hsz : (DataW.weightsEach Tryd.prog (Tryd.f7.params.toList ++ Rows.alphabetLongestSpec.plain.varTypes Tryd.prog) (ds ++ gs)).all (· ≤ reachBytes) = true) (hK : ML W) :
    Calls Tryd.prog 7 args W fun e W' => ∃ v, e = .returned v ∧ Rows.alphabetLongestSpec.post enc Tryd.prog Tryd.f7 false true false false W args v W' := by
  have hW' := hW
  obtain ⟨p, q, hA0, hV, rfl, hfz, hnd⟩ := hW
  have hA : DataW.TrodAll enc Tryd.prog W 0 (fun _ => true) true Tryd.f7.params.toList args.toList ds p := hA0
  rw [Tryd.params7] at hA hval hsz
  obtain ⟨v0, v1, v2, d0, d1, d2, p0, p1, p2, rfl, rfl, rfl, h0, h1, h2⟩ := trodAll_three hA
  obtain ⟨rfl, rfl⟩ := trodVars_none hV
  obtain ⟨lA, ll, lc, rfl, lr, li, ln, lm⟩ := open_ivs (hval 0 22 v0 rfl rfl) h0
  obtain ⟨kA, kl, kc, rfl, kr, ki, kn, km⟩ := open_ivs (hval 1 22 v1 rfl rfl) h1
  obtain ⟨s0, rfl, rfl, rfl, sw⟩ := open_string Tryd.underlying9 (hval 2 9 v2 rfl rfl) h2
  have sq := str_reach hsz (j := 2) (t := 9) (s := s0) rfl rfl
  obtain ⟨s, se⟩ : ∃ l, l = s0.data.toList := ⟨_, rfl⟩
  have sb : s0 = tb s := by rw [se]; rfl
  have sz : s.length ≤ 140737488351232 := by rw [se]; exact sq
  have hargs : (#[.slice lA ll.length lc, .slice kA kl.length kc, .string s0] : Array Value) = #[.slice lA ll.length lc, .slice kA kl.length kc, .string (tb s)] := by rw [sb]
  have hwalk : Calls Tryd.prog 7 #[.slice lA ll.length lc, .slice kA kl.length kc, .string s0] W fun e W' => e = .returned (.bool true) ∧ Below W.heap.size W W' := by
    rw [hargs]
    exact walk ll lA lc li ln lm kl kA kc ki kn km s sz W lr kr hK
  refine hwalk.mono fun e W' ⟨he, hb⟩ => ⟨_, he, ?_⟩
  exact law_post rfl rfl (by kernel_rfl) hW' rfl hb

set_option maxRecDepth 100000 in
theorem lifted (os : Os) (started : os.Started) (H : Type) (enc : TypeId × Value → H) :
    ReturnsInHanded {} Tryd.checked os 7 .any (fun w args => (Rows.alphabetLongestSpec.pre enc Tryd.prog Tryd.f7 [] false w args ∧ laidMetH Tryd.prog laidA w) ∧ sizedMet enc Tryd.prog Tryd.f7 (OpenSpec.ofChange Rows.alphabetLongestSpec) false w args)
      (Rows.alphabetLongestSpec.post enc Tryd.prog Tryd.f7 false true false false) := by
  refine lift5 (C := Tryd.checked) Tryd.own (enc := enc) (os := os) started (by kernel_rfl) Tryd.func7 #[.slice none 0 0, .slice none 0 0, .string ByteArray.empty] (World.shaped_of_ZipB (by kernel_rfl) (by kernel_rfl)) (by kernel_rfl) (by kernel_rfl) (by kernel_rfl) (metA os _) ?_
  intro W base args ds gs before hval hW hsz shape met
  exact contract H enc W base args ds gs before hval hW hsz (ml_shape shape)

theorem row : Rows.AlphabetLongestSaid :=
  OpenClaim.holds_of_wide 7 Tryd.f7 rfl rfl rfl rfl rfl rfl rfl ⟨rfl, rfl, rfl, rfl, rfl⟩ rfl rfl rfl rfl rfl (by kernel_rfl) Tryd.func7 (by kernel_rfl)
    (of_decide_eq_true (by kernel_rfl)) (by unfold Func.isWrapper; first | (rw [if_pos (by decide +kernel)]; kernel_rfl) | (rw [if_neg (by decide +kernel)]; exact ⟨rfl, rfl⟩))
    (fun os started H enc _ => lifted os started H enc)

theorem proved : Rows.AlphabetLongestCardSaid :=
  Claim7.holds_tied_plain_at .later [] [.data, .pinned] true (true, "7232729ef4ef8a14cd71f04c7a643cd3ec9606b55a84630ce42a8805fdbb5518") false
    row (fun _ h => by cases h) (by kernel_rfl) (fun _ h => by cases h) alphabetLongest_row_tie rfl ⟨rfl, rfl⟩ (by kernel_rfl) rfl
    (fun f fn hf hfn => by
      obtain rfl : f = 7 := Option.some.inj ((show Tryd.prog.funcNamed "wordbook/wordbooklaw05.AlphabetLongest" = some 7 by kernel_rfl).symm.trans hf) |>.symm
      obtain rfl : fn = Tryd.f7 := (Option.some.inj (Tryd.func7.symm.trans hfn)).symm
      exact ⟨by kernel_rfl, fun j t ht => by
        rw [Tryd.params7] at ht
        have hm : t ∈ [22, 22, 9] := by simpa using Array.mem_of_getElem? ht
        have hall : ([22, 22, 9].all fun u => !Tryd.prog.wantsStandIn u) = true := by kernel_rfl
        exact (show Tryd.prog.wantsStandIn t = false by simpa using List.all_eq_true.1 hall t hm)⟩)
    (by kernel_rfl)
end AL5
end Go.Proofs.YtolkmjgklgimpaaDoor
