/-
  AlphabetSafe: for every two lists of numbers the law returns true, and leaves what was there as it was; the listed tables are as the library's text lays them (the card ties them).
-/
import Derived.Test.YtolkmjgklgimpaaDoorALaw
import Derived.Test.YtolkmjgklgimpaaDoorAWT
namespace Go.Proofs.YtolkmjgklgimpaaDoor
open Go.ChangeShapes Go.WideShapes Go.ChangeAt Go.RowKit Go.ChangeMaps
open Alp
set_option linter.unusedVariables false
set_option linter.unusedSimpArgs false
namespace AL6

theorem base_ok {L : List Lt} (hv : valP L = true) {i : Nat} (hi : i < L.length) : ∃ b : Nat, (L.getD i z).base = b ∧ b < L.length ∧ (L.getD b z).base = b := by
  obtain ⟨_, ⟨h1, h2⟩, h3, _⟩ := (lok_iff _ _ _).1 (((valP_iff L).1 hv).2.2.1 i hi)
  refine ⟨(L.getD i z).base.toNat, by omega, by omega, ?_⟩
  rw [h3]
  omega
theorem fold_at {L : List Lt} (hv : valP L = true) {x : Int} (h1 : 0 ≤ x) (h2 : x < L.length) : ∃ b : Nat, foldE L x = b ∧ b < L.length ∧ (L.getD b z).base = b ∧ (L.getD x.toNat z).base = b := by
  obtain ⟨b, e1, e2, e3⟩ := base_ok hv (i := x.toNat) (by omega)
  refine ⟨b, ?_, e2, e3, e1⟩
  unfold foldE
  rw [if_pos ⟨h1, h2⟩, e1]
theorem fold_twice {L : List Lt} (hv : valP L = true) {ws : List Int} (h : ∀ x ∈ ws, 0 ≤ x ∧ x < L.length) : foldP L (foldP L ws) = foldP L ws := by
  rw [foldP_yes hv, foldP_yes hv, List.map_map]
  refine List.map_congr_left fun x hx => ?_
  obtain ⟨b, e1, e2, e3, _⟩ := fold_at hv (h x hx).1 (h x hx).2
  show foldE L (foldE L x) = foldE L x
  rw [e1]
  unfold foldE
  rw [if_pos ⟨by omega, by omega⟩, Int.toNat_natCast, e3]
theorem safe_free {L : List Lt} (hv : valP L = true) (hf : free L) {ws : List Int} (h : ∀ x ∈ ws, 0 ≤ x ∧ x < L.length) : safeP L ws = true := safe_of hv (wrG_ok h) (free_lng hv hf ws _ (wrG_ok h))
theorem map_get {ws : List Int} {f : Int → Int} {i : Nat} (hi : i < ws.length) : (ws.map f).getD i 0 = f (ws.getD i 0) := by simp [List.getD, hi]
set_option maxRecDepth 100000 in
set_option maxHeartbeats 8000000 in
theorem walk (l : List Int) (A : Option Addr) (c : Nat) (li : ∀ x ∈ l, inI x) (ln : l.length ≤ c) (lm : c ≤ maxLen) (k : List Int) (Ak : Option Addr) (ck : Nat) (ki : ∀ x ∈ k, inI x) (kn : k.length ≤ ck) (km : ck ≤ maxLen)
    (w : World) (lr : Rd w A (iv l)) (kr : Rd w Ak (iv k)) (hK : ML w) : Calls Tryd.prog 8 #[.slice A l.length c, .slice Ak k.length ck] w fun e w' => e = .returned (.bool true) ∧ Below w.heap.size w w' := by
  obtain ⟨L, hL⟩ : ∃ L, L = lettersP l := ⟨_, rfl⟩
  have hv : valP L = true := by rw [hL]; exact letters_val l
  have hsm : ∀ l ∈ L, l.text.length ≤ maxLen := fun l hl => by have := (val_plain hv hl).2.1; unfold maxLen; omega
  obtain ⟨R0, hR0⟩ : ∃ R, R = wordP L k := ⟨_, rfl⟩
  have hRl : R0.length ≤ 12 := by rw [hR0]; exact wordP_len L k
  have hRin : ∀ x ∈ R0, 0 ≤ x ∧ x < L.length := by rw [hR0]; exact wordP_in ((valP_iff L).1 hv).1 k
  obtain ⟨X, hX⟩ : ∃ X, X = foldP L R0 := ⟨_, rfl⟩
  have hXl : X.length = R0.length := by rw [hX, foldP_yes hv]; simp
  have hXX : foldP L X = X := by rw [hX]; exact fold_twice hv hRin
  have HLE : Hid (Calls Tryd.prog 9 #[.slice A l.length c] w (LtPost w L)) := Lib.hid (by rw [hL]; exact letters_any l A _ c rfl ln lm li w lr)
  have HWO : Hid (∀ AL q cq W, Below w.heap.size w W → q = L.length → q ≤ cq → cq ≤ maxLen → Calls Tryd.prog 16 #[.slice AL q cq, .slice Ak k.length ck] W (LPost W R0)) := Lib.hid fun AL q cq W hb h1 h2 h3 => by rw [hR0]; exact word_any L AL q cq h1 (by rw [h1]; exact ((valP_iff L).1 hv).1) h2 h3 k Ak _ ck rfl kn km ki W (kr.below hb)
  have HSA : Hid (∀ (ws : List Int) AL q cq A1 n1 c1 V W, q = L.length → q ≤ cq → cq ≤ maxLen → Rd W AL (lv L) → Rd W A1 (iv ws) → n1 = ws.length → n1 ≤ c1 → c1 ≤ maxLen → ws.length ≤ 1000 → V = safeP L ws → Calls Tryd.prog 19 #[.slice AL q cq, .slice A1 n1 c1] W (BoolB W V)) := Lib.hid fun ws AL q cq A1 n1 c1 V W h1 h2 h3 h4 h5 h6 h7 h8 h9 hV => safe_any L ws (by omega) AL q cq h1 h2 h3 hsm A1 n1 c1 h6 h7 h8 V hV W h4 h5
  have HFO : Hid (∀ (ws : List Int) AL q cq A1 n1 c1 W, q = L.length → q ≤ cq → cq ≤ maxLen → Rd W AL (lv L) → Rd W A1 (iv ws) → n1 = ws.length → n1 ≤ c1 → c1 ≤ maxLen → ws.length ≤ 1000 → foldP L ws = X → Calls Tryd.prog 21 #[.slice AL q cq, .slice A1 n1 c1] W (LPost W X)) := Lib.hid fun ws AL q cq A1 n1 c1 W h1 h2 h3 h4 h5 h6 h7 h8 h9 hE => by have := fold_aux L ws n1 h6 (by omega) AL q cq h1 h2 h3 hsm true hv.symm A1 c1 h7 h8 W h4 h5; rw [hE] at this; exact this
  have HSI : Hid (∀ (R : List Int) (A1 A2 : Option Addr) (n1 n2 c1 c2 : Nat) (V : Bool) W, n1 = R.length → n2 = R.length → n1 ≤ maxLen → Rd W A1 (iv R) → Rd W A2 (iv R) → V = true → Calls Tryd.prog 14 #[.slice A1 n1 c1, .slice A2 n2 c2] W (BoolB W V)) := Lib.hid fun R A1 A2 n1 n2 c1 c2 V W h1 h2 h3 h4 h5 hV => same_any R R A1 A2 n1 n2 c1 c2 h1 h2 h3 V (by rw [hV, decide_eq_true rfl]) W h4 h5
  have HLI : Hid (∀ W, Below w.heap.size w W → Calls Tryd.prog 15 #[] W fun e w' => e = .returned (.bool true) ∧ Below W.heap.size W w') := Lib.hid fun W hb => lives_any W (hK.below hb)
  have HV := Lib.hid hv
  have HRIN := Lib.hid hRin
  have HXD := Lib.hid hX
  have HXL : Hid (X.length = R0.length ∧ foldP L X = X ∧ R0.length ≤ 12) := Lib.hid ⟨hXl, hXX, hRl⟩
  clear hL hv hsm hR0 hRl hRin hX hXl hXX li ki lr kr hK
  go_enter Tryd.func8, Tryd.ntmps8
  go_wp2_with (first
    | ((with_reducible refine HLE.out.mono ?_); rintro e w1 hp; obtain ⟨AL, q, cq, rfl, h1, h2, h3, h4, hb⟩ := lt_out hp; have HX1 : Hid (Below w.heap.size w w1 ∧ q = L.length ∧ q ≤ cq ∧ cq ≤ maxLen ∧ Rd w1 AL (lv L)) := Lib.hid ⟨hb, h1, h3, h4, h2⟩; have hqb : cq ≤ 9223372036854775807 := (by unfold maxLen at h4; omega); have hqc : q ≤ cq := h3; clear hp h1 h2 h3 h4 hb)
    | ((with_reducible refine (HWO.out _ _ _ _ HX1.out.1 HX1.out.2.1 HX1.out.2.2.1 HX1.out.2.2.2.1).mono ?_); rintro e w2 hp; obtain ⟨A0, c0, n0, rfl, h1, h2, h3, h4, hb⟩ := l_out hp; have hn12 : n0 ≤ 12 := (by rw [h1]; exact HXL.out.2.2); have hc0b : c0 ≤ 9223372036854775807 := (by unfold maxLen at h4; omega); have hc0c : n0 ≤ c0 := h3; have HX2 : Hid (Below w.heap.size w w2 ∧ Rd w2 AL (lv L) ∧ Rd w2 A0 (iv R0) ∧ n0 = R0.length ∧ n0 ≤ c0 ∧ c0 ≤ maxLen) := Lib.hid ⟨below_next HX1.out.1 hb, HX1.out.2.2.2.2.below hb, h2, h1, h3, h4⟩; clear hp h1 h2 h3 h4 hb))
  obtain ⟨b, o, rfl, hrl⟩ := rl_open HX2.out.2.1 (by have := HV.out; intro e; subst e; simp [valP] at this)
  have HNQ : Hid (q = L.length) := Lib.hid HX1.out.2.1
  have hq60 : q ≤ 60 := by rw [HNQ.out]; exact ((valP_iff L).1 HV.out).2.1
  have H2 : Hid (Below w.heap.size w w2 ∧ RL w2 b o L ∧ Rd w2 (some ⟨b, o, none⟩) (lv L) ∧ Rd w2 A0 (iv R0)) := Lib.hid ⟨HX2.out.1, hrl, HX2.out.2.1, HX2.out.2.2.1⟩
  clear hrl
  go_loopg [7, 8, 9, 10] q (fun g s7 s8 s9 s10 wr => ∃ (i : Nat) (fr : Bool), i + g = q ∧ s8 = .int .i64 (i : Int) ∧ s7 = .bool fr ∧ Hid ((fr = true → ∀ i' j', i' < i → j' < q → i' ≠ j' → ¬ (L.getD i' z).text <+: (L.getD j' z).text) ∧ (Below w.heap.size w wr ∧ RL wr b o L ∧ Rd wr (some ⟨b, o, none⟩) (lv L) ∧ Rd wr A0 (iv R0))))
  case atStart => exact ⟨0, true, by omega, rfl, rfl, Lib.hid ⟨fun _ i' j' h => by omega, H2.out⟩⟩
  case round =>
    clear H2
    obtain ⟨i, fr, hi, rfl, rfl, HI⟩ := hrel
    by_cases hlt : i < q
    · obtain ⟨g, rfl⟩ : ∃ g, gk = g + 1 := ⟨gk - 1, by omega⟩
      have hiL : i < L.length := by rw [← HNQ.out]; exact hlt
      obtain ⟨ti, hti⟩ : ∃ t, t = (L.getD i z).text := ⟨_, rfl⟩
      obtain ⟨n, hn⟩ : ∃ n, n = ti.length := ⟨_, rfl⟩
      have hn4 : n ≤ 4 := by rw [hn, hti]; exact (val_plain HV.out (getD_mem hiL)).2.1
      have htz : (tb ti).size = n := by rw [tb_size, hn]
      have HTI : Hid (ti = (L.getD i z).text ∧ n = ti.length) := Lib.hid ⟨hti, hn⟩
      have HCI : Hid (∀ W, RL W b o L → W.cell? ⟨b, o + i * 5, none⟩ = some (.string (tb ti))) := Lib.hid fun W h => by rw [hti]; exact h.c0 hiL rfl
      have HS1 : Hid (∀ B W, Rd W (some ⟨b, o, none⟩) (lv L) → Blk W B (iv [(i : Int)]) 3 → Calls Tryd.prog 19 #[.slice (some ⟨b, o, none⟩) q cq, .slice (some ⟨B, 0, none⟩) 1 1] W (BoolB W true)) := Lib.hid fun B W h1 h2 => HSA.out [(i : Int)] _ q cq _ 1 1 true W HX1.out.2.1 HX1.out.2.2.1 HX1.out.2.2.2.1 h1 (blk_rd h2) rfl (Nat.le_refl _) (by unfold maxLen; omega) (by simp) (safe_one HV.out hiL).symm
      have HB1 : Hid (Blk (wr.alloc (.cells #[.int .i64 (i : Int)] 3)) wr.heap.size (iv [(i : Int)]) 3) := Lib.hid (Blk.at wr (iv [(i : Int)]) _ _ _ rfl rfl)
      have HRA : Hid (Rd (wr.alloc (.cells #[.int .i64 (i : Int)] 3)) (some ⟨b, o, none⟩) (lv L)) := Lib.hid (HI.out.2.2.2.1.alloc _)
      clear hti hn
      go_wp2_with ((with_reducible refine (HS1.out _ _ HRA.out HB1.out).mono ?_); rintro e w3 hp; obtain ⟨rfl, hb⟩ := boolb_out hp; have HX3 : Hid (Below w.heap.size w w3 ∧ RL w3 b o L ∧ Rd w3 (some ⟨b, o, none⟩) (lv L) ∧ Rd w3 A0 (iv R0)) := Lib.hid ⟨below_next (below_al HI.out.2.1 _) hb, (HI.out.2.2.1.below (below_a1 _ _)).below hb, (HI.out.2.2.2.1.alloc _).below hb, (HI.out.2.2.2.2.alloc _).below hb⟩; clear hp hb)
      have hci := HCI.out w3 HX3.out.2.1
      go_loopg [7, 9, 10] q (fun gi s7 s9 s10 wx => ∃ (j a : Nat) (f2 : Bool), j + gi = q ∧ s9 = .int .i64 (j : Int) ∧ s7 = .bool f2 ∧ Hid (f2 = true → fr = true ∧ ∀ j', j' < j → i ≠ j' → ¬ ti <+: (L.getD j' z).text) ∧ wx = w3.drewN a)
      case atStart => exact ⟨0, 0, fr, by omega, rfl, rfl, Lib.hid fun h => ⟨h, fun j' h => by omega⟩, rfl⟩
      case round =>
        obtain ⟨j, a, f2, hj, rfl, rfl, HJ, rfl⟩ := hrel
        by_cases hjq : j < q
        · obtain ⟨gj, rfl⟩ : ∃ g, gk = g + 1 := ⟨gk - 1, by omega⟩
          have hjL : j < L.length := by rw [← HNQ.out]; exact hjq
          obtain ⟨tj, htj⟩ : ∃ t, t = (L.getD j z).text := ⟨_, rfl⟩
          have hcj : w3.cell? ⟨b, o + j * 5, none⟩ = some (.string (tb tj)) := by rw [htj]; exact HX3.out.2.1.c0 hjL rfl
          obtain ⟨nj, hnj⟩ : ∃ n, n = tj.length := ⟨_, rfl⟩
          have hjz : (tb tj).size = nj := by rw [tb_size, hnj]
          have hnj4 : nj ≤ 4 := by rw [hnj, htj]; exact (val_plain HV.out (getD_mem hjL)).2.1
          have HTJ : Hid (tj = (L.getD j z).text ∧ nj = tj.length) := Lib.hid ⟨htj, hnj⟩
          clear htj hnj
          have HSTEP : Hid ((i = j ∨ ¬ ti <+: tj) → (f2 = true → fr = true ∧ ∀ j', j' < j + 1 → i ≠ j' → ¬ ti <+: (L.getD j' z).text)) := Lib.hid fun h hf => ⟨(HJ.out hf).1, fun j' h1 h2 => by
            rcases Nat.lt_or_ge j' j with h3 | h3
            · exact (HJ.out hf).2 j' h3 h2
            · obtain rfl : j' = j := by omega
              rcases h with h | h
              · exact absurd h h2
              · rw [← HTJ.out.1]; exact h⟩
          by_cases hij : i = j
          · have hne : ((i : Int) != (j : Int)) = false := by rw [hij]; simp
            have HIJ := Lib.hid hij
            clear hij
            go_wp2_with fail
            go_quiet (fail)
            go_wp2_with fail
            go_roundg gj
            case rel => exact ⟨j + 1, _, f2, by omega, by go_num, rfl, Lib.hid (HSTEP.out (.inl HIJ.out)), rfl⟩
            case measure => omega
          · have hne : ((i : Int) != (j : Int)) = true := bne_iff_ne.2 (by omega)
            by_cases hle : n ≤ nj
            · have hd : decide ((n : Int) ≤ (nj : Int)) = true := decide_eq_true (by omega)
              obtain ⟨v, hvv⟩ : ∃ v, v = tj.take n := ⟨_, rfl⟩
              have hsub : (tb tj).extract 0 n = tb v := by rw [tb_sub, hvv]; simp
              by_cases he : v = ti
              · have heq : ((tb v).toList == (tb ti).toList) = true := by rw [he]; exact beq_self_eq_true _
                clear hvv he
                go_wp2_with fail
                go_quiet (fail)
                go_wp2_with fail
                go_roundg gj
                case rel => exact ⟨j + 1, _, false, by omega, by go_num, rfl, Lib.hid fun h => (by cases h), rfl⟩
                case measure => omega
              · have heq : ((tb v).toList == (tb ti).toList) = false := by rw [tb_toList, tb_toList]; exact beq_eq_false_iff_ne.2 he
                have HNP : Hid (¬ ti <+: tj) := Lib.hid fun hp => he (by rw [hvv, HTI.out.2]; exact prefix_take hp)
                clear hvv he
                go_wp2_with fail
                go_quiet (fail)
                go_wp2_with fail
                go_roundg gj
                case rel => exact ⟨j + 1, _, f2, by omega, by go_num, rfl, Lib.hid (HSTEP.out (.inr HNP.out)), rfl⟩
                case measure => omega
            · have hd : decide ((n : Int) ≤ (nj : Int)) = false := decide_eq_false (by omega)
              have HNP : Hid (¬ ti <+: tj) := Lib.hid fun hp => hle (by rw [HTI.out.2, HTJ.out.2]; exact hp.length_le)
              go_wp2_with fail
              go_quiet (fail)
              go_wp2_with fail
              go_roundg gj
              case rel => exact ⟨j + 1, _, f2, by omega, by go_num, rfl, Lib.hid (HSTEP.out (.inr HNP.out)), rfl⟩
              case measure => omega
        · obtain rfl : j = q := by omega
          go_wp2_with fail
          go_roundg g
          case rel => exact ⟨i + 1, f2, by omega, by go_num, rfl, Lib.hid ⟨fun hf i' j' h1 h2 h3 => by
            rcases Nat.lt_or_ge i' i with h4 | h4
            · exact HI.out.1 (HJ.out hf).1 i' j' h4 h2 h3
            · obtain rfl : i' = i := by omega
              rw [← HTI.out.1]
              exact (HJ.out hf).2 j' h2 h3, below_drewN HX3.out.1 _, HX3.out.2.1, HX3.out.2.2.1, HX3.out.2.2.2⟩⟩
          case measure => omega
    · obtain rfl : i = q := by omega
      have HF : Hid (fr = true → true = safeP L R0) := Lib.hid fun h => (safe_free HV.out (fun i' j' h1 h2 h3 => HI.out.1 h i' j' (by rw [HNQ.out]; exact h1) (by rw [HNQ.out]; exact h2) h3) HRIN.out).symm
      have HFO1 : Hid (∀ W, Rd W (some ⟨b, o, none⟩) (lv L) → Rd W A0 (iv R0) → Calls Tryd.prog 21 #[.slice (some ⟨b, o, none⟩) i cq, .slice A0 n0 c0] W (LPost W X)) := Lib.hid fun W h1 h2 => HFO.out R0 _ i cq _ n0 c0 W HX1.out.2.1 HX1.out.2.2.1 HX1.out.2.2.2.1 h1 h2 HX2.out.2.2.2.1 HX2.out.2.2.2.2.1 HX2.out.2.2.2.2.2 (by have := HXL.out.2.2; omega) HXD.out.symm
      have HFO2 : Hid (∀ A1 n1 c1 W, Rd W (some ⟨b, o, none⟩) (lv L) → Rd W A1 (iv X) → n1 = X.length → n1 ≤ c1 → c1 ≤ maxLen → Calls Tryd.prog 21 #[.slice (some ⟨b, o, none⟩) i cq, .slice A1 n1 c1] W (LPost W X)) := Lib.hid fun A1 n1 c1 W h1 h2 h3 h4 h5 => HFO.out X _ i cq _ n1 c1 W HX1.out.2.1 HX1.out.2.2.1 HX1.out.2.2.2.1 h1 h2 h3 h4 h5 (by have := HXL.out.1; have := HXL.out.2.2; omega) HXL.out.2.1
      have HSW : Hid (fr = true → ∀ W, Rd W (some ⟨b, o, none⟩) (lv L) → Rd W A0 (iv R0) → Calls Tryd.prog 19 #[.slice (some ⟨b, o, none⟩) i cq, .slice A0 n0 c0] W (BoolB W true)) := Lib.hid fun h W h1 h2 => HSA.out R0 _ i cq _ n0 c0 true W HX1.out.2.1 HX1.out.2.2.1 HX1.out.2.2.2.1 h1 h2 HX2.out.2.2.2.1 HX2.out.2.2.2.2.1 HX2.out.2.2.2.2.2 (by have := HXL.out.2.2; omega) (HF.out h)
      have HLN : Hid (X.length = n0) := Lib.hid (by rw [HXL.out.1, HX2.out.2.2.2.1])
      cases fr
      · clear HSW HF
        go_wp2_with (first
          | ((with_reducible refine (HFO1.out _ HI.out.2.2.2.1 HI.out.2.2.2.2).mono ?_); rintro e w5 hp; obtain ⟨A8, c8, n8, rfl, h1, h2, h3, h4, hb⟩ := l_out hp; have h1' : n8 = n0 := (by rw [h1]; exact HLN.out); subst h1'; have hc8b : c8 ≤ 9223372036854775807 := (by unfold maxLen at h4; omega); have hc8c := h3; have HX5 : Hid (Below w.heap.size w w5 ∧ RL w5 b o L ∧ Rd w5 (some ⟨b, o, none⟩) (lv L) ∧ Rd w5 A0 (iv R0) ∧ Rd w5 A8 (iv X) ∧ n8 = X.length ∧ n8 ≤ c8 ∧ c8 ≤ maxLen) := Lib.hid ⟨below_next HI.out.2.1 hb, HI.out.2.2.1.below hb, HI.out.2.2.2.1.below hb, HI.out.2.2.2.2.below hb, h2, h1, h3, h4⟩; clear hp h1 h2 h3 h4 hb)
          | ((with_reducible refine (HFO2.out _ _ _ _ HX5.out.2.2.1 HX5.out.2.2.2.2.1 HX5.out.2.2.2.2.2.1 HX5.out.2.2.2.2.2.2.1 HX5.out.2.2.2.2.2.2.2).mono ?_); rintro e w6 hp; obtain ⟨A9, c9, n9, rfl, h1, h2, h3, h4, hb⟩ := l_out hp; have HX6 : Hid (Below w.heap.size w w6 ∧ RL w6 b o L ∧ Rd w6 (some ⟨b, o, none⟩) (lv L) ∧ Rd w6 A0 (iv R0) ∧ Rd w6 A8 (iv X) ∧ Rd w6 A9 (iv X) ∧ n9 = X.length) := Lib.hid ⟨below_next HX5.out.1 hb, HX5.out.2.1.below hb, HX5.out.2.2.1.below hb, HX5.out.2.2.2.1.below hb, HX5.out.2.2.2.2.1.below hb, h2, h1⟩; have hxl : n8 ≤ maxLen := (Nat.le_trans HX5.out.2.2.2.2.2.2.1 HX5.out.2.2.2.2.2.2.2); have HXM := Lib.hid hxl; clear hp h1 h2 h3 h4 hb hxl)
          | ((with_reducible refine (HSI.out X _ _ _ _ _ _ true _ HX5.out.2.2.2.2.2.1 HX6.out.2.2.2.2.2.2 HXM.out HX6.out.2.2.2.2.1 HX6.out.2.2.2.2.2.1 rfl).mono ?_); rintro e w8 hp; obtain ⟨rfl, hb⟩ := boolb_out hp; have HX8 : Hid (Below w.heap.size w w8 ∧ RL w8 b o L ∧ Rd w8 A0 (iv R0) ∧ Rd w8 A8 (iv X)) := Lib.hid ⟨below_next HX6.out.1 hb, HX6.out.2.1.below hb, HX6.out.2.2.2.1.below hb, HX6.out.2.2.2.2.1.below hb⟩; clear hp hb))
        go_loopg [13] n8 (fun g s13 wr => ∃ (j a : Nat), j + g = n8 ∧ s13 = .int .i64 (j : Int) ∧ wr = w8.drewN a)
        case atStart => exact ⟨0, 0, by omega, rfl, rfl⟩
        case round =>
          obtain ⟨j, a, hj, rfl, rfl⟩ := hrel
          by_cases hlt2 : j < n8
          · obtain ⟨g, rfl⟩ : ∃ g, gk = g + 1 := ⟨gk - 1, by omega⟩
            have hjR : j < R0.length := by have := HX5.out.2.2.2.2.2.1; have := HXL.out.1; omega
            have hin := HRIN.out (R0.getD j 0) (by simp [List.getD, hjR])
            obtain ⟨y, hy⟩ : ∃ y : Nat, R0.getD j 0 = y := ⟨_, (Int.toNat_of_nonneg hin.1).symm⟩
            rw [hy] at hin
            obtain ⟨x, e1, e2, e3, e4⟩ := fold_at HV.out hin.1 hin.2
            rw [Int.toNat_natCast] at e4
            have hXj : X.getD j 0 = x := by rw [HXD.out, foldP_yes HV.out, map_get hjR, hy, e1]
            obtain ⟨b8, o8, rfl, hi8⟩ := il_open HX8.out.2.2.2 (by intro e; have := HX5.out.2.2.2.2.2.1; rw [e] at this; simp at this; omega)
            obtain ⟨b0, o0, rfl, hi0⟩ := il_open HX8.out.2.2.1 (by intro e; rw [e] at hjR; simp at hjR)
            have hc8 : w8.cell? ⟨b8, o8 + j, none⟩ = some (.int .i64 (x : Int)) := hi8.at (Below.refl _ _) (by rw [← HX5.out.2.2.2.2.2.1]; exact hlt2) hXj.symm
            have hc0 : w8.cell? ⟨b0, o0 + j, none⟩ = some (.int .i64 (y : Int)) := hi0.at (Below.refl _ _) hjR hy.symm
            have hbx : w8.cell? ⟨b, o + x * 5 + 1, none⟩ = some (.int .i64 (x : Int)) := (HX8.out.2.1.c1 e2 rfl).trans (by rw [e3])
            have hby : w8.cell? ⟨b, o + y * 5 + 1, none⟩ = some (.int .i64 (x : Int)) := (HX8.out.2.1.c1 (by omega) rfl).trans (by rw [e4])
            have hxq : x < i := by rw [HNQ.out]; exact e2
            have hyq : y < i := by rw [HNQ.out]; omega
            have hd1 : decide ((x : Int) < 0) = false := decide_eq_false (by omega)
            have hd2 : decide ((i : Int) ≤ (x : Int)) = false := decide_eq_false (by omega)
            have hxx : ((x : Int) != (x : Int)) = false := by simp
            clear hin hy e1 e2 e3 e4 hXj hi8 hi0 hjR
            go_wp2_with fail
            go_quiet (fail)
            go_wp2_with fail
            go_roundg g
            case rel => exact ⟨j + 1, _, by omega, by go_num, rfl⟩
            case measure => omega
          · obtain rfl : j = n8 := by omega
            go_wp2_with ((with_reducible refine (HLI.out _ (below_drewN HX8.out.1 _)).mono ?_); rintro e w9 ⟨rfl, hb⟩; have HX9 := Lib.hid (below_next (below_drewN HX8.out.1 _) hb); clear hb)
            go_ret
            exact ⟨rfl, HX9.out⟩
      · have HSW2 := Lib.hid (HSW.out rfl)
        clear HSW HF
        go_wp2_with (first
          | ((with_reducible refine (HFO1.out _ HI.out.2.2.2.1 HI.out.2.2.2.2).mono ?_); rintro e w5 hp; obtain ⟨A8, c8, n8, rfl, h1, h2, h3, h4, hb⟩ := l_out hp; have h1' : n8 = n0 := (by rw [h1]; exact HLN.out); subst h1'; have hc8b : c8 ≤ 9223372036854775807 := (by unfold maxLen at h4; omega); have hc8c := h3; have HX5 : Hid (Below w.heap.size w w5 ∧ RL w5 b o L ∧ Rd w5 (some ⟨b, o, none⟩) (lv L) ∧ Rd w5 A0 (iv R0) ∧ Rd w5 A8 (iv X) ∧ n8 = X.length ∧ n8 ≤ c8 ∧ c8 ≤ maxLen) := Lib.hid ⟨below_next HI.out.2.1 hb, HI.out.2.2.1.below hb, HI.out.2.2.2.1.below hb, HI.out.2.2.2.2.below hb, h2, h1, h3, h4⟩; clear hp h1 h2 h3 h4 hb)
          | ((with_reducible refine (HFO2.out _ _ _ _ HX5.out.2.2.1 HX5.out.2.2.2.2.1 HX5.out.2.2.2.2.2.1 HX5.out.2.2.2.2.2.2.1 HX5.out.2.2.2.2.2.2.2).mono ?_); rintro e w6 hp; obtain ⟨A9, c9, n9, rfl, h1, h2, h3, h4, hb⟩ := l_out hp; have HX6 : Hid (Below w.heap.size w w6 ∧ RL w6 b o L ∧ Rd w6 (some ⟨b, o, none⟩) (lv L) ∧ Rd w6 A0 (iv R0) ∧ Rd w6 A8 (iv X) ∧ Rd w6 A9 (iv X) ∧ n9 = X.length) := Lib.hid ⟨below_next HX5.out.1 hb, HX5.out.2.1.below hb, HX5.out.2.2.1.below hb, HX5.out.2.2.2.1.below hb, HX5.out.2.2.2.2.1.below hb, h2, h1⟩; have hxl : n8 ≤ maxLen := (Nat.le_trans HX5.out.2.2.2.2.2.2.1 HX5.out.2.2.2.2.2.2.2); have HXM := Lib.hid hxl; clear hp h1 h2 h3 h4 hb hxl)
          | ((with_reducible refine (HSW2.out _ HX6.out.2.2.1 HX6.out.2.2.2.1).mono ?_); rintro e w7 hp; obtain ⟨rfl, hb⟩ := boolb_out hp; have HX7 : Hid (Below w.heap.size w w7 ∧ RL w7 b o L ∧ Rd w7 (some ⟨b, o, none⟩) (lv L) ∧ Rd w7 A0 (iv R0) ∧ Rd w7 A8 (iv X) ∧ Rd w7 A9 (iv X)) := Lib.hid ⟨below_next HX6.out.1 hb, HX6.out.2.1.below hb, HX6.out.2.2.1.below hb, HX6.out.2.2.2.1.below hb, HX6.out.2.2.2.2.1.below hb, HX6.out.2.2.2.2.2.1.below hb⟩; clear hp hb)
          | ((with_reducible refine (HSI.out X _ _ _ _ _ _ true _ HX5.out.2.2.2.2.2.1 HX6.out.2.2.2.2.2.2 HXM.out HX7.out.2.2.2.2.1 HX7.out.2.2.2.2.2 rfl).mono ?_); rintro e w8 hp; obtain ⟨rfl, hb⟩ := boolb_out hp; have HX8 : Hid (Below w.heap.size w w8 ∧ RL w8 b o L ∧ Rd w8 A0 (iv R0) ∧ Rd w8 A8 (iv X)) := Lib.hid ⟨below_next HX7.out.1 hb, HX7.out.2.1.below hb, HX7.out.2.2.2.1.below hb, HX7.out.2.2.2.2.1.below hb⟩; clear hp hb))
        go_loopg [13] n8 (fun g s13 wr => ∃ (j a : Nat), j + g = n8 ∧ s13 = .int .i64 (j : Int) ∧ wr = w8.drewN a)
        case atStart => exact ⟨0, 0, by omega, rfl, rfl⟩
        case round =>
          obtain ⟨j, a, hj, rfl, rfl⟩ := hrel
          by_cases hlt2 : j < n8
          · obtain ⟨g, rfl⟩ : ∃ g, gk = g + 1 := ⟨gk - 1, by omega⟩
            have hjR : j < R0.length := by have := HX5.out.2.2.2.2.2.1; have := HXL.out.1; omega
            have hin := HRIN.out (R0.getD j 0) (by simp [List.getD, hjR])
            obtain ⟨y, hy⟩ : ∃ y : Nat, R0.getD j 0 = y := ⟨_, (Int.toNat_of_nonneg hin.1).symm⟩
            rw [hy] at hin
            obtain ⟨x, e1, e2, e3, e4⟩ := fold_at HV.out hin.1 hin.2
            rw [Int.toNat_natCast] at e4
            have hXj : X.getD j 0 = x := by rw [HXD.out, foldP_yes HV.out, map_get hjR, hy, e1]
            obtain ⟨b8, o8, rfl, hi8⟩ := il_open HX8.out.2.2.2 (by intro e; have := HX5.out.2.2.2.2.2.1; rw [e] at this; simp at this; omega)
            obtain ⟨b0, o0, rfl, hi0⟩ := il_open HX8.out.2.2.1 (by intro e; rw [e] at hjR; simp at hjR)
            have hc8 : w8.cell? ⟨b8, o8 + j, none⟩ = some (.int .i64 (x : Int)) := hi8.at (Below.refl _ _) (by rw [← HX5.out.2.2.2.2.2.1]; exact hlt2) hXj.symm
            have hc0 : w8.cell? ⟨b0, o0 + j, none⟩ = some (.int .i64 (y : Int)) := hi0.at (Below.refl _ _) hjR hy.symm
            have hbx : w8.cell? ⟨b, o + x * 5 + 1, none⟩ = some (.int .i64 (x : Int)) := (HX8.out.2.1.c1 e2 rfl).trans (by rw [e3])
            have hby : w8.cell? ⟨b, o + y * 5 + 1, none⟩ = some (.int .i64 (x : Int)) := (HX8.out.2.1.c1 (by omega) rfl).trans (by rw [e4])
            have hxq : x < i := by rw [HNQ.out]; exact e2
            have hyq : y < i := by rw [HNQ.out]; omega
            have hd1 : decide ((x : Int) < 0) = false := decide_eq_false (by omega)
            have hd2 : decide ((i : Int) ≤ (x : Int)) = false := decide_eq_false (by omega)
            have hxx : ((x : Int) != (x : Int)) = false := by simp
            clear hin hy e1 e2 e3 e4 hXj hi8 hi0 hjR
            go_wp2_with fail
            go_quiet (fail)
            go_wp2_with fail
            go_roundg g
            case rel => exact ⟨j + 1, _, by omega, by go_num, rfl⟩
            case measure => omega
          · obtain rfl : j = n8 := by omega
            go_wp2_with ((with_reducible refine (HLI.out _ (below_drewN HX8.out.1 _)).mono ?_); rintro e w9 ⟨rfl, hb⟩; have HX9 := Lib.hid (below_next (below_drewN HX8.out.1 _) hb); clear hb)
            go_ret
            exact ⟨rfl, HX9.out⟩

set_option maxRecDepth 100000 in
theorem contract (H : Type) (enc : TypeId × Value → H) (W : World) (base : Nat) (args : Array Value) (ds gs : List (DataW H)) (before : List MemPlace)
    (hval : ∀ (j : Nat) t v, Tryd.f8.params[j]? = some t → args[j]? = some v → Value.okWide Tryd.prog W .any base t v)
    (hW : DataW.Whole enc Tryd.prog Tryd.f8.params.toList Rows.alphabetSafeSpec.vars false W args.toList ds gs before)
    (hsz : (DataW.weightsEach Tryd.prog (Tryd.f8.params.toList ++ Rows.alphabetSafeSpec.plain.varTypes Tryd.prog) (ds ++ gs)).all (· ≤ reachBytes) = true) (hK : ML W) :
    Calls Tryd.prog 8 args W fun e W' => ∃ v, e = .returned v ∧ Rows.alphabetSafeSpec.post enc Tryd.prog Tryd.f8 false true false false W args v W' := by
  have hW' := hW
  obtain ⟨p, q, hA0, hV, rfl, hfz, hnd⟩ := hW
  have hA : DataW.TrodAll enc Tryd.prog W 0 (fun _ => true) true Tryd.f8.params.toList args.toList ds p := hA0
  rw [Tryd.params8] at hA hval hsz
  obtain ⟨v0, v1, d0, d1, p0, p1, rfl, rfl, rfl, h0, h1⟩ := trodAll_two hA
  obtain ⟨rfl, rfl⟩ := trodVars_none hV
  obtain ⟨lA, ll, lc, rfl, lr, li, ln, lm⟩ := open_ivs (hval 0 22 v0 rfl rfl) h0
  obtain ⟨kA, kl, kc, rfl, kr, ki, kn, km⟩ := open_ivs (hval 1 22 v1 rfl rfl) h1
  have hargs : (#[.slice lA ll.length lc, .slice kA kl.length kc] : Array Value) = #[.slice lA ll.length lc, .slice kA kl.length kc] := by rfl
  have hwalk : Calls Tryd.prog 8 #[.slice lA ll.length lc, .slice kA kl.length kc] W fun e W' => e = .returned (.bool true) ∧ Below W.heap.size W W' := by
    rw [hargs]
    exact walk ll lA lc li ln lm kl kA kc ki kn km W lr kr hK
  refine hwalk.mono fun e W' ⟨he, hb⟩ => ⟨_, he, ?_⟩
  exact law_post rfl rfl (by kernel_rfl) hW' rfl hb

set_option maxRecDepth 100000 in
theorem lifted (os : Os) (started : os.Started) (H : Type) (enc : TypeId × Value → H) :
    ReturnsInHanded {} Tryd.checked os 8 .any (fun w args => (Rows.alphabetSafeSpec.pre enc Tryd.prog Tryd.f8 [] false w args ∧ laidMetH Tryd.prog laidA w) ∧ sizedMet enc Tryd.prog Tryd.f8 (OpenSpec.ofChange Rows.alphabetSafeSpec) false w args)
      (Rows.alphabetSafeSpec.post enc Tryd.prog Tryd.f8 false true false false) := by
  refine lift5 (C := Tryd.checked) Tryd.own (enc := enc) (os := os) started (by kernel_rfl) Tryd.func8 #[.slice none 0 0, .slice none 0 0] (World.shaped_of_ZipB (by kernel_rfl) (by kernel_rfl)) (by kernel_rfl) (by kernel_rfl) (by kernel_rfl) (metA os _) ?_
  intro W base args ds gs before hval hW hsz shape met
  exact contract H enc W base args ds gs before hval hW hsz (ml_shape shape)

theorem row : Rows.AlphabetSafeSaid :=
  OpenClaim.holds_of_wide 8 Tryd.f8 rfl rfl rfl rfl rfl rfl rfl ⟨rfl, rfl, rfl, rfl, rfl⟩ rfl rfl rfl rfl rfl (by kernel_rfl) Tryd.func8 (by kernel_rfl)
    (of_decide_eq_true (by kernel_rfl)) (by unfold Func.isWrapper; first | (rw [if_pos (by decide +kernel)]; kernel_rfl) | (rw [if_neg (by decide +kernel)]; exact ⟨rfl, rfl⟩))
    (fun os started H enc _ => lifted os started H enc)

theorem proved : Rows.AlphabetSafeCardSaid :=
  Claim7.holds_tied_plain_at .later [] [.data, .pinned] true (true, "7232729ef4ef8a14cd71f04c7a643cd3ec9606b55a84630ce42a8805fdbb5518") false
    row (fun _ h => by cases h) (by kernel_rfl) (fun _ h => by cases h) alphabetSafe_row_tie rfl ⟨rfl, rfl⟩ (by kernel_rfl) rfl
    (fun f fn hf hfn => by
      obtain rfl : f = 8 := Option.some.inj ((show Tryd.prog.funcNamed "wordbook/wordbooklaw05.AlphabetSafe" = some 8 by kernel_rfl).symm.trans hf) |>.symm
      obtain rfl : fn = Tryd.f8 := (Option.some.inj (Tryd.func8.symm.trans hfn)).symm
      exact ⟨by kernel_rfl, fun j t ht => by
        rw [Tryd.params8] at ht
        have hm : t ∈ [22, 22] := by simpa using Array.mem_of_getElem? ht
        have hall : ([22, 22].all fun u => !Tryd.prog.wantsStandIn u) = true := by kernel_rfl
        exact (show Tryd.prog.wantsStandIn t = false by simpa using List.all_eq_true.1 hall t hm)⟩)
    (by kernel_rfl)
end AL6
end Go.Proofs.YtolkmjgklgimpaaDoor
