/-
  CollateFinds: for all arguments the law returns true, and leaves what was there as it was.
-/
import Derived.Test.YtalladdmedmfeaaKLaw2
import Derived.Test.YtalladdmedmfeaaKSpoil
import Derived.BigQuiet
import Derived.BigRegion
namespace Go.Proofs.Ytalladdmedmfeaa
open Go.ChangeShapes Go.WideShapes Go.ChangeAt Go.RowKit Go.ChangeMaps
open Alp Col
set_option linter.unusedVariables false
set_option linter.unusedSimpArgs false
namespace KL4
set_option maxRecDepth 1000000 in
set_option maxHeartbeats 32000000 in
theorem walk (l : List Int) (Al : Option Addr) (cl : Nat) (li : ∀ x ∈ l, inI x) (ln : l.length ≤ cl) (lm : cl ≤ maxLen) (m : List Int) (Am : Option Addr) (cm : Nat) (mi : ∀ x ∈ m, inI x) (mn : m.length ≤ cm) (mm : cm ≤ maxLen) (words : List (List Int)) (Awords : Option Addr) (nwords cwords bwords owords : Nat) (wordsn : nwords = words.length) (wordsc : nwords ≤ cwords) (wordsm : cwords ≤ maxLen) (many : Int) (manyi : inI many) (pos : Int) (posi : inI pos) (how : Int) (howi : inI how) (level : Int) (leveli : inI level) (w : World) (lr : Rd w Al (iv l)) (mr : Rd w Am (iv m)) (wordsr : RwR w words Awords nwords bwords owords) : Calls Try.prog 6 #[.slice Al l.length cl, .slice Am m.length cm, .slice Awords nwords cwords, .int .i64 many, .int .i64 pos, .int .i64 how, .int .i64 level] w fun e w' => e = .returned (.bool true) ∧ Below w.heap.size w w' := by
  obtain ⟨L, hL⟩ : ∃ L, L = lettersP l := ⟨_, rfl⟩
  have hv : valP L = true := by rw [hL]; exact letters_val l
  obtain ⟨j0, hj0, hy0, hy1, hy2⟩ := info_parts Try.infoSl
  have HTX : Hid (∀ x ∈ L, x.text.length ≤ maxLen) := Lib.hid fun x hx => by have := (val_plain hv hx).2.1; unfold maxLen; omega
  have HLE : Hid (Calls Try.prog 12 #[.slice Al l.length cl] w (LtPost w L)) := Lib.hid (by rw [hL]; exact letters_any l Al _ cl rfl ln lm li w lr)
  obtain ⟨N, hN⟩ : ∃ N : Nat, arP many 16 = N := ⟨_, (Int.toNat_of_nonneg (arP_bd many (by omega)).1).symm⟩
  have HNB : Hid (N ≤ 30) := Lib.hid (by have := (arP_bd many (m := 16) (by omega)).2; omega)
  have HAR : Hid (∀ W, Calls Try.prog 27 #[.int .i64 many, .int .i64 16] W fun e w' => e = .returned (.int .i64 N) ∧ W = w') := Lib.hid fun W => by rw [← hN]; exact raround_any many 16 manyi.1 manyi.2 (by omega) (by omega) W
  have HWD : Hid (∀ AL q cq W, Below w.heap.size w W → AlR W L AL q cq → Calls Try.prog 15 #[.slice AL q cq, .slice Am m.length cm, .int .i64 ((N : Nat) : Int)] W (WnPost W fun ws => ws.length = N ∧ ∀ k, k < N → (ws.getD k []).length ≤ 3 * (k + 1))) := Lib.hid fun AL q cq W hb ha => by
    have h1 := ((valP_iff L).1 hv).1
    have h2 := ((valP_iff L).1 hv).2.1
    have h3 := words_any L AL q cq (by rw [ha.len]; exact h1) (by rw [ha.len]; exact h2) m Am m.length cm rfl mn mm mi (N) HNB.out W ha (mr.below hb)
    exact h3
  have HRW : Hid (∀ W, Below w.heap.size w W → Calls Try.prog 16 #[.slice Awords nwords cwords] W (RwPost W)) := Lib.hid fun W hb => raw_hi words Awords nwords cwords W wordsn wordsc wordsm bwords owords (wordsr.below hb)
  have HLI : Hid (∀ W, Calls Try.prog 20 #[] W (BoolB W true)) := Lib.hid fun W => lives_any W
  have HV := Lib.hid hv
  have HSP : Hid (∀ (AL : Option Addr) (q cq : Nat) (W : World), AlR W L AL q cq → Calls Try.prog 13 #[.slice AL q cq, .int .i64 pos, .int .i64 how, .int .i64 many] W (SpPost W)) := Lib.hid fun AL q cq W ha => spoilt_any L AL q cq pos how many posi howi manyi (by rw [ha.len]; exact ((valP_iff L).1 hv).1) (by rw [ha.len]; exact ((valP_iff L).1 hv).2.1) W ha
  clear hL hv hN li lr mi mr wordsr wordsn manyi posi howi leveli
  go_enter Try.func6, Try.ntmps6
  go_wp2_with (first
    | ((with_reducible refine HLE.out.mono ?_); rintro e w1 hp; obtain ⟨AL, q, cq, rfl, h1, h2, h3, h4, hb⟩ := lt_out hp; have HA : Hid (AlR w1 L AL q cq ∧ Below w.heap.size w w1) := Lib.hid ⟨⟨h1, h3, h4, HTX.out, h2⟩, hb⟩; have hqc : q ≤ cq := h3; have hqb : cq ≤ 9223372036854775807 := (by unfold maxLen at h4; omega); clear hp h1 h2 h3 h4 hb)
    | ((with_reducible refine (HAR.out _).mono ?_); rintro e wa ⟨rfl, rfl⟩)
    | ((with_reducible refine (HWD.out _ _ _ _ HA.out.2 HA.out.1).mono ?_); rintro e w2 hp; obtain ⟨v1, xs, us, rfl, hul, hw⟩ := wn_out hp; have HU : Hid (us.length = N ∧ WnI w1 v1 xs us w2) := Lib.hid ⟨hul, hw⟩; clear hp hul hw)
    | ((with_reducible refine (HRW.out _ (below_next HA.out.2 HU.out.2.bel)).mono ?_); rintro e w3 hp; obtain ⟨v2, ys, vs, rfl, hvl, hw, hi⟩ := rw_out hp; have HR : Hid (vs.length ≤ 8 ∧ WnI w2 v2 ys vs w3 ∧ Hi w2.heap.size ys) := Lib.hid ⟨hvl, hw, hi⟩; have hu1 : us.length + vs.length ≤ maxLen := (by rw [HU.out.1]; have := HNB.out; unfold maxLen; omega); have hu2 : (us.length + vs.length) * 24 ≤ 140737488355328 := (by rw [HU.out.1]; have := HNB.out; omega); clear hp hvl hw hi)
    | (at_builtin; refine wpList_own_src rfl (.tmp 35) (.tmp 37) 23 23 rfl w1.heap.size 22 j0 _ 1 24 Try.underlying23 hj0 hy0 hy1 hy2 rfl _ _ _ rfl (own_keep HU.out.2.1 HR.out.2.1.bel) _ vs.length ys rfl (src_wn Try.underlying23 hy1 HR.out.2.1.1 HR.out.2.1.2.1.ws) hu1 hu2 (Nat.le_trans HU.out.2.bel.size HR.out.2.1.bel.size) ?_; intro v4 w4 hown4 hg4 hat4; obtain ⟨A4, c4, n4, ws, hv4, hn4, hws, hb4⟩ := join_out HU.out.2 HR.out.2.1 HR.out.2.2 hown4 hg4 hat4 HU.out.1 HNB.out HR.out.1; subst hv4; have HW : Hid (WsR w4 ws A4 n4 c4 ∧ Below w.heap.size w w4 ∧ AlR w4 L AL q cq) := Lib.hid ⟨hws, below_next HA.out.2 hb4, HA.out.1.below hb4⟩; have hc4 : n4 ≤ c4 := hws.cap; have hm4 : c4 ≤ 9223372036854775807 := (by have := hws.max; unfold maxLen at this; omega); clear hown4 hg4 hat4 hws hb4 hu1 hu2)
    | ((with_reducible refine (HSP.out _ _ _ _ HW.out.2.2).mono ?_); rintro e w5 hp; obtain ⟨L2, A2, q2, c2, rfl, hal, hb⟩ := sp_out hp; have H5 : Hid (WsR w5 ws A4 n4 c4 ∧ Below w.heap.size w w5 ∧ AlR w5 L AL q cq ∧ AlR w5 L2 A2 q2 c2) := Lib.hid ⟨HW.out.1.below hb, below_next HW.out.2.1 hb, HW.out.2.2.below hb, hal⟩; clear hp hal hb))
  obtain ⟨w6, hw6⟩ : ∃ w6, w6 = w5.alloc (.cells #[.slice AL q cq, .slice A2 q2 c2] 24) := ⟨_, rfl⟩
  have h56 : Below w5.heap.size w5 w6 := by rw [hw6]; exact below_al (Below.refl _ _) _
  have hblk : Blk w6 w5.heap.size [.slice AL q cq, .slice A2 q2 c2] 24 := by rw [hw6]; exact Blk.at w5 _ _ _ _ rfl rfl
  have H6 : Hid (Below w.heap.size w w6 ∧ WsR w6 ws A4 n4 c4 ∧ n4 = ws.length) := Lib.hid ⟨below_next H5.out.2.1 h56, H5.out.1.below h56, H5.out.1.len⟩
  have HALL : Hid (∀ i, i < 2 → ∃ L' A' q' c', Hid (∀ W, Below w6.heap.size w6 W → W.cell? ⟨w5.heap.size, i, none⟩ = some (.slice A' q' c') ∧ AlR W L' A' q' c')) := Lib.hid fun i hi => by
    rcases (show i = 0 ∨ i = 1 by omega) with rfl | rfl
    · exact ⟨L, AL, q, cq, Lib.hid fun W hb => ⟨(hb.cell (p := ⟨w5.heap.size, 0, none⟩) hblk.lt).trans (hblk.cell rfl), (H5.out.2.2.1.below h56).below hb⟩⟩
    · exact ⟨L2, A2, q2, c2, Lib.hid fun W hb => ⟨(hb.cell (p := ⟨w5.heap.size, 1, none⟩) hblk.lt).trans (hblk.cell rfl), (H5.out.2.2.2.below h56).below hb⟩⟩
  rw [← hw6]
  obtain ⟨B5, hB5⟩ : ∃ B5, B5 = w5.heap.size := ⟨_, rfl⟩
  rw [← hB5] at HALL ⊢
  obtain ⟨b4, o4, hA4⟩ := ws_or H6.out.2.1
  have HA4 := Lib.hid hA4
  clear hw6 h56 hblk hA4 HA HU HR HW H5 hB5 HSP
  go_loopg [18, 19, 20, 21, 22, 23, 24, 25, 26, 27, 28] 2 (fun g s18 s19 s20 s21 s22 s23 s24 s25 s26 s27 s28 wr => ∃ (i : Nat), i + g = 2 ∧ s18 = .int .i64 (i : Int) ∧ Hid (Below w6.heap.size w6 wr))
  case atStart => exact ⟨0, by omega, rfl, Lib.hid (Below.refl _ _)⟩
  case round =>
    obtain ⟨i, hi, rfl, HI⟩ := hrel
    by_cases hlt : i < 2
    · obtain ⟨g, rfl⟩ : ∃ g, gk = g + 1 := ⟨gk - 1, by omega⟩
      obtain ⟨Li, Ai, qi, ci, HAI⟩ := HALL.out i hlt
      have d3 : decide ((i : Int) < 2) = true := decide_eq_true (by omega)
      have d4 : decide (i < 2) = true := decide_eq_true hlt
      go_wp2_with fail
      go_loopg [19, 20, 21, 22, 23, 24, 25, 26, 27, 28] n4 (fun g s19 s20 s21 s22 s23 s24 s25 s26 s27 s28 wr => ∃ (k : Nat), k + g = n4 ∧ k ≤ 6 ∧ s19 = .int .i64 (k : Int) ∧ Hid (Below w6.heap.size w6 wr))
      case atStart => exact ⟨0, by omega, by omega, rfl, Lib.hid HI.out⟩
      case round =>
        obtain ⟨k, hk, hk6, rfl, HK⟩ := hrel
        by_cases hltk : k < n4
        · by_cases h6 : k < 6
          · obtain ⟨g, rfl⟩ : ∃ g, gk = g + 1 := ⟨gk - 1, by omega⟩
            obtain ⟨rfl, hwa⟩ : A4 = some ⟨b4, o4, none⟩ ∧ WsAt w6 b4 o4 ws := by
              rcases HA4.out with h | h
              · omega
              · exact h
            obtain ⟨Ak, nk, ck, hc0, hw0⟩ := hwa k (by rw [← H6.out.2.2]; exact hltk)
            have HWK : Hid (∀ W, Below w6.heap.size w6 W → W.cell? ⟨b4, o4 + k, none⟩ = some (.slice Ak nk ck) ∧ WdR W (ws.getD k []) Ak nk ck) := Lib.hid fun W hb => ⟨(hb.cell (p := ⟨b4, o4 + k, none⟩) (World.block_lt_of_cell? w6 _ hc0)).trans hc0, hw0.below hb⟩
            have d1 : decide ((k : Int) < 6) = true := decide_eq_true (by omega)
            have d2 : decide (k < 6) = true := decide_eq_true h6
            clear hwa hc0 hw0
            go_wp2_with fail
            go_loopg [20, 21, 22, 23, 24] 7 (fun g s20 s21 s22 s23 s24 wr => ∃ (n : Int), n + g = 6 ∧ -1 ≤ n ∧ s20 = .int .i64 n ∧ Hid (Below w6.heap.size w6 wr))
            case atStart => exact ⟨-1, by omega, by omega, rfl, Lib.hid HK.out⟩
            case round =>
              obtain ⟨n, hn, hn1, rfl, HJ⟩ := hrel
              by_cases hn5 : n ≤ 5
              · obtain ⟨g, rfl⟩ : ∃ g, gk = g + 1 := ⟨gk - 1, by omega⟩
                have e1 : decide (n ≤ 5) = true := decide_eq_true hn5
                obtain ⟨F, T, hFT⟩ : ∃ F T, (F, T) = findP Li ws (ws.getD k []) n := ⟨_, _, rfl⟩
                have HF1 : Hid (∀ W, Below w6.heap.size w6 W → Calls Try.prog 30 #[.slice Ai qi ci, .slice (some ⟨b4, o4, none⟩) n4 c4, .slice Ak nk ck, .int .i64 n] W fun e w' => e = .returned (.tuple #[.int .i64 (F : Int), .int .i64 (T : Int)]) ∧ Below w6.heap.size w6 w') := Lib.hid fun W hb => (find_any Li Ai (some ⟨b4, o4, none⟩) Ak qi ci n4 c4 nk ck n ws (ws.getD k []) (F, T) hFT W (HAI.out W hb).2 (H6.out.2.1.below hb) (HWK.out W hb).2).mono fun e w' hp => ⟨hp.1, below_next hb hp.2⟩
                have HF2 : Hid (∀ W, Below w6.heap.size w6 W → Calls Try.prog 31 #[.slice Ai qi ci, .slice (some ⟨b4, o4, none⟩) n4 c4, .slice Ak nk ck, .int .i64 n] W fun e w' => e = .returned (.tuple #[.int .i64 (F : Int), .int .i64 (T : Int)]) ∧ Below w6.heap.size w6 w') := Lib.hid fun W hb => (rfind_any Li Ai (some ⟨b4, o4, none⟩) Ak qi ci n4 c4 nk ck n ws (ws.getD k []) (F, T) hFT W (HAI.out W hb).2 (H6.out.2.1.below hb) (HWK.out W hb).2).mono fun e w' hp => ⟨hp.1, below_next hb hp.2⟩
                have l1 : ∀ p : Wo (Below w6.heap.size w6), p.wo.cell? ⟨B5, i, none⟩ = some (.slice Ai qi ci) := fun p => (HAI.out _ p.ok).1
                have l2 : ∀ p : Wo (Below w6.heap.size w6), p.wo.cell? ⟨b4, o4 + k, none⟩ = some (.slice Ak nk ck) := fun p => (HWK.out _ p.ok).1
                clear hFT
                go_wp2_with fail
                haveI : Nonempty (Wo (Below w6.heap.size w6)) := ⟨⟨wr, HJ.out⟩⟩
                refine wp_region_wo (Below w6.heap.size w6) mixedTry (by kernel_rfl) (below_drewN HJ.out 1) ?_
                repeat (go_big_quiet_step ((go_at_call 30; exact calls_wo HF1.out _)))
                refine wpQuiet_nil ?_
                intro x1 hw2
                obtain ⟨⟨x1x, hok⟩, hw3⟩ := hw2
                have hw4 : x1 = x1x := hw3
                subst hw4
                have Hx1 := Lib.hid hok
                clear hw3 hok
                go_wp2_with fail
                haveI : Nonempty (Wo (Below w6.heap.size w6)) := ⟨⟨x1, Hx1.out⟩⟩
                refine wp_region_wo (Below w6.heap.size w6) mixedTry (by kernel_rfl) (below_drewN Hx1.out 1) ?_
                repeat (go_big_quiet_step ((go_at_call 31; exact calls_wo HF2.out _)))
                refine wpQuiet_nil ?_
                intro x2 hw2
                obtain ⟨⟨x2x, hok⟩, hw3⟩ := hw2
                have hw4 : x2 = x2x := hw3
                subst hw4
                have Hx2 := Lib.hid hok
                clear hw3 hok
                go_wp2_with fail
                go_roundg g
                case rel => exact ⟨n + 1, by omega, by omega, rfl, Lib.hid Hx2.out⟩
                case measure => omega
              · have e1 : decide (n ≤ 5) = false := decide_eq_false hn5
                obtain ⟨F, T, hFT⟩ : ∃ F T, (F, T) = findP Li ws (ws.getD k []) level := ⟨_, _, rfl⟩
                have HF1 : Hid (∀ W, Below w6.heap.size w6 W → Calls Try.prog 30 #[.slice Ai qi ci, .slice (some ⟨b4, o4, none⟩) n4 c4, .slice Ak nk ck, .int .i64 level] W fun e w' => e = .returned (.tuple #[.int .i64 (F : Int), .int .i64 (T : Int)]) ∧ Below w6.heap.size w6 w') := Lib.hid fun W hb => (find_any Li Ai (some ⟨b4, o4, none⟩) Ak qi ci n4 c4 nk ck level ws (ws.getD k []) (F, T) hFT W (HAI.out W hb).2 (H6.out.2.1.below hb) (HWK.out W hb).2).mono fun e w' hp => ⟨hp.1, below_next hb hp.2⟩
                have HF2 : Hid (∀ W, Below w6.heap.size w6 W → Calls Try.prog 31 #[.slice Ai qi ci, .slice (some ⟨b4, o4, none⟩) n4 c4, .slice Ak nk ck, .int .i64 level] W fun e w' => e = .returned (.tuple #[.int .i64 (F : Int), .int .i64 (T : Int)]) ∧ Below w6.heap.size w6 w') := Lib.hid fun W hb => (rfind_any Li Ai (some ⟨b4, o4, none⟩) Ak qi ci n4 c4 nk ck level ws (ws.getD k []) (F, T) hFT W (HAI.out W hb).2 (H6.out.2.1.below hb) (HWK.out W hb).2).mono fun e w' hp => ⟨hp.1, below_next hb hp.2⟩
                have l1 : ∀ p : Wo (Below w6.heap.size w6), p.wo.cell? ⟨B5, i, none⟩ = some (.slice Ai qi ci) := fun p => (HAI.out _ p.ok).1
                have l2 : ∀ p : Wo (Below w6.heap.size w6), p.wo.cell? ⟨b4, o4 + k, none⟩ = some (.slice Ak nk ck) := fun p => (HWK.out _ p.ok).1
                clear hFT
                go_wp2_with fail
                haveI : Nonempty (Wo (Below w6.heap.size w6)) := ⟨⟨wr, HJ.out⟩⟩
                refine wp_region_wo (Below w6.heap.size w6) mixedTry (by kernel_rfl) (below_drewN HJ.out 1) ?_
                repeat (go_big_quiet_step ((go_at_call 30; exact calls_wo HF1.out _)))
                refine wpQuiet_nil ?_
                intro x1 hw2
                obtain ⟨⟨x1x, hok⟩, hw3⟩ := hw2
                have hw4 : x1 = x1x := hw3
                subst hw4
                have Hx1 := Lib.hid hok
                clear hw3 hok
                go_wp2_with fail
                haveI : Nonempty (Wo (Below w6.heap.size w6)) := ⟨⟨x1, Hx1.out⟩⟩
                refine wp_region_wo (Below w6.heap.size w6) mixedTry (by kernel_rfl) (below_drewN Hx1.out 1) ?_
                repeat (go_big_quiet_step ((go_at_call 31; exact calls_wo HF2.out _)))
                refine wpQuiet_nil ?_
                intro x2 hw2
                obtain ⟨⟨x2x, hok⟩, hw3⟩ := hw2
                have hw4 : x2 = x2x := hw3
                subst hw4
                have Hx2 := Lib.hid hok
                clear hw3 hok
                go_wp2_with fail
                go_roundg g
                case rel => exact ⟨k + 1, by omega, by omega, by go_num, Lib.hid Hx2.out⟩
                case measure => omega
          · have d1 : decide ((k : Int) < 6) = false := decide_eq_false (by omega)
            have d2 : decide (k < 6) = false := decide_eq_false h6
            go_wp2_with fail
            go_roundg g
            case rel => exact ⟨i + 1, by omega, by go_num, Lib.hid HK.out⟩
            case measure => omega
        · obtain rfl : k = n4 := by omega
          go_wp2_with fail
          go_roundg g
          case rel => exact ⟨i + 1, by omega, by go_num, Lib.hid HK.out⟩
          case measure => omega
    · obtain rfl : i = 2 := by omega
      go_wp2_with ((with_reducible refine (HLI.out _).mono ?_); rintro e w7 hp; obtain ⟨rfl, hb⟩ := boolb_out hp; have H7 : Hid (Below w.heap.size w w7) := Lib.hid (below_next H6.out.1 (below_next HI.out hb)); clear hp hb)
      go_ret
      exact ⟨rfl, H7.out⟩

set_option maxRecDepth 100000 in
theorem contract (H : Type) (enc : TypeId × Value → H) (W : World) (base : Nat) (args : Array Value) (ds gs : List (DataW H)) (before : List MemPlace)
    (hval : ∀ (j : Nat) t v, Try.f6.params[j]? = some t → args[j]? = some v → Value.okWide Try.prog W .any base t v)
    (hW : DataW.Whole enc Try.prog Try.f6.params.toList Rows.collateFindsSpec.vars false W args.toList ds gs before) :
    Calls Try.prog 6 args W fun e W' => ∃ v, e = .returned v ∧ Rows.collateFindsSpec.post enc Try.prog Try.f6 false true false false W args v W' := by
  have hW' := hW
  obtain ⟨p, q, hA0, hV, rfl, hfz, hnd⟩ := hW
  have hA : DataW.TrodAll enc Try.prog W 0 (fun _ => true) true Try.f6.params.toList args.toList ds p := hA0
  rw [Try.params6] at hA hval
  obtain ⟨rfl, rfl⟩ := trodVars_none hV
  obtain ⟨v0, w0, d0, e0, p0, q0, hargs, rfl, rfl, h0, r0⟩ := trodAll_cons hA
  obtain ⟨v1, w1, d1, e1, p1, q1, rfl, rfl, rfl, h1, r1⟩ := trodAll_cons r0
  obtain ⟨v2, w2, d2, e2, p2, q2, rfl, rfl, rfl, h2, r2⟩ := trodAll_cons r1
  obtain ⟨v3, w3, d3, e3, p3, q3, rfl, rfl, rfl, h3, r3⟩ := trodAll_cons r2
  obtain ⟨v4, w4, d4, e4, p4, q4, rfl, rfl, rfl, h4, r4⟩ := trodAll_cons r3
  obtain ⟨v5, w5, d5, e5, p5, q5, rfl, rfl, rfl, h5, r5⟩ := trodAll_cons r4
  obtain ⟨v6, w6, d6, e6, p6, q6, rfl, rfl, rfl, h6, r6⟩ := trodAll_cons r5
  obtain ⟨rfl, rfl, rfl⟩ := trodAll_nil r6
  obtain rfl : args = #[v0, v1, v2, v3, v4, v5, v6] := by cases args; simp_all
  clear hargs
  obtain ⟨Al, l, cl, rfl, lr, li, ln, lm⟩ := open_ivs (hval 0 22 v0 rfl rfl) h0
  obtain ⟨Am, m, cm, rfl, mr, mi, mn, mm⟩ := open_ivs (hval 1 22 v1 rfl rfl) h1
  obtain ⟨Awords, words, nwords, cwords, bwords, owords, rfl, wordsn, wordsc, wordsm, wordsr⟩ := open_iws (hval 2 23 v2 rfl rfl) h2
  obtain ⟨many, rfl, rfl, rfl, manyw⟩ := open_int Try.underlying3 (hval 3 3 v3 rfl rfl) h3
  obtain ⟨pos, rfl, rfl, rfl, posw⟩ := open_int Try.underlying3 (hval 4 3 v4 rfl rfl) h4
  obtain ⟨how, rfl, rfl, rfl, howw⟩ := open_int Try.underlying3 (hval 5 3 v5 rfl rfl) h5
  obtain ⟨level, rfl, rfl, rfl, levelw⟩ := open_int Try.underlying3 (hval 6 3 v6 rfl rfl) h6
  refine (walk l Al cl li ln lm m Am cm mi mn mm words Awords nwords cwords bwords owords wordsn wordsc wordsm many (inI_wf manyw) pos (inI_wf posw) how (inI_wf howw) level (inI_wf levelw) W lr mr wordsr).mono fun e W' ⟨he, hb⟩ => ⟨_, he, ?_⟩
  exact law_post rfl rfl (by kernel_rfl) hW' rfl hb

set_option maxRecDepth 100000 in
theorem lifted (os : Os) (started : os.Started) (H : Type) (enc : TypeId × Value → H) :
    ReturnsInHanded {} Try.checked os 6 .any (Rows.collateFindsSpec.pre6 enc Try.prog Try.f6 Rows.collateFindsRow.domain false) (Rows.collateFindsSpec.post enc Try.prog Try.f6 false true false false) := by
  refine returnsInHanded_of_change_sized (C := Try.checked) Try.own started (by kernel_rfl) Try.func6
    (ChangeSpec.witness6 (enc := enc) (C := Try.checked) false ⟨#[], #[.slice none 0 0, .slice none 0 0, .slice none 0 0, .int .i64 0, .int .i64 0, .int .i64 0, .int .i64 0], []⟩ 8 (by kernel_rfl) (by kernel_rfl) (by kernel_rfl) (by kernel_rfl)) ?_
  intro W base args ds gs before hval hW _ hsz _
  exact contract H enc W base args ds gs before hval hW

theorem proved : Rows.CollateFindsSaid :=
  OpenClaim.holds_of_wide 6 Try.f6 rfl rfl rfl rfl rfl rfl rfl ⟨rfl, rfl, rfl, rfl, rfl⟩ rfl rfl rfl rfl rfl (by kernel_rfl) Try.func6 (by kernel_rfl)
    (of_decide_eq_true (by kernel_rfl)) (by unfold Func.isWrapper; first | (rw [if_pos (by decide +kernel)]; kernel_rfl) | (rw [if_neg (by decide +kernel)]; exact ⟨rfl, rfl⟩))
    (fun os started H enc _ => lifted os started H enc)

end KL4
end Go.Proofs.Ytalladdmedmfeaa
