/-
  AlphabetReads: for every two lists of numbers and every string the law returns true, and leaves what was there as it was; the listed tables are as the library's text lays them (the card ties them).
-/
import Derived.Test.YtolkmjgklgimpaaDoorALaw
import Derived.Test.YtolkmjgklgimpaaDoorAWT
import Derived.Test.YtolkmjgklgimpaaDoorARRead
namespace Go.Proofs.YtolkmjgklgimpaaDoor
open Go.ChangeShapes Go.WideShapes Go.ChangeAt Go.RowKit Go.ChangeMaps
open Alp
set_option linter.unusedVariables false
set_option linter.unusedSimpArgs false
namespace AL1

set_option maxRecDepth 100000 in
set_option maxHeartbeats 4000000 in
theorem walk (l : List Int) (A : Option Addr) (c : Nat) (li : ∀ x ∈ l, inI x) (ln : l.length ≤ c) (lm : c ≤ maxLen) (k : List Int) (Ak : Option Addr) (ck : Nat) (ki : ∀ x ∈ k, inI x) (kn : k.length ≤ ck) (km : ck ≤ maxLen) (raw : B) (rz : raw.length ≤ 140737488351232)
    (w : World) (lr : Rd w A (iv l)) (kr : Rd w Ak (iv k)) (hK : ML w) : Calls Tryd.prog 3 #[.slice A l.length c, .slice Ak k.length ck, .string (tb raw)] w fun e w' => e = .returned (.bool true) ∧ Below w.heap.size w w' := by
  obtain ⟨L, hL⟩ : ∃ L, L = lettersP l := ⟨_, rfl⟩
  have hv : valP L = true := by rw [hL]; exact letters_val l
  obtain ⟨t, ht⟩ : ∃ t, t = textP L k := ⟨_, rfl⟩
  have htl : t.length ≤ 160 := by rw [ht]; exact textP_len hv k
  have HLE : Hid (Calls Tryd.prog 9 #[.slice A l.length c] w (LtPost w L)) := Lib.hid (by rw [hL]; exact letters_any l A _ c rfl ln lm li w lr)
  have HTE : Hid (∀ AL q cq W, Below w.heap.size w W → q = L.length → q ≤ cq → cq ≤ maxLen → Rd W AL (lv L) → Calls Tryd.prog 10 #[.slice AL q cq, .slice Ak k.length ck] W (TxPost W t)) := Lib.hid fun AL q cq W hb h1 h2 h3 h4 => by rw [ht]; exact text_any L hv AL q cq h1 h2 h3 k Ak _ ck rfl kn km ki W h4 (kr.below hb)
  have HSH : Hid (∀ s : B, s.length ≤ maxLen → ∀ W, Calls Tryd.prog 11 #[.string (tb s), .int .i64 300] W fun e w' => e = .returned (.string (tb (s.take 300))) ∧ W = w') := Lib.hid fun s hs W => rshort_any s hs 300 (by omega) W
  have HRE : Hid (∀ (s : B) AL q cq W, s.length ≤ 300 → q = L.length → q ≤ cq → cq ≤ maxLen → Rd W AL (lv L) → Calls Tryd.prog 12 #[.slice AL q cq, .string (tb s)] W (RPost W (readP L s))) := Lib.hid fun s AL q cq W hs h1 h2 h3 h4 => read_any L s (by omega) AL q cq h1 h2 h3 (fun l hl => by have := (val_plain hv hl).2.1; unfold maxLen; omega) _ rfl W h4
  have HRR : Hid (∀ (s : B) AL q cq W, s.length ≤ 300 → q = L.length → q ≤ cq → cq ≤ maxLen → Rd W AL (lv L) → Calls Tryd.prog 13 #[.slice AL q cq, .string (tb s)] W (RPost W (readP L s))) := Lib.hid fun s AL q cq W hs h1 h2 h3 h4 => rread_any L s (by omega) AL q cq h1 h2 h3 (fun l hl => by have := (val_plain hv hl).2.1; unfold maxLen; omega) _ rfl W h4
  have HSI : Hid (∀ (R : List Int) (A1 A2 : Option Addr) (n1 n2 c1 c2 : Nat) (V : Bool) W, n1 = R.length → n2 = R.length → n1 ≤ maxLen → Rd W A1 (iv R) → Rd W A2 (iv R) → V = true → Calls Tryd.prog 14 #[.slice A1 n1 c1, .slice A2 n2 c2] W (BoolB W V)) := Lib.hid fun R A1 A2 n1 n2 c1 c2 V W h1 h2 h3 h4 h5 hV => same_any R R A1 A2 n1 n2 c1 c2 h1 h2 h3 V (by rw [hV, decide_eq_true rfl]) W h4 h5
  have HLI : Hid (∀ W, Below w.heap.size w W → Calls Tryd.prog 15 #[] W fun e w' => e = .returned (.bool true) ∧ Below W.heap.size W w') := Lib.hid fun W hb => lives_any W (hK.below hb)
  obtain ⟨u, hu⟩ : ∃ u, t ++ raw = u := ⟨_, rfl⟩
  have hul : u.length ≤ 140737488351400 := by rw [← hu, List.length_append]; omega
  have hcat := fun W => cat_tb (P := Tryd.prog) (a := t) (b := raw) hu (by omega) W
  have HU : Hid (∀ s ∈ [t, raw, u, ([] : B)], s.length ≤ maxLen) := Lib.hid (by
    unfold maxLen
    intro s hs
    simp only [List.mem_cons, List.not_mem_nil, or_false] at hs
    rcases hs with rfl | rfl | rfl | rfl
    · omega
    · omega
    · omega
    · simp)
  clear hL hv ht li ki lr kr hK hu htl hul
  go_enter Tryd.func3, Tryd.ntmps3
  go_wp2_with (first
    | ((with_reducible refine HLE.out.mono ?_); rintro e w1 hp; obtain ⟨AL, q, cq, rfl, h1, h2, h3, h4, hb⟩ := lt_out hp; have HX1 : Hid (Below w.heap.size w w1 ∧ q = L.length ∧ q ≤ cq ∧ cq ≤ maxLen ∧ Rd w1 AL (lv L)) := Lib.hid ⟨hb, h1, h3, h4, h2⟩; clear hp h1 h2 h3 h4 hb)
    | (go_at_call 10; (with_reducible refine (HTE.out _ _ _ _ HX1.out.1 HX1.out.2.1 HX1.out.2.2.1 HX1.out.2.2.2.1 HX1.out.2.2.2.2).mono ?_); rintro e w2 hp; obtain ⟨rfl, hb⟩ := tx_out hp; have HX2 : Hid (Below w.heap.size w w2 ∧ Rd w2 AL (lv L)) := Lib.hid ⟨below_next HX1.out.1 hb, HX1.out.2.2.2.2.below hb⟩; clear hp hb)
    | (go_at_call 10; (with_reducible refine (HTE.out _ _ _ _ HX2.out.1 HX1.out.2.1 HX1.out.2.2.1 HX1.out.2.2.2.1 HX2.out.2).mono ?_); rintro e w3 hp; obtain ⟨rfl, hb⟩ := tx_out hp; have HX3 : Hid (Below w.heap.size w w3 ∧ Rd w3 AL (lv L)) := Lib.hid ⟨below_next HX2.out.1 hb, HX2.out.2.below hb⟩; clear hp hb))
  have H0 : Hid (Below w.heap.size w (w3.alloc (.cells #[.string (tb t), .string (tb raw), .string (tb u), .string ⟨#[]⟩] 9)) ∧ Blk (w3.alloc (.cells #[.string (tb t), .string (tb raw), .string (tb u), .string ⟨#[]⟩] 9)) w3.heap.size (tv [t, raw, u, []]) 9 ∧ Rd (w3.alloc (.cells #[.string (tb t), .string (tb raw), .string (tb u), .string ⟨#[]⟩] 9)) AL (lv L)) := Lib.hid ⟨below_al HX3.out.1 _, Blk.at w3 (tv [t, raw, u, []]) _ _ _ rfl rfl, HX3.out.2.alloc _⟩
  go_loopg [9, 10, 11, 12, 13, 14] 4 (fun g s9 s10 s11 s12 s13 s14 wr => ∃ (i : Nat), i + g = 4 ∧ s9 = .int .i64 (i : Int) ∧ Hid (Below w.heap.size w wr ∧ Blk wr w3.heap.size (tv [t, raw, u, []]) 9 ∧ Rd wr AL (lv L)))
  case atStart => exact ⟨0, by omega, rfl, H0⟩
  case round =>
    obtain ⟨i, hi, rfl, HI⟩ := hrel
    by_cases hlt : i < 4
    · obtain ⟨g, rfl⟩ : ∃ g, gk = g + 1 := ⟨gk - 1, by omega⟩
      obtain ⟨s, hs⟩ : ∃ s, s = [t, raw, u, ([] : B)].getD i [] := ⟨_, rfl⟩
      have hcs : wr.cell? ⟨w3.heap.size, i, none⟩ = some (.string (tb s)) := HI.out.2.1.cell (by rw [hs]; exact tv_get _ i hlt)
      have hsl : s.length ≤ maxLen := HU.out s (by rw [hs]; have h4 : i < [t, raw, u, ([] : B)].length := hlt; simp only [List.getD, List.getElem?_eq_getElem h4, Option.getD_some]; exact List.getElem_mem h4)
      have HS := Lib.hid (HSH.out s hsl)
      obtain ⟨v, hv⟩ : ∃ v, v = s.take 300 := ⟨_, rfl⟩
      rw [← hv] at HS
      have HV : Hid (v.length ≤ 300) := Lib.hid (by rw [hv, List.length_take]; omega)
      obtain ⟨⟨R, y⟩, hR⟩ : ∃ R, R = readP L v := ⟨_, rfl⟩
      have HR1 : Hid (∀ W, Rd W AL (lv L) → Calls Tryd.prog 12 #[.slice AL q cq, .string (tb v)] W (RPost W (R, y))) := Lib.hid fun W h => by rw [hR]; exact HRE.out v AL q cq W HV.out HX1.out.2.1 HX1.out.2.2.1 HX1.out.2.2.2.1 h
      have HR2 : Hid (∀ W, Rd W AL (lv L) → Calls Tryd.prog 13 #[.slice AL q cq, .string (tb v)] W (RPost W (R, y))) := Lib.hid fun W h => by rw [hR]; exact HRR.out v AL q cq W HV.out HX1.out.2.1 HX1.out.2.2.1 HX1.out.2.2.2.1 h
      have hyy : (y != y) = false := by simp
      clear hs hv hR hsl
      go_wp2_with (first
        | ((with_reducible refine (HS.out _).mono ?_); rintro e w0 ⟨rfl, rfl⟩)
        | ((with_reducible refine (HR1.out _ HI.out.2.2).mono ?_); rintro e w4 hp; obtain ⟨A1, c1, n1, rfl, h1, h2, h3, h4, hb⟩ := r_out2 hp; have HX4 : Hid (Below w.heap.size w w4 ∧ Blk w4 w3.heap.size (tv [t, raw, u, []]) 9 ∧ Rd w4 AL (lv L) ∧ Rd w4 A1 (iv R) ∧ n1 = R.length ∧ n1 ≤ maxLen) := Lib.hid ⟨below_next HI.out.1 hb, HI.out.2.1.below hb HI.out.2.1.lt, HI.out.2.2.below hb, h2, h1, Nat.le_trans h3 h4⟩; clear hp h1 h2 h3 h4 hb)
        | ((with_reducible refine (HR2.out _ HX4.out.2.2.1).mono ?_); rintro e w5 hp; obtain ⟨A2, c2, n2, rfl, h1, h2, h3, h4, hb⟩ := r_out2 hp; have HX5 : Hid (Below w.heap.size w w5 ∧ Blk w5 w3.heap.size (tv [t, raw, u, []]) 9 ∧ Rd w5 AL (lv L) ∧ Rd w5 A1 (iv R) ∧ Rd w5 A2 (iv R) ∧ n2 = R.length) := Lib.hid ⟨below_next HX4.out.1 hb, HX4.out.2.1.below hb HX4.out.2.1.lt, HX4.out.2.2.1.below hb, HX4.out.2.2.2.1.below hb, h2, h1⟩; clear hp h1 h2 h3 h4 hb)
        | ((with_reducible refine (HSI.out R _ _ _ _ _ _ true _ HX4.out.2.2.2.2.1 HX5.out.2.2.2.2.2 HX4.out.2.2.2.2.2 HX5.out.2.2.2.1 HX5.out.2.2.2.2.1 rfl).mono ?_); rintro e w6 hp; obtain ⟨rfl, hb⟩ := boolb_out hp; have HX6 : Hid (Below w.heap.size w w6 ∧ Blk w6 w3.heap.size (tv [t, raw, u, []]) 9 ∧ Rd w6 AL (lv L)) := Lib.hid ⟨below_next HX5.out.1 hb, HX5.out.2.1.below hb HX5.out.2.1.lt, HX5.out.2.2.1.below hb⟩; clear hp hb))
      go_roundg g
      case rel => exact ⟨i + 1, by omega, by go_num, HX6⟩
      case measure => omega
    · obtain rfl : i = 4 := by omega
      go_wp2_with ((with_reducible refine (HLI.out _ HI.out.1).mono ?_); rintro e w7 ⟨rfl, hb⟩; have HX7 := Lib.hid (below_next HI.out.1 hb); clear hb)
      go_ret
      exact ⟨rfl, HX7.out⟩

set_option maxRecDepth 100000 in
theorem contract (H : Type) (enc : TypeId × Value → H) (W : World) (base : Nat) (args : Array Value) (ds gs : List (DataW H)) (before : List MemPlace)
    (hval : ∀ (j : Nat) t v, Tryd.f3.params[j]? = some t → args[j]? = some v → Value.okWide Tryd.prog W .any base t v)
    (hW : DataW.Whole enc Tryd.prog Tryd.f3.params.toList Rows.alphabetReadsSpec.vars false W args.toList ds gs before)
    (hsz : (DataW.weightsEach Tryd.prog (Tryd.f3.params.toList ++ Rows.alphabetReadsSpec.plain.varTypes Tryd.prog) (ds ++ gs)).all (· ≤ reachBytes) = true) (hK : ML W) :
    Calls Tryd.prog 3 args W fun e W' => ∃ v, e = .returned v ∧ Rows.alphabetReadsSpec.post enc Tryd.prog Tryd.f3 false true false false W args v W' := by
  have hW' := hW
  obtain ⟨p, q, hA0, hV, rfl, hfz, hnd⟩ := hW
  have hA : DataW.TrodAll enc Tryd.prog W 0 (fun _ => true) true Tryd.f3.params.toList args.toList ds p := hA0
  rw [Tryd.params3] at hA hval hsz
  obtain ⟨v0, v1, v2, d0, d1, d2, p0, p1, p2, rfl, rfl, rfl, h0, h1, h2⟩ := trodAll_three hA
  obtain ⟨rfl, rfl⟩ := trodVars_none hV
  obtain ⟨lA, ll, lc, rfl, lr, li, ln, lm⟩ := open_ivs (hval 0 22 v0 rfl rfl) h0
  obtain ⟨kA, kl, kc, rfl, kr, ki, kn, km⟩ := open_ivs (hval 1 22 v1 rfl rfl) h1
  obtain ⟨s0, rfl, rfl, rfl, sw⟩ := open_string Tryd.underlying9 (hval 2 9 v2 rfl rfl) h2
  have sq := str_reach hsz (j := 2) (t := 9) (s := s0) rfl rfl
  obtain ⟨s, se⟩ : ∃ l, l = s0.data.toList := ⟨_, rfl⟩
  have sb : s0 = tb s := by rw [se]; rfl
  have sz : s.length ≤ 140737488351232 := by rw [se]; exact sq
  have hargs : (#[.slice lA ll.length lc, .slice kA kl.length kc, .string s0] : Array Value) = #[.slice lA ll.length lc, .slice kA kl.length kc, .string (tb s)] := by rw [sb]
  have hwalk : Calls Tryd.prog 3 #[.slice lA ll.length lc, .slice kA kl.length kc, .string s0] W fun e W' => e = .returned (.bool true) ∧ Below W.heap.size W W' := by
    rw [hargs]
    exact walk ll lA lc li ln lm kl kA kc ki kn km s sz W lr kr hK
  refine hwalk.mono fun e W' ⟨he, hb⟩ => ⟨_, he, ?_⟩
  exact law_post rfl rfl (by kernel_rfl) hW' rfl hb

set_option maxRecDepth 100000 in
theorem lifted (os : Os) (started : os.Started) (H : Type) (enc : TypeId × Value → H) :
    ReturnsInHanded {} Tryd.checked os 3 .any (fun w args => (Rows.alphabetReadsSpec.pre enc Tryd.prog Tryd.f3 [] false w args ∧ laidMetH Tryd.prog laidA w) ∧ sizedMet enc Tryd.prog Tryd.f3 (OpenSpec.ofChange Rows.alphabetReadsSpec) false w args)
      (Rows.alphabetReadsSpec.post enc Tryd.prog Tryd.f3 false true false false) := by
  refine lift5 (C := Tryd.checked) Tryd.own (enc := enc) (os := os) started (by kernel_rfl) Tryd.func3 #[.slice none 0 0, .slice none 0 0, .string ByteArray.empty] (World.shaped_of_ZipB (by kernel_rfl) (by kernel_rfl)) (by kernel_rfl) (by kernel_rfl) (by kernel_rfl) (metA os _) ?_
  intro W base args ds gs before hval hW hsz shape met
  exact contract H enc W base args ds gs before hval hW hsz (ml_shape shape)

theorem row : Rows.AlphabetReadsSaid :=
  OpenClaim.holds_of_wide 3 Tryd.f3 rfl rfl rfl rfl rfl rfl rfl ⟨rfl, rfl, rfl, rfl, rfl⟩ rfl rfl rfl rfl rfl (by kernel_rfl) Tryd.func3 (by kernel_rfl)
    (of_decide_eq_true (by kernel_rfl)) (by unfold Func.isWrapper; first | (rw [if_pos (by decide +kernel)]; kernel_rfl) | (rw [if_neg (by decide +kernel)]; exact ⟨rfl, rfl⟩))
    (fun os started H enc _ => lifted os started H enc)

theorem proved : Rows.AlphabetReadsCardSaid :=
  Claim7.holds_tied_plain_at .later [] [.data, .pinned] true (true, "7232729ef4ef8a14cd71f04c7a643cd3ec9606b55a84630ce42a8805fdbb5518") false
    row (fun _ h => by cases h) (by kernel_rfl) (fun _ h => by cases h) alphabetReads_row_tie rfl ⟨rfl, rfl⟩ (by kernel_rfl) rfl
    (fun f fn hf hfn => by
      obtain rfl : f = 3 := Option.some.inj ((show Tryd.prog.funcNamed "wordbook/wordbooklaw05.AlphabetReads" = some 3 by kernel_rfl).symm.trans hf) |>.symm
      obtain rfl : fn = Tryd.f3 := (Option.some.inj (Tryd.func3.symm.trans hfn)).symm
      exact ⟨by kernel_rfl, fun j t ht => by
        rw [Tryd.params3] at ht
        have hm : t ∈ [22, 22, 9] := by simpa using Array.mem_of_getElem? ht
        have hall : ([22, 22, 9].all fun u => !Tryd.prog.wantsStandIn u) = true := by kernel_rfl
        exact (show Tryd.prog.wantsStandIn t = false by simpa using List.all_eq_true.1 hall t hm)⟩)
    (by kernel_rfl)
end AL1
end Go.Proofs.YtolkmjgklgimpaaDoor
