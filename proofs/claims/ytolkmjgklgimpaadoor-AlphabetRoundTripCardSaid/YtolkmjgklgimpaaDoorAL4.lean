/-
  AlphabetRoundTrip: for every list of numbers and every three numbers the law returns true, and leaves what was there as it was; the listed tables are as the library's text lays them (the card ties them).
-/
import Derived.Test.YtolkmjgklgimpaaDoorALaw
import Derived.Test.YtolkmjgklgimpaaDoorAPrint
namespace Go.Proofs.YtolkmjgklgimpaaDoor
open Go.ChangeShapes Go.WideShapes Go.ChangeAt Go.RowKit Go.ChangeMaps
open Alp
set_option linter.unusedVariables false
set_option linter.unusedSimpArgs false
namespace AL4

theorem var_below {w w' : World} {name : String} {g : Nat} (hg : Tryd.prog.globalNamed name = some g) (hlt : g < w.heap.size) (hb : Below w.heap.size w w') : w'.var? Tryd.prog name = w.var? Tryd.prog name := by
  unfold World.var?
  rw [hg]
  simp only [Option.bind_some]
  rw [hb.block g hlt]
theorem Tryd.gPow : Tryd.prog.globalNamed "internal/strconv.uint64pow10" = some 1 := by kernel_rfl
theorem Tryd.tPow : (Tryd.prog.globals[1]?).map (·.type) = some 92 := by kernel_rfl
theorem Tryd.c20 : Tryd.prog.cellsOf 92 = 20 := by kernel_rfl
theorem Tryd.c85 : Tryd.prog.cellsOf 78 = 1 := by kernel_rfl
theorem laid_Pow : (Rows.laid_internal_strconv_uint64pow10 : DataW Unit) = Lib.tabData .u64 Lib.pow10Tab := by kernel_rfl
theorem tab_of {W : World} {name : String} {k : IntKind} {zs : List Int} {t e : TypeId} {n fuel : Nat} {cs : Array Value} {p : List MemPlace} (ht : Tryd.prog.underlying t = some (.array n e)) (he : Tryd.prog.underlying e = some (.int k)) (hce : Tryd.prog.cellsOf e = 1) (hct : Tryd.prog.cellsOf t = n)
    (hvar : W.var? Tryd.prog name = some cs) (hd : DataW.trod (fun _ => ()) Tryd.prog W 0 (fun _ => true) false fuel t cs.toList = some (Lib.tabData k zs, p)) : Lib.TabIs Tryd.prog W name k zs := by
  unfold Lib.TabIs
  rw [hvar, ← Lib.cells_of_tab ht he hce hct hd]
theorem tab_lt {W : World} {name : String} {k : IntKind} {zs : List Int} {g : Nat} (h : Lib.TabIs Tryd.prog W name k zs) (hg : Tryd.prog.globalNamed name = some g) (h0 : 0 < zs.length) : g < W.heap.size :=
  World.block_lt_of_cell? W ⟨g, 0, none⟩ (h.cell hg 0 h0)
def laidR : List (String × DataW Unit) := [("math/bits.deBruijn32tab", Rows.laid_math_bits_deBruijn32tab), ("math/bits.deBruijn64tab", Rows.laid_math_bits_deBruijn64tab), ("internal/strconv.uint64pow10", Rows.laid_internal_strconv_uint64pow10), ("unicode/utf8.acceptRanges", Rows.laid_unicode_utf8_acceptRanges), ("unicode/utf8.first", Rows.laid_unicode_utf8_first)]
theorem of_laidR {W : World} (h : laidMetH Tryd.prog laidR W) : PTab W := by
  rw [MakeChecks.laidMetH_plain _ _ _ (by kernel_rfl)] at h
  obtain ⟨ps, ⟨_, _, _, _, _, _, _, _, _, _, ⟨_, _, _, _, _, _, _, _, _, _, ⟨g0, t0, cs0, f0, p0, q0, hg0, ht0, hv0, hd0, _, _⟩, _⟩, _⟩, _, _⟩ := h
  obtain rfl := Option.some.inj (Tryd.gPow.symm.trans hg0)
  obtain rfl := Option.some.inj (Tryd.tPow.symm.trans ht0)
  rw [laid_Pow] at hd0
  have hP := tab_of Tryd.underlying92 Tryd.underlying78 Tryd.c85 Tryd.c20 hv0 hd0
  have hlt := tab_lt hP Tryd.gPow (by rw [Lib.pow10Tab_length]; omega)
  intro w' hb
  unfold Lib.TabIs at hP ⊢
  rw [var_below Tryd.gPow hlt hb]
  exact hP
set_option maxRecDepth 100000 in
theorem metR (os : Os) (args : Array Value) : laidMetH Tryd.prog laidR ((World.laidAll Tryd.prog os laidR).forCall (fun _ _ => 0) ⟨#[], args, []⟩).memory := by
  rw [MakeChecks.laidMetH_plain _ _ _ (by kernel_rfl)]
  exact laidMet_laidAll _ (by kernel_rfl) (by kernel_rfl)
theorem parse_zero {s : B} {R : List Lt} {y : Int} (h : parseP s = (R, y, 0)) : y = 0 ∧ valP R = true ∧ printI R = s := by
  have key : y = 0 ∧ valP R = true := by
    unfold parseP at h
    split at h
    · have := (Prod.mk.inj (Prod.mk.inj h).2).2; omega
    · split at h
      · have := (Prod.mk.inj (Prod.mk.inj h).2).2; omega
      · unfold basesP at h
        split at h
        · have := (Prod.mk.inj (Prod.mk.inj h).2).2; omega
        · split at h
          · rename_i hv
            obtain rfl := (Prod.mk.inj h).1
            exact ⟨(Prod.mk.inj (Prod.mk.inj h).2).1.symm, hv⟩
          · have := (Prod.mk.inj (Prod.mk.inj h).2).2; omega
  obtain ⟨rfl, hv⟩ := key
  exact ⟨rfl, hv, print_parse h (by intro e; subst e; simp [valP] at hv)⟩
theorem printI_len {L : List Lt} (hv : valP L = true) : (printI L).length ≤ 1500 := by
  have key : ∀ k, k ≤ L.length → (rowsT ((L.take k).map (rowOf L))).length ≤ 25 * k := by
    intro k
    induction k with
    | zero => intro _; simp [rowsT]
    | succ k ih =>
      intro hk
      have h1 := ih (by omega)
      have hkl : k < L.length := hk
      obtain ⟨⟨hb1, hb2⟩, hm1, hm2, hm3⟩ := val_nums hv hkl
      have e3 : ∀ X Y : Alp.Rows, rowsT (X ++ Y) = rowsT X ++ rowsT Y := fun X Y => by simp [rowsT]
      have e : L[k] = L.getD k z := (getD_get hkl).symm
      rw [List.take_succ_eq_append_getElem hkl, List.map_append, e3, List.length_append, e]
      have i1 := (itoa_ok (n := (L.getD k z).mark) (by omega) (by omega)).2.2
      have i2 := (itoa_ok (n := (L.getD k z).cas) (by omega) (by omega)).2.2
      have i3 := (itoa_ok (n := (L.getD k z).width) (by omega) (by omega)).2.2
      have t1 := (val_plain hv (getD_mem hkl)).2.1
      have t2 := (val_plain hv (getD_mem (i := (L.getD k z).base.toNat) (by omega))).2.1
      have hone : (rowsT ([L.getD k z].map (rowOf L))).length ≤ 25 := by
        simp only [rowsT, rowT, rowOf, List.map_cons, List.map_nil, List.flatMap_cons, List.flatMap_nil, List.length_append, List.length_cons, List.length_nil, List.append_nil]
        omega
      omega
  have := key L.length (Nat.le_refl _)
  rw [List.take_length] at this
  have h2 := ((valP_iff L).1 hv).2.1
  unfold printI
  omega

set_option maxRecDepth 100000 in
set_option maxHeartbeats 8000000 in
theorem walk (l : List Int) (A : Option Addr) (c : Nat) (li : ∀ x ∈ l, inI x) (ln : l.length ≤ c) (lm : c ≤ maxLen) (n : Int) (ni : inI n) (k : Int) (ki : inI k) (v : Int) (vi : inI v)
    (w : World) (lr : Rd w A (iv l)) (hK : ML w ∧ PTab w) : Calls Tryd.prog 6 #[.slice A l.length c, .int .i64 n, .int .i64 k, .int .i64 v] w fun e w' => e = .returned (.bool true) ∧ Below w.heap.size w w' := by
  obtain ⟨L, hL⟩ : ∃ L, L = lettersP l := ⟨_, rfl⟩
  have hv : valP L = true := by rw [hL]; exact letters_val l
  obtain ⟨t, ht⟩ : ∃ t, t = printI L := ⟨_, rfl⟩
  have htl : t.length ≤ 1500 := by rw [ht]; exact printI_len hv
  obtain ⟨m, hm⟩ : ∃ x, x = speltP t n k v := ⟨_, rfl⟩
  have hml : m.length ≤ 1501 := by have := speltP_len t n k v; rw [← hm] at this; omega
  obtain ⟨⟨R, y, u⟩, hR⟩ : ∃ R, R = parseP m := ⟨_, rfl⟩
  have hpt : parseP t = (L, 0, 0) := by rw [ht]; exact parse_print hv (by rw [← ht]; omega)
  have HLE : Hid (Calls Tryd.prog 9 #[.slice A l.length c] w (LtPost w L)) := Lib.hid (by rw [hL]; exact letters_any l A _ c rfl ln lm li w lr)
  have HPN : Hid (∀ AL q cq W, Below w.heap.size w W → q = L.length → q ≤ cq → cq ≤ maxLen → Rd W AL (lv L) → Calls Tryd.prog 29 #[.slice AL q cq] W (TxPost W t)) := Lib.hid fun AL q cq W hb h1 h2 h3 h4 => by rw [ht]; exact print_any L hv AL q cq h1 h2 h3 W h4 (PTab.below hK.2 hb)
  have HP1 : Hid (∀ W, Below w.heap.size w W → Calls Tryd.prog 26 #[.string (tb t)] W (PPost W (L, 0, 0))) := Lib.hid fun W hb => by rw [← hpt]; exact parse_any t (by unfold maxLen; omega) W (hK.1.below hb)
  have HP2 : Hid (∀ W, Below w.heap.size w W → Calls Tryd.prog 26 #[.string (tb m)] W (PPost W (R, y, u))) := Lib.hid fun W hb => by rw [hR]; exact parse_any m (by unfold maxLen; omega) W (hK.1.below hb)
  have HSP : Hid (∀ W, Calls Tryd.prog 24 #[.string (tb t), .int .i64 n, .int .i64 k, .int .i64 v] W (TxPost W m)) := Lib.hid fun W => by rw [hm]; exact spelt_any t (by omega) n k v ni ki vi W
  have HSA : Hid (∀ (A1 A2 : Option Addr) (n1 n2 c1 c2 : Nat) W, n1 = L.length → n2 = L.length → n1 ≤ maxLen → Rd W A1 (lv L) → Rd W A2 (lv L) → Calls Tryd.prog 28 #[.slice A1 n1 c1, .slice A2 n2 c2] W (BoolB W true)) := Lib.hid fun A1 A2 n1 n2 c1 c2 W h1 h2 h3 h4 h5 => rsame_any L A1 A2 n1 n2 c1 c2 h1 h2 h3 W h4 h5
  have HLI : Hid (∀ W, Below w.heap.size w W → Calls Tryd.prog 15 #[] W fun e w' => e = .returned (.bool true) ∧ Below W.heap.size W w') := Lib.hid fun W hb => lives_any W (hK.1.below hb)
  have HPR : Hid (u = 0 → ∀ AL q cq W, Below w.heap.size w W → q = R.length → q ≤ cq → cq ≤ maxLen → Rd W AL (lv R) → Calls Tryd.prog 29 #[.slice AL q cq] W (TxPost W m)) := Lib.hid fun hu AL q cq W hb h1 h2 h3 h4 => by
    subst hu
    obtain ⟨_, hvR, hpR⟩ := parse_zero hR.symm
    rw [← hpR]
    exact print_any R hvR AL q cq h1 h2 h3 W h4 (PTab.below hK.2 hb)
  clear hL hv ht hm hR hpt li ki lr ni vi hK htl hml
  by_cases hu : u = 0
  · subst hu
    have HPQ := Lib.hid (HPR.out rfl)
    clear HPR
    go_enter Tryd.func6, Tryd.ntmps6
    go_wp2_with (first
      | ((with_reducible refine HLE.out.mono ?_); rintro e w1 hp; obtain ⟨AL, q, cq, rfl, h1, h2, h3, h4, hb⟩ := lt_out hp; have HX1 : Hid (Below w.heap.size w w1 ∧ q = L.length ∧ q ≤ cq ∧ cq ≤ maxLen ∧ Rd w1 AL (lv L)) := Lib.hid ⟨hb, h1, h3, h4, h2⟩; clear hp h1 h2 h3 h4 hb)
      | (go_at_call 24; have HX7b := HX7; (with_reducible refine (HSP.out _).mono ?_); rintro e w8 hp; obtain ⟨rfl, hb⟩ := tx_out hp; have HX8 : Hid (Below w.heap.size w w8) := Lib.hid (below_next HX7.out hb); clear hp hb HX7b)
      | (go_at_call 29; (with_reducible refine (HPQ.out _ _ _ _ HX6.out.1 HX5.out.2.2.2.2.1 HX5.out.2.2.2.2.2.1 HX5.out.2.2.2.2.2.2 HX6.out.2).mono ?_); rintro e w7 hp; obtain ⟨rfl, hb⟩ := tx_out hp; have HX7 : Hid (Below w.heap.size w w7) := Lib.hid (below_next HX6.out.1 hb); clear hp hb)
      | (go_at_call 29; (with_reducible refine (HPN.out _ _ _ _ HX1.out.1 HX1.out.2.1 HX1.out.2.2.1 HX1.out.2.2.2.1 HX1.out.2.2.2.2).mono ?_); rintro e w2 hp; obtain ⟨rfl, hb⟩ := tx_out hp; have HX2 : Hid (Below w.heap.size w w2 ∧ Rd w2 AL (lv L)) := Lib.hid ⟨below_next HX1.out.1 hb, HX1.out.2.2.2.2.below hb⟩; clear hp hb)
      | ((with_reducible refine (HP1.out _ HX2.out.1).mono ?_); rintro e w3 hp; obtain ⟨A3, n3, c3, rfl, h1, h2, h3, h4, hb⟩ := p_out hp; have HX3 : Hid (Below w.heap.size w w3 ∧ Rd w3 AL (lv L) ∧ Rd w3 A3 (lv L) ∧ n3 = L.length) := Lib.hid ⟨below_next HX2.out.1 hb, HX2.out.2.below hb, h2, h1⟩; clear hp h1 h2 h3 h4 hb)
      | ((with_reducible refine (HSP.out _).mono ?_); rintro e w4 hp; obtain ⟨rfl, hb⟩ := tx_out hp; have HX4 : Hid (Below w.heap.size w w4 ∧ Rd w4 AL (lv L) ∧ Rd w4 A3 (lv L)) := Lib.hid ⟨below_next HX3.out.1 hb, HX3.out.2.1.below hb, HX3.out.2.2.1.below hb⟩; clear hp hb)
      | ((with_reducible refine (HP2.out _ HX4.out.1).mono ?_); rintro e w5 hp; obtain ⟨A5, n5, c5, rfl, h1, h2, h3, h4, hb⟩ := p_out hp; have HX5 : Hid (Below w.heap.size w w5 ∧ Rd w5 AL (lv L) ∧ Rd w5 A3 (lv L) ∧ Rd w5 A5 (lv R) ∧ n5 = R.length ∧ n5 ≤ c5 ∧ c5 ≤ maxLen) := Lib.hid ⟨below_next HX4.out.1 hb, HX4.out.2.1.below hb, HX4.out.2.2.below hb, h2, h1, h3, h4⟩; clear hp h1 h2 h3 h4 hb)
      | ((with_reducible refine (HSA.out _ _ _ _ _ _ _ HX1.out.2.1 HX3.out.2.2.2 (Nat.le_trans HX1.out.2.2.1 HX1.out.2.2.2.1) HX5.out.2.1 HX5.out.2.2.1).mono ?_); rintro e w6 hp; obtain ⟨rfl, hb⟩ := boolb_out hp; have HX6 : Hid (Below w.heap.size w w6 ∧ Rd w6 A5 (lv R)) := Lib.hid ⟨below_next HX5.out.1 hb, HX5.out.2.2.2.1.below hb⟩; clear hp hb)
      | ((with_reducible refine (HLI.out _ HX8.out).mono ?_); rintro e w9 ⟨rfl, hb⟩; have HX9 := Lib.hid (below_next HX8.out hb); clear hb))
    go_ret
    exact ⟨rfl, HX9.out⟩
  · have hun : (u != 0) = true := bne_iff_ne.2 hu
    clear HPR
    go_enter Tryd.func6, Tryd.ntmps6
    go_wp2_with (first
      | ((with_reducible refine HLE.out.mono ?_); rintro e w1 hp; obtain ⟨AL, q, cq, rfl, h1, h2, h3, h4, hb⟩ := lt_out hp; have HX1 : Hid (Below w.heap.size w w1 ∧ q = L.length ∧ q ≤ cq ∧ cq ≤ maxLen ∧ Rd w1 AL (lv L)) := Lib.hid ⟨hb, h1, h3, h4, h2⟩; clear hp h1 h2 h3 h4 hb)
      | (go_at_call 29; (with_reducible refine (HPN.out _ _ _ _ HX1.out.1 HX1.out.2.1 HX1.out.2.2.1 HX1.out.2.2.2.1 HX1.out.2.2.2.2).mono ?_); rintro e w2 hp; obtain ⟨rfl, hb⟩ := tx_out hp; have HX2 : Hid (Below w.heap.size w w2 ∧ Rd w2 AL (lv L)) := Lib.hid ⟨below_next HX1.out.1 hb, HX1.out.2.2.2.2.below hb⟩; clear hp hb)
      | ((with_reducible refine (HP1.out _ HX2.out.1).mono ?_); rintro e w3 hp; obtain ⟨A3, n3, c3, rfl, h1, h2, h3, h4, hb⟩ := p_out hp; have HX3 : Hid (Below w.heap.size w w3 ∧ Rd w3 AL (lv L) ∧ Rd w3 A3 (lv L) ∧ n3 = L.length) := Lib.hid ⟨below_next HX2.out.1 hb, HX2.out.2.below hb, h2, h1⟩; clear hp h1 h2 h3 h4 hb)
      | ((with_reducible refine (HSP.out _).mono ?_); rintro e w4 hp; obtain ⟨rfl, hb⟩ := tx_out hp; have HX4 : Hid (Below w.heap.size w w4 ∧ Rd w4 AL (lv L) ∧ Rd w4 A3 (lv L)) := Lib.hid ⟨below_next HX3.out.1 hb, HX3.out.2.1.below hb, HX3.out.2.2.1.below hb⟩; clear hp hb)
      | ((with_reducible refine (HP2.out _ HX4.out.1).mono ?_); rintro e w5 hp; obtain ⟨A5, n5, c5, rfl, h1, h2, h3, h4, hb⟩ := p_out hp; have HX5 : Hid (Below w.heap.size w w5 ∧ Rd w5 AL (lv L) ∧ Rd w5 A3 (lv L) ∧ Rd w5 A5 (lv R) ∧ n5 = R.length ∧ n5 ≤ c5 ∧ c5 ≤ maxLen) := Lib.hid ⟨below_next HX4.out.1 hb, HX4.out.2.1.below hb, HX4.out.2.2.below hb, h2, h1, h3, h4⟩; clear hp h1 h2 h3 h4 hb)
      | ((with_reducible refine (HSA.out _ _ _ _ _ _ _ HX1.out.2.1 HX3.out.2.2.2 (Nat.le_trans HX1.out.2.2.1 HX1.out.2.2.2.1) HX5.out.2.1 HX5.out.2.2.1).mono ?_); rintro e w6 hp; obtain ⟨rfl, hb⟩ := boolb_out hp; have HX6 : Hid (Below w.heap.size w w6 ∧ Rd w6 A5 (lv R)) := Lib.hid ⟨below_next HX5.out.1 hb, HX5.out.2.2.2.1.below hb⟩; clear hp hb)
      | ((with_reducible refine (HLI.out _ HX6.out.1).mono ?_); rintro e w9 ⟨rfl, hb⟩; have HX9 := Lib.hid (below_next HX6.out.1 hb); clear hb))
    go_ret
    exact ⟨rfl, HX9.out⟩

set_option maxRecDepth 100000 in
theorem contract (H : Type) (enc : TypeId × Value → H) (W : World) (base : Nat) (args : Array Value) (ds gs : List (DataW H)) (before : List MemPlace)
    (hval : ∀ (j : Nat) t v, Tryd.f6.params[j]? = some t → args[j]? = some v → Value.okWide Tryd.prog W .any base t v)
    (hW : DataW.Whole enc Tryd.prog Tryd.f6.params.toList Rows.alphabetRoundTripSpec.vars false W args.toList ds gs before)
    (hsz : (DataW.weightsEach Tryd.prog (Tryd.f6.params.toList ++ Rows.alphabetRoundTripSpec.plain.varTypes Tryd.prog) (ds ++ gs)).all (· ≤ reachBytes) = true) (hK : ML W ∧ PTab W) :
    Calls Tryd.prog 6 args W fun e W' => ∃ v, e = .returned v ∧ Rows.alphabetRoundTripSpec.post enc Tryd.prog Tryd.f6 false true false false W args v W' := by
  have hW' := hW
  obtain ⟨p, q, hA0, hV, rfl, hfz, hnd⟩ := hW
  have hA : DataW.TrodAll enc Tryd.prog W 0 (fun _ => true) true Tryd.f6.params.toList args.toList ds p := hA0
  rw [Tryd.params6] at hA hval hsz
  obtain ⟨v0, v1, v2, v3, d0, d1, d2, d3, p0, p1, p2, p3, rfl, rfl, rfl, h0, h1, h2, h3⟩ := trodAll_four hA
  obtain ⟨rfl, rfl⟩ := trodVars_none hV
  obtain ⟨lA, ll, lc, rfl, lr, li, ln, lm⟩ := open_ivs (hval 0 22 v0 rfl rfl) h0
  obtain ⟨n, rfl, rfl, rfl, nw⟩ := open_int Tryd.underlying3 (hval 1 3 v1 rfl rfl) h1
  have ni := inI_wf nw
  obtain ⟨k, rfl, rfl, rfl, kw⟩ := open_int Tryd.underlying3 (hval 2 3 v2 rfl rfl) h2
  have ki := inI_wf kw
  obtain ⟨v, rfl, rfl, rfl, vw⟩ := open_int Tryd.underlying3 (hval 3 3 v3 rfl rfl) h3
  have vi := inI_wf vw
  have hargs : (#[.slice lA ll.length lc, .int .i64 n, .int .i64 k, .int .i64 v] : Array Value) = #[.slice lA ll.length lc, .int .i64 n, .int .i64 k, .int .i64 v] := by rfl
  have hwalk : Calls Tryd.prog 6 #[.slice lA ll.length lc, .int .i64 n, .int .i64 k, .int .i64 v] W fun e W' => e = .returned (.bool true) ∧ Below W.heap.size W W' := by
    rw [hargs]
    exact walk ll lA lc li ln lm n ni k ki v vi W lr hK
  refine hwalk.mono fun e W' ⟨he, hb⟩ => ⟨_, he, ?_⟩
  exact law_post rfl rfl (by kernel_rfl) hW' rfl hb

set_option maxRecDepth 100000 in
theorem lifted (os : Os) (started : os.Started) (H : Type) (enc : TypeId × Value → H) :
    ReturnsInHanded {} Tryd.checked os 6 .any (fun w args => (Rows.alphabetRoundTripSpec.pre enc Tryd.prog Tryd.f6 [] false w args ∧ laidMetH Tryd.prog laidR w) ∧ sizedMet enc Tryd.prog Tryd.f6 (OpenSpec.ofChange Rows.alphabetRoundTripSpec) false w args)
      (Rows.alphabetRoundTripSpec.post enc Tryd.prog Tryd.f6 false true false false) := by
  refine lift5 (C := Tryd.checked) Tryd.own (enc := enc) (os := os) started (by kernel_rfl) Tryd.func6 #[.slice none 0 0, .int .i64 0, .int .i64 0, .int .i64 0] (World.shaped_of_ZipB (by kernel_rfl) (by kernel_rfl)) (by kernel_rfl) (by kernel_rfl) (by kernel_rfl) (metR os _) ?_
  intro W base args ds gs before hval hW hsz shape met
  exact contract H enc W base args ds gs before hval hW hsz (⟨ml_shape shape, of_laidR met⟩)

theorem row : Rows.AlphabetRoundTripSaid :=
  OpenClaim.holds_of_wide 6 Tryd.f6 rfl rfl rfl rfl rfl rfl rfl ⟨rfl, rfl, rfl, rfl, rfl⟩ rfl rfl rfl rfl rfl (by kernel_rfl) Tryd.func6 (by kernel_rfl)
    (of_decide_eq_true (by kernel_rfl)) (by unfold Func.isWrapper; first | (rw [if_pos (by decide +kernel)]; kernel_rfl) | (rw [if_neg (by decide +kernel)]; exact ⟨rfl, rfl⟩))
    (fun os started H enc _ => lifted os started H enc)

theorem proved : Rows.AlphabetRoundTripCardSaid :=
  Claim7.holds_tied_plain_at .later [] [.data, .data, .data, .data, .pinned] true (true, "7232729ef4ef8a14cd71f04c7a643cd3ec9606b55a84630ce42a8805fdbb5518") false
    row (fun _ h => by cases h) (by kernel_rfl) (fun _ h => by cases h) alphabetRoundTrip_row_tie rfl ⟨rfl, rfl⟩ (by kernel_rfl) rfl
    (fun f fn hf hfn => by
      obtain rfl : f = 6 := Option.some.inj ((show Tryd.prog.funcNamed "wordbook/wordbooklaw05.AlphabetRoundTrip" = some 6 by kernel_rfl).symm.trans hf) |>.symm
      obtain rfl : fn = Tryd.f6 := (Option.some.inj (Tryd.func6.symm.trans hfn)).symm
      exact ⟨by kernel_rfl, fun j t ht => by
        rw [Tryd.params6] at ht
        have hm : t ∈ [22, 3, 3, 3] := by simpa using Array.mem_of_getElem? ht
        have hall : ([22, 3, 3, 3].all fun u => !Tryd.prog.wantsStandIn u) = true := by kernel_rfl
        exact (show Tryd.prog.wantsStandIn t = false by simpa using List.all_eq_true.1 hall t hm)⟩)
    (by kernel_rfl)
end AL4
end Go.Proofs.YtolkmjgklgimpaaDoor
