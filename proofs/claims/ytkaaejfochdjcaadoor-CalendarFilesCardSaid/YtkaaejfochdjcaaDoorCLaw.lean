/-
  From a contract of a law's function to its row and its card, for layer 4: what the listed tables give, the arguments opened, the row's last step.
-/
import Derived.Test.YtkaaejfochdjcaaDoorRows
import Derived.Test.YtkaaejfochdjcaaDoorTie
import Derived.Test.YtkaaejfochdjcaaDoorCards
import Derived.Test.YtkaaejfochdjcaaDoorCLives
import Derived.ProofKit
import Derived.LaidMore
import Derived.OpenShut
import Derived.Stop.Joined
import Derived.JoinedCond
import Derived.SliceStrings
import Derived.SizedLaws
import Derived.SevenTiedAt
import Derived.ChangeMaps5
import Derived.Deep.SlicePairs
import Derived.Lib.SmallJoins
namespace Go.Proofs.YtkaaejfochdjcaaDoor
open Go.ChangeShapes Go.WideShapes Go.ChangeAt Go.RowKit Go.ChangeMaps
open Cal
set_option linter.unusedVariables false
set_option linter.unusedSimpArgs false

theorem Tryd.own : ownKnob Tryd.prog.godebug = none := by kernel_rfl
theorem Tryd.laidOut : laidOutB Tryd.prog = true := by kernel_rfl

section
variable {H : Type} {enc : TypeId × Value → H}
theorem trodAll_stays {W W' : World} (hb : Below W.heap.size W W') : ∀ (ts : List TypeId) (vs : List Value) (ds : List (DataW H)) (ps : List MemPlace), (ts.all fun t => Tryd.prog.readableRec t && decide (t < Tryd.prog.types.size)) = true →
    DataW.TrodAll enc Tryd.prog W 0 (fun _ => true) true ts vs ds ps → (∀ x ∈ ps, x.block < W.heap.size) → DataW.TrodAll enc Tryd.prog W' 0 (fun b => decide (b < W.heap.size)) true ts vs ds ps := by
  intro ts
  induction ts with
  | nil =>
    intro vs ds ps _ h _
    obtain ⟨rfl, rfl, rfl⟩ := trodAll_nil h
    exact trodAll_mk0
  | cons t ts ih =>
    intro vs ds ps hr h hlt
    obtain ⟨v, vs', d, ds', p, q, rfl, rfl, rfl, h0, hs⟩ := trodAll_cons h
    simp only [List.all_cons, Bool.and_eq_true, decide_eq_true_eq] at hr
    exact trodAll_cons_mk (Below.trod Tryd.laidOut hr.1.1 hr.1.2 h0 hb (fun x hx => hlt x (by simp [hx]))) (ih vs' ds' q hr.2 hs (fun x hx => hlt x (by simp [hx])))

theorem law_post {W W' : World} {args : Array Value} {ds gs : List (DataW H)} {before : List MemPlace} {f : Func} {s : ChangeSpec} (hv : s.vars = []) (hr : f.resultTypes = #[4])
    (hp : (f.params.toList.all fun t => Tryd.prog.readableRec t && decide (t < Tryd.prog.types.size)) = true) (hW : DataW.Whole enc Tryd.prog f.params.toList s.vars false W args.toList ds gs before)
    (hfn : s.fn H (ds ++ gs) = { results := [.lit (.bool true)], args := ds }) (hb : Below W.heap.size W W') : s.post enc Tryd.prog f false true false false W args (.bool true) W' := by
  have hW' := hW
  obtain ⟨p, q, hA, hV, rfl, _, _⟩ := hW
  rw [hv] at hV
  obtain ⟨rfl, rfl⟩ := trodVars_none hV
  refine ⟨ds, [], p ++ [], [] ++ [], p, [], hW', ?_, ?_, ?_, hb.frame _, fun h => by cases h⟩
  · rw [hfn, hr]
    exact trodAll_cons_mk (shut_bool Tryd.underlying4 true) trodAll_mk0
  · rw [hfn]
    exact trodAll_stays hb _ _ _ _ hp hA (fun x hx => by have := hW'.lt x (by simp [hx]); simpa using this)
  · rw [hfn, hv]
    rfl

/-! ## the arguments -/
theorem inI_wf {n : Int} (h : (Lit.int .i64 n).wf = true) : inI n := by
  have h1 : IntKind.i64.min = -9223372036854775808 := rfl
  have h2 : IntKind.i64.max = 9223372036854775807 := rfl
  simp only [Lit.wf, Bool.and_eq_true, decide_eq_true_eq, h1, h2] at h
  exact h
theorem cell_int {W : World} {b0 m : Nat} {v : Value} {x : DataW H × List MemPlace} {sp : Nat → Bool} {held : Bool} (h : DataW.trod enc Tryd.prog W b0 sp held m 3 [v] = some x) : ∃ n : Int, v = .int .i64 n ∧ inI n := by
  obtain ⟨n, hn, _, hw⟩ := DataW.trod_int Tryd.underlying3 h
  exact ⟨n, by simpa using hn, inI_wf hw⟩
set_option maxRecDepth 100000 in
theorem span_struct : ∃ f0 f1 : Field, Tryd.prog.underlying 30 = some (.struct #[f0, f1]) ∧ f0.type = 3 ∧ f0.offset = 0 ∧ f1.type = 3 ∧ f1.offset = 1 := by
  obtain ⟨f0, f1, hf, h0, h1⟩ := fieldsSpan
  simp only [Prod.mk.injEq] at h0 h1
  refine ⟨f0, f1, ?_, h0.2.1, h0.2.2, h1.2.1, h1.2.2⟩
  have e : Tryd.prog.fieldsOf 30 = #[f0, f1] := by
    apply Array.toList_inj.1
    rw [hf]
  have h : Tryd.prog.underlying 30 = some (.struct (Tryd.prog.fieldsOf 30)) := by kernel_rfl
  rw [h, e]
theorem Tryd.cellsSpan : Tryd.prog.cellsOf 30 = 2 := by kernel_rfl
theorem Tryd.cellsInt : Tryd.prog.cellsOf 3 = 1 := by kernel_rfl
theorem Tryd.bytesInt : Tryd.prog.bytesOf 3 = 8 := by kernel_rfl
set_option maxRecDepth 100000 in
theorem open_span {W : World} {v : Value} {d : DataW H} {ps : List MemPlace} {b0 : Nat} (hval : Value.okWide Tryd.prog W .any b0 30 v) (h : DataW.Trod enc Tryd.prog W 0 (fun _ => true) true 30 v d ps) :
    ∃ a b : Int, v = .agg #[.int .i64 a, .int .i64 b] ∧ inI a ∧ inI b := by
  obtain ⟨f0, f1, hu, t0, o0, t1, o1⟩ := span_struct
  obtain ⟨cs, rfl, hsz⟩ := okWide_struct hu hval
  rw [Tryd.cellsSpan] at hsz
  obtain ⟨c0, c1, rfl⟩ : ∃ c0 c1, cs = #[c0, c1] := ⟨cs[0], cs[1], by apply Array.ext <;> simp [hsz]; intro i hi; rcases i with _ | _ | i <;> simp_all; omega⟩
  obtain ⟨fuel, hf⟩ := h
  obtain ⟨xs, k, _, _, _, hxl, hg⟩ := DataW.trod_struct hu hf
  match xs, hxl with
  | [y0, y1], _ =>
    have g0 := hg 0 f0 rfl
    have g1 := hg 1 f1 rfl
    rw [t0, o0] at g0
    rw [t1, o1] at g1
    rw [Tryd.cellsInt] at g0 g1
    obtain ⟨a, ha, ia⟩ := cell_int (v := c0) (by simpa [Value.cells] using g0)
    obtain ⟨b, hb, ib⟩ := cell_int (v := c1) (by simpa [Value.cells] using g1)
    exact ⟨a, b, by rw [ha, hb], ia, ib⟩
theorem rd_addr {W : World} {a : Addr} {xs : List Value} (hn : xs ≠ []) (h : ∀ i v, xs[i]? = some v → W.cell? (a.add i) = some v) : Rd W (some a) xs := by
  obtain ⟨b, o, spot⟩ := a
  obtain ⟨x, t, rfl⟩ : ∃ x t, xs = x :: t := by cases xs with | nil => exact absurd rfl hn | cons x t => exact ⟨x, t, rfl⟩
  have hs : spot = none := by simpa [Addr.add] using World.cell?_spot (h 0 x rfl)
  subst hs
  refine .inr ⟨b, o, rfl, fun k v hv => ?_⟩
  have := h k v hv
  have ha : (⟨b, o, none⟩ : Addr).add k = ⟨b, o + k, none⟩ := by unfold Addr.add; split <;> simp_all
  rwa [ha] at this
set_option maxRecDepth 100000 in
theorem open_ivs {W : World} {v : Value} {d : DataW H} {ps : List MemPlace} {b0 : Nat} (hval : Value.okWide Tryd.prog W .any b0 47 v) (h : DataW.Trod enc Tryd.prog W 0 (fun _ => true) true 47 v d ps) :
    ∃ (A : Option Addr) (l : List Int) (c : Nat), v = .slice A l.length c ∧ Rd W A (iv l) ∧ (∀ n ∈ l, inI n) ∧ l.length ≤ c ∧ c ≤ maxLen := by
  obtain ⟨a0, len, cap, rfl⟩ := okWide_slice Tryd.underlying47 hval
  obtain ⟨fuel, hf⟩ := h
  rcases open_ints Tryd.underlying47 Tryd.underlying3 Tryd.cellsInt hf with ⟨hcs, hx⟩ | ⟨a, len', cap', zs, hcs, _, hl, hm, hz, hx, hcell, hwz⟩
  · simp [Value.cells] at hcs
    obtain ⟨rfl, rfl, rfl⟩ := hcs
    exact ⟨none, [], 0, rfl, .inl rfl, by simp, Nat.le_refl _, Nat.zero_le _⟩
  · simp [Value.cells] at hcs
    obtain ⟨rfl, rfl, rfl⟩ := hcs
    simp only [if_true] at hz
    have hlen : (zs.take len).length = len := by simp; omega
    refine ⟨some a, zs.take len, cap, by rw [hlen], ?_, fun n hn => inI_wf (hwz n (List.mem_of_mem_take hn)), by rw [hlen]; exact hl, hm⟩
    by_cases h0 : zs.take len = []
    · exact .inl (by rw [h0]; rfl)
    · refine rd_addr (by simpa [iv] using h0) (fun i v hv => ?_)
      have hi : i < len := by have := (List.getElem?_eq_some_iff.1 hv).1; rw [iv_length, hlen] at this; exact this
      rw [hcell i (by omega)]
      have hzi : i < zs.length := by omega
      simp [iv, hi, hzi] at hv
      rw [← hv]
      simp [List.getD, hzi]
set_option maxRecDepth 100000 in
theorem open_svs {W : World} {v : Value} {d : DataW H} {ps : List MemPlace} {b0 : Nat} (hval : Value.okWide Tryd.prog W .any b0 31 v) (h : DataW.Trod enc Tryd.prog W 0 (fun _ => true) true 31 v d ps) :
    ∃ (A : Option Addr) (l : List (Int × Int)) (c : Nat), v = .slice A l.length c ∧ Rd W A (sv l) ∧ (∀ x ∈ l, inI x.1 ∧ inI x.2) ∧ l.length ≤ c ∧ c ≤ maxLen := by
  obtain ⟨f0, f1, hu, t0, o0, t1, o1⟩ := span_struct
  obtain ⟨a0, len, cap, rfl⟩ := okWide_slice Tryd.underlying31 hval
  obtain ⟨fuel, hf⟩ := h
  rcases Go.Deep.open_slice_pairs Tryd.underlying31 hu Tryd.cellsSpan o0 o1 (by rw [t0]; exact Tryd.cellsInt) (by rw [t1]; exact Tryd.cellsInt) hf with ⟨hcs, hx⟩ | ⟨a, len', cap', m, n, V0, V1, D0, D1, P0, P1, hcs, _, hl, hm, hmm, hx, hcell⟩
  · simp [Value.cells] at hcs
    obtain ⟨rfl, rfl, rfl⟩ := hcs
    exact ⟨none, [], 0, rfl, .inl rfl, by simp, Nat.le_refl _, Nat.zero_le _⟩
  · simp [Value.cells] at hcs
    obtain ⟨rfl, rfl, rfl⟩ := hcs
    simp only [if_true] at hmm
    have hI : ∀ i, i < cap → ∃ q : Int × Int, V0 i = .int .i64 q.1 ∧ V1 i = .int .i64 q.2 ∧ inI q.1 ∧ inI q.2 := fun i hi => by
      obtain ⟨_, _, h0, h1⟩ := hcell i (by omega)
      rw [t0] at h0
      rw [t1] at h1
      obtain ⟨x, hx, ix⟩ := cell_int h0
      obtain ⟨z, hz, iz⟩ := cell_int h1
      exact ⟨(x, z), hx, hz, ix, iz⟩
    obtain ⟨q, hq⟩ := Go.Deep.choose_lt hI
    have hlen : ((List.range len).map q).length = len := by simp
    refine ⟨some a, (List.range len).map q, cap, by rw [hlen], ?_, fun x hx => ?_, by rw [hlen]; exact hl, hm⟩
    · by_cases h0 : len = 0
      · exact .inl (by subst h0; rfl)
      · refine rd_addr (fun e => by have := congrArg List.length e; rw [sv_length, hlen] at this; simp at this; omega) (fun i v hv => ?_)
        have hi : i < 2 * len := by have := (List.getElem?_eq_some_iff.1 hv).1; rw [sv_length, hlen] at this; exact this
        have hk : i / 2 < len := by omega
        have hg := sv_get ((List.range len).map q) (i / 2) (by rw [hlen]; exact hk)
        have hd : ((List.range len).map q).getD (i / 2) (0, 0) = q (i / 2) := by simp [List.getD, hk]
        rw [hd] at hg
        obtain ⟨c0, c1, _, _⟩ := hcell (i / 2) (by omega)
        obtain ⟨e0, e1, _, _⟩ := hq (i / 2) (by omega)
        rcases Nat.mod_two_eq_zero_or_one i with e | e
        · have ei : i = 2 * (i / 2) := by omega
          rw [ei] at hv
          rw [hg.1] at hv
          obtain rfl := Option.some.inj hv
          rw [show a.add i = a.add (i / 2 * 2) by congr 1; omega, c0, e0]
        · have ei : i = 2 * (i / 2) + 1 := by omega
          rw [ei] at hv
          rw [hg.2] at hv
          obtain rfl := Option.some.inj hv
          rw [show a.add i = a.add (i / 2 * 2 + 1) by congr 1; omega, c1, e1]
    · obtain ⟨i, hi, rfl⟩ := List.mem_map.1 hx
      have := hq i (by have := List.mem_range.1 hi; omega)
      exact ⟨this.2.2.1, this.2.2.2⟩
end

/-! ## the listed tables -/
theorem Tryd.gMD : Tryd.prog.globalNamed "wordbook/calendar.monthDays" = some 0 := by kernel_rfl
theorem Tryd.tMD : (Tryd.prog.globals[0]?).map (·.type) = some 93 := by kernel_rfl
theorem Tryd.tPow : (Tryd.prog.globals[2]?).map (·.type) = some 136 := by kernel_rfl
theorem Tryd.c12 : Tryd.prog.cellsOf 93 = 12 := by kernel_rfl
theorem Tryd.c20 : Tryd.prog.cellsOf 136 = 20 := by kernel_rfl
theorem Tryd.c85 : Tryd.prog.cellsOf 85 = 1 := by kernel_rfl
theorem laid_MD : (Rows.laid_wordbook_calendar_monthDays : DataW Unit) = Lib.tabData .i64 mds := by kernel_rfl
theorem laid_Pow : (Rows.laid_internal_strconv_uint64pow10 : DataW Unit) = Lib.tabData .u64 Lib.pow10Tab := by kernel_rfl
theorem tab_of {W : World} {name : String} {k : IntKind} {zs : List Int} {t e : TypeId} {n fuel : Nat} {cs : Array Value} {p : List MemPlace} (ht : Tryd.prog.underlying t = some (.array n e)) (he : Tryd.prog.underlying e = some (.int k)) (hce : Tryd.prog.cellsOf e = 1) (hct : Tryd.prog.cellsOf t = n)
    (hvar : W.var? Tryd.prog name = some cs) (hd : DataW.trod (fun _ => ()) Tryd.prog W 0 (fun _ => true) false fuel t cs.toList = some (Lib.tabData k zs, p)) : Lib.TabIs Tryd.prog W name k zs := by
  unfold Lib.TabIs
  rw [hvar, ← Lib.cells_of_tab ht he hce hct hd]
theorem tab_lt {W : World} {name : String} {k : IntKind} {zs : List Int} {g : Nat} (h : Lib.TabIs Tryd.prog W name k zs) (hg : Tryd.prog.globalNamed name = some g) (h0 : 0 < zs.length) : g < W.heap.size :=
  World.block_lt_of_cell? W ⟨g, 0, none⟩ (h.cell hg 0 h0)
def laid4 : List (String × DataW Unit) := [("math/bits.deBruijn32tab", Rows.laid_math_bits_deBruijn32tab), ("math/bits.deBruijn64tab", Rows.laid_math_bits_deBruijn64tab), ("internal/strconv.uint64pow10", Rows.laid_internal_strconv_uint64pow10), ("wordbook/calendar.monthDays", Rows.laid_wordbook_calendar_monthDays)]
theorem of_laid4 {W : World} (h : laidMetH Tryd.prog laid4 W) : KC W := by
  rw [MakeChecks.laidMetH_plain _ _ _ (by kernel_rfl)] at h
  obtain ⟨ps, ⟨_, _, _, _, _, _, _, _, _, _, ⟨_, _, _, _, _, _, _, _, _, _, ⟨g0, t0, cs0, f0, p0, q0, hg0, ht0, hv0, hd0, ⟨g1, t1, cs1, f1, p1, q1, hg1, ht1, hv1, hd1, _, _⟩, _⟩, _⟩, _⟩, _, _⟩ := h
  obtain rfl := Option.some.inj (Tryd.gPow.symm.trans hg0)
  obtain rfl := Option.some.inj (Tryd.tPow.symm.trans ht0)
  obtain rfl := Option.some.inj (Tryd.gMD.symm.trans hg1)
  obtain rfl := Option.some.inj (Tryd.tMD.symm.trans ht1)
  rw [laid_Pow] at hd0
  rw [laid_MD] at hd1
  have hP := tab_of Tryd.underlying136 Tryd.underlying85 Tryd.c85 Tryd.c20 hv0 hd0
  have hM := tab_of Tryd.underlying93 Tryd.underlying3 Tryd.cellsInt Tryd.c12 hv1 hd1
  exact ⟨⟨fun k hk => hM.cell Tryd.gMD k hk, tab_lt hM Tryd.gMD (by decide)⟩, hP, tab_lt hP Tryd.gPow (by rw [Lib.pow10Tab_length]; omega)⟩
theorem door_met4 (os : Os) (args : Array Value) : laidMetH Tryd.prog laid4 ((World.doorLaid Tryd.prog 400 os).forCall (fun _ _ => 0) ⟨#[], args, []⟩).memory :=
  laidMetH_of_parts3 (fuel := 8) (laidMet_of_run' 8 (by kernel_rfl) (by kernel_rfl)) (by kernel_rfl) (by kernel_rfl)
end Go.Proofs.YtkaaejfochdjcaaDoor
