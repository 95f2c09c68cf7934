/-
  From a contract of a law's function to its row and its card: what the listed tables give, the row's last step, once for all laws of this seat.
-/
import Derived.Test.YtbgcnfikcddcpaaDoorRows
import Derived.Test.YtbgcnfikcddcpaaDoorTie
import Derived.Test.YtbgcnfikcddcpaaDoorCards
import Derived.Test.YtbgcnfikcddcpaaDoorHStr
import Derived.Test.YtbgcnfikcddcpaaDoorHOf
import Derived.ProofKit
import Derived.LaidMore
import Derived.OpenShut
import Derived.Stop.Joined
import Derived.JoinedCond
import Derived.SliceStrings
import Derived.SizedLaws
import Derived.SevenTiedAt
namespace Go.Proofs.YtbgcnfikcddcpaaDoor
open Go.ChangeShapes Go.WideShapes Go.ChangeAt Go.RowKit
open Sha
set_option linter.unusedVariables false

theorem Tryd.own : ownKnob Tryd.prog.godebug = none := by kernel_rfl
theorem Tryd.laidOut : laidOutB Tryd.prog = true := by kernel_rfl

section
variable {H : Type} {enc : TypeId × Value → H}
theorem trodAll_stays {W W' : World} (hb : Below W.heap.size W W') : ∀ (ts : List TypeId) (vs : List Value) (ds : List (DataW H)) (ps : List MemPlace), (ts.all fun t => Tryd.prog.readableRec t && decide (t < Tryd.prog.types.size)) = true →
    DataW.TrodAll enc Tryd.prog W 0 (fun _ => true) true ts vs ds ps → (∀ x ∈ ps, x.block < W.heap.size) → DataW.TrodAll enc Tryd.prog W' 0 (fun b => decide (b < W.heap.size)) true ts vs ds ps := by
  intro ts
  induction ts with
  | nil =>
    intro vs ds ps _ h _
    obtain ⟨rfl, rfl, rfl⟩ := trodAll_nil h
    exact trodAll_mk0
  | cons t ts ih =>
    intro vs ds ps hr h hlt
    obtain ⟨v, vs', d, ds', p, q, rfl, rfl, rfl, h0, hs⟩ := trodAll_cons h
    simp only [List.all_cons, Bool.and_eq_true, decide_eq_true_eq] at hr
    exact trodAll_cons_mk (Below.trod Tryd.laidOut hr.1.1 hr.1.2 h0 hb (fun x hx => hlt x (by simp [hx]))) (ih vs' ds' q hr.2 hs (fun x hx => hlt x (by simp [hx])))

theorem law_post {W W' : World} {args : Array Value} {ds gs : List (DataW H)} {before : List MemPlace} {f : Func} {s : ChangeSpec} (hv : s.vars = []) (hr : f.resultTypes = #[4])
    (hp : (f.params.toList.all fun t => Tryd.prog.readableRec t && decide (t < Tryd.prog.types.size)) = true) (hW : DataW.Whole enc Tryd.prog f.params.toList s.vars false W args.toList ds gs before)
    (hfn : s.fn H (ds ++ gs) = { results := [.lit (.bool true)], args := ds }) (hb : Below W.heap.size W W') : s.post enc Tryd.prog f false true false false W args (.bool true) W' := by
  have hW' := hW
  obtain ⟨p, q, hA, hV, rfl, _, _⟩ := hW
  rw [hv] at hV
  obtain ⟨rfl, rfl⟩ := trodVars_none hV
  refine ⟨ds, [], p ++ [], [] ++ [], p, [], hW', ?_, ?_, ?_, hb.frame _, fun h => by cases h⟩
  · rw [hfn, hr]
    exact trodAll_cons_mk (shut_bool Tryd.underlying4 true) trodAll_mk0
  · rw [hfn]
    exact trodAll_stays hb _ _ _ _ hp hA (fun x hx => by have := hW'.lt x (by simp [hx]); simpa using this)
  · rw [hfn, hv]
    rfl
end

/-! ## the listed tables -/
theorem table_range {P : Program} {W : World} {t e : TypeId} {name : String} {g fuel : Nat} {cs : Array Value} {p : List MemPlace} (D : List U) (hg : P.globalNamed name = some g) (hu : P.underlying t = some (.array D.length e)) (he : P.underlying e = some (.int .u32)) (hce : P.cellsOf e = 1)
    (hv : W.var? P name = some cs) (hd : DataW.trod (fun _ => ()) P W 0 (fun _ => true) false fuel t cs.toList = some (.agg (D.map fun u => .lit (.int .u32 u.toNat)), p)) : W.rangeAt g 0 (wvs D) := by
  obtain ⟨xs, m, rfl, hx, hl, hn, hel⟩ := DataW.trod_array hu hd
  intro j v hvj
  have hj : j < D.length := by have := (List.getElem?_eq_some_iff.1 hvj).1; rw [wvs_length] at this; exact this
  rw [wvs_get D j hj] at hvj
  obtain rfl := Option.some.inj hvj
  have hxj : j < xs.length := by rw [hn]; exact hj
  have h1 := hel j hj
  rw [hce, List.getElem?_eq_getElem hxj, Nat.mul_one] at h1
  obtain ⟨k, e1, e2, _⟩ := DataW.trod_int he h1
  simp only [Prod.mk.injEq, DataW.agg.injEq] at hx
  have h2 := congrArg (fun l => l[j]?) hx.1
  simp only [List.getElem?_map, List.getElem?_eq_getElem hxj, List.getElem?_eq_getElem hj, Option.map_some, e2, Option.some.injEq, DataW.lit.injEq, Lit.int.injEq, true_and] at h2
  rw [Nat.zero_add, World.var?_cell hg hv j, show D.getD j 0 = D[j] from by simp [List.getD, hj], h2]
  have h3 := congrArg (fun l => l[0]?) e1
  simpa using h3
theorem Tryd.gK : Tryd.prog.globalNamed "wordbook/hash.roundConstants" = some 1 := by kernel_rfl
theorem Tryd.tK : (Tryd.prog.globals[1]?).map (·.type) = some 111 := by kernel_rfl
theorem Tryd.c29 : Tryd.prog.cellsOf 89 = 1 := by kernel_rfl
theorem laid_K : (Rows.laid_wordbook_hash_roundConstants : DataW Unit) = .agg (K.map fun u => .lit (.int .u32 u.toNat)) := by kernel_rfl
theorem kh_of {W : World} {g : Nat} {D : List U} (h : W.rangeAt g 0 (wvs D)) (hD : 0 < D.length) : W.rangeAt g 0 (wvs D) ∧ g < W.heap.size :=
  ⟨h, World.block_lt_of_cell? W ⟨g, 0 + 0, none⟩ (h 0 _ (wvs_get D 0 hD))⟩
def laid1 : List (String × DataW Unit) := [("wordbook/hash.roundConstants", Rows.laid_wordbook_hash_roundConstants)]
theorem of_laid1 {W : World} (h : laidMetH Tryd.prog laid1 W) : KH W := by
  rw [MakeChecks.laidMetH_plain _ _ _ (by kernel_rfl)] at h
  obtain ⟨ps, ⟨g0, t0, cs0, f0, p0, q0, hg0, ht0, hv0, hd0, _⟩, _, _⟩ := h
  obtain rfl := Option.some.inj (Tryd.gK.symm.trans hg0)
  obtain rfl := Option.some.inj (Tryd.tK.symm.trans ht0)
  rw [laid_K] at hd0
  exact kh_of (table_range K Tryd.gK Tryd.underlying111 Tryd.underlying89 Tryd.c29 hv0 hd0) (by rw [K_length]; omega)
theorem door_met1 (os : Os) (args : Array Value) : laidMetH Tryd.prog laid1 ((World.doorLaid Tryd.prog 400 os).forCall (fun _ _ => 0) ⟨#[], args, []⟩).memory :=
  laidMetH_of_parts3 (fuel := 8) (laidMet_of_run' 8 (by kernel_rfl) (by kernel_rfl)) (by kernel_rfl) (by kernel_rfl)
end Go.Proofs.YtbgcnfikcddcpaaDoor
