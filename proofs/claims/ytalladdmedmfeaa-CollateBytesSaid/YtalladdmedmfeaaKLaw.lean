/-
  From a contract of a law's function to its row, for layer 6: the arguments opened (numbers, rows of numbers), the row's last step.
-/
import Derived.Test.YtalladdmedmfeaaRows
import Derived.Test.YtalladdmedmfeaaKLives
import Derived.Test.YtalladdmedmfeaaKWords
import Derived.Test.YtalladdmedmfeaaKFind
import Derived.ProofKit
import Derived.LaidMore
import Derived.OpenShut
import Derived.SliceStrings
import Derived.SizedLaws
import Derived.ChangeMaps5
import Derived.Lay
import Derived.HandedShaped
import Derived.Deep.Matrix
namespace Go.Proofs.Ytalladdmedmfeaa
open Go.ChangeShapes Go.WideShapes Go.ChangeAt Go.RowKit Go.ChangeMaps
open Col Alp
set_option linter.unusedVariables false
set_option linter.unusedSimpArgs false

theorem Try.own : ownKnob Try.prog.godebug = none := by kernel_rfl
theorem Try.laidOut : laidOutB Try.prog = true := by kernel_rfl
theorem Try.cellsIv : Try.prog.cellsOf 22 = 1 := by kernel_rfl
theorem Try.cellsInt : Try.prog.cellsOf 3 = 1 := by kernel_rfl

section
variable {H : Type} {enc : TypeId × Value → H}
theorem trodAll_stays {W W' : World} (hb : Below W.heap.size W W') : ∀ (ts : List TypeId) (vs : List Value) (ds : List (DataW H)) (ps : List MemPlace), (ts.all fun t => Try.prog.readableRec t && decide (t < Try.prog.types.size)) = true →
    DataW.TrodAll enc Try.prog W 0 (fun _ => true) true ts vs ds ps → (∀ x ∈ ps, x.block < W.heap.size) → DataW.TrodAll enc Try.prog W' 0 (fun b => decide (b < W.heap.size)) true ts vs ds ps := by
  intro ts
  induction ts with
  | nil =>
    intro vs ds ps _ h _
    obtain ⟨rfl, rfl, rfl⟩ := trodAll_nil h
    exact trodAll_mk0
  | cons t ts ih =>
    intro vs ds ps hr h hlt
    obtain ⟨v, vs', d, ds', p, q, rfl, rfl, rfl, h0, hs⟩ := trodAll_cons h
    simp only [List.all_cons, Bool.and_eq_true, decide_eq_true_eq] at hr
    exact trodAll_cons_mk (Below.trod Try.laidOut hr.1.1 hr.1.2 h0 hb (fun x hx => hlt x (by simp [hx]))) (ih vs' ds' q hr.2 hs (fun x hx => hlt x (by simp [hx])))

theorem law_post {W W' : World} {args : Array Value} {ds gs : List (DataW H)} {before : List MemPlace} {f : Func} {s : ChangeSpec} (hv : s.vars = []) (hr : f.resultTypes = #[4])
    (hp : (f.params.toList.all fun t => Try.prog.readableRec t && decide (t < Try.prog.types.size)) = true) (hW : DataW.Whole enc Try.prog f.params.toList s.vars false W args.toList ds gs before)
    (hfn : s.fn H (ds ++ gs) = { results := [.lit (.bool true)], args := ds }) (hb : Below W.heap.size W W') : s.post enc Try.prog f false true false false W args (.bool true) W' := by
  have hW' := hW
  obtain ⟨p, q, hA, hV, rfl, _, _⟩ := hW
  rw [hv] at hV
  obtain ⟨rfl, rfl⟩ := trodVars_none hV
  refine ⟨ds, [], p ++ [], [] ++ [], p, [], hW', ?_, ?_, ?_, hb.frame _, fun h => by cases h⟩
  · rw [hfn, hr]
    exact trodAll_cons_mk (shut_bool Try.underlying4 true) trodAll_mk0
  · rw [hfn]
    exact trodAll_stays hb _ _ _ _ hp hA (fun x hx => by have := hW'.lt x (by simp [hx]); simpa using this)
  · rw [hfn, hv]
    rfl

/-! ## the arguments -/
theorem inI_wf {n : Int} (h : (Lit.int .i64 n).wf = true) : inI n := by
  have h1 : IntKind.i64.min = -9223372036854775808 := rfl
  have h2 : IntKind.i64.max = 9223372036854775807 := rfl
  simp only [Lit.wf, Bool.and_eq_true, decide_eq_true_eq, h1, h2] at h
  exact h
theorem rd_addr {W : World} {a : Addr} {xs : List Value} (hn : xs ≠ []) (h : ∀ i v, xs[i]? = some v → W.cell? (a.add i) = some v) : Rd W (some a) xs := by
  obtain ⟨b, o, spot⟩ := a
  obtain ⟨x, t, rfl⟩ : ∃ x t, xs = x :: t := by cases xs with | nil => exact absurd rfl hn | cons x t => exact ⟨x, t, rfl⟩
  have hs : spot = none := by simpa [Addr.add] using World.cell?_spot (h 0 x rfl)
  subst hs
  refine .inr ⟨b, o, rfl, fun k v hv => ?_⟩
  have := h k v hv
  have ha : (⟨b, o, none⟩ : Addr).add k = ⟨b, o + k, none⟩ := by unfold Addr.add; split <;> simp_all
  rwa [ha] at this
set_option maxRecDepth 100000 in
theorem open_ivs {W : World} {v : Value} {d : DataW H} {ps : List MemPlace} {b0 : Nat} (hval : Value.okWide Try.prog W .any b0 22 v) (h : DataW.Trod enc Try.prog W 0 (fun _ => true) true 22 v d ps) :
    ∃ (A : Option Addr) (l : List Int) (c : Nat), v = .slice A l.length c ∧ Rd W A (iv l) ∧ (∀ n ∈ l, inI n) ∧ l.length ≤ c ∧ c ≤ maxLen := by
  obtain ⟨a0, len, cap, rfl⟩ := okWide_slice Try.underlying22 hval
  obtain ⟨fuel, hf⟩ := h
  rcases open_ints Try.underlying22 Try.underlying3 Try.cellsInt hf with ⟨hcs, hx⟩ | ⟨a, len', cap', zs, hcs, _, hl, hm, hz, hx, hcell, hwz⟩
  · simp [Value.cells] at hcs
    obtain ⟨rfl, rfl, rfl⟩ := hcs
    exact ⟨none, [], 0, rfl, .inl rfl, by simp, Nat.le_refl _, Nat.zero_le _⟩
  · simp [Value.cells] at hcs
    obtain ⟨rfl, rfl, rfl⟩ := hcs
    simp only [if_true] at hz
    have hlen : (zs.take len).length = len := by simp; omega
    refine ⟨some a, zs.take len, cap, by rw [hlen], ?_, fun n hn => inI_wf (hwz n (List.mem_of_mem_take hn)), by rw [hlen]; exact hl, hm⟩
    by_cases h0 : zs.take len = []
    · exact .inl (by rw [h0]; rfl)
    · refine rd_addr (by simpa [iv] using h0) (fun i v hv => ?_)
      have hi : i < len := by have := (List.getElem?_eq_some_iff.1 hv).1; rw [iv_length, hlen] at this; exact this
      rw [hcell i (by omega)]
      have hzi : i < zs.length := by omega
      simp [iv, hi, hzi] at hv
      rw [← hv]
      simp [List.getD, hzi]
/-- A string that an argument brought is no longer than the reach. -/
theorem str_reach {ts : List TypeId} {ds : List (DataW H)} (hsz : (DataW.weightsEach Try.prog ts ds).all (· ≤ reachBytes) = true) {j : Nat} {t : TypeId} {s : ByteArray} (ht : ts[j]? = some t) (hd : ds[j]? = some (.lit (.string s.data.toList))) : s.data.toList.length ≤ 140737488351232 := by
  have := sized_string hsz ht hd
  simpa [reachBytes] using this
set_option maxRecDepth 100000 in
theorem open_iws {W : World} {v : Value} {d : DataW H} {ps : List MemPlace} {b0 : Nat} (hval : Value.okWide Try.prog W .any b0 23 v) (h : DataW.Trod enc Try.prog W 0 (fun _ => true) true 23 v d ps) :
    ∃ (A : Option Addr) (ws : List (List Int)) (n c b o : Nat), v = .slice A n c ∧ n = ws.length ∧ n ≤ c ∧ c ≤ maxLen ∧ (n = 0 ∨ (A = some ⟨b, o, none⟩ ∧ ∀ k, k < n → k < 8 → ∃ A' n' c', W.cell? ⟨b, o + k, none⟩ = some (.slice A' n' c') ∧ n' = (ws.getD k []).length ∧ n' ≤ c' ∧ c' ≤ maxLen ∧ Rd W A' (iv (ws.getD k [])))) := by
  obtain ⟨a0, len, cap, rfl⟩ := okWide_slice Try.underlying23 hval
  obtain ⟨fuel, hf⟩ := h
  rcases Go.Deep.open_int_rows Try.underlying23 Try.underlying22 Try.underlying3 Try.cellsIv Try.cellsInt hf with ⟨hcs, hx⟩ | ⟨a, len', cap', A, L, C, Z, hcs, _, hl, hm, hx, hrow⟩
  · simp [Value.cells] at hcs
    obtain ⟨rfl, rfl, rfl⟩ := hcs
    exact ⟨none, [], 0, 0, 0, 0, rfl, rfl, Nat.le_refl _, Nat.zero_le _, .inl rfl⟩
  · simp [Value.cells] at hcs
    obtain ⟨rfl, rfl, rfl⟩ := hcs
    obtain ⟨b, o, spot⟩ := a
    refine ⟨_, (List.range len).map fun r => (Z r).take (L r), len, cap, b, o, rfl, by simp, hl, hm, ?_⟩
    rcases Nat.eq_zero_or_pos len with h0 | hpos
    · exact .inl h0
    · right
      have hs : spot = none := by
        have := World.cell?_spot (hrow 0 (by omega)).1
        simpa [Addr.add] using this
      subst hs
      refine ⟨rfl, fun k hk _ => ?_⟩
      obtain ⟨hc, h1, h2, h3, h4, h5, h6⟩ := hrow k (by omega)
      have hg : ((List.range len).map fun r => (Z r).take (L r)).getD k [] = (Z k).take (L k) := by simp [List.getD, hk]
      have ha : (⟨b, o, none⟩ : Addr).add k = ⟨b, o + k, none⟩ := by unfold Addr.add; split <;> simp_all
      rw [ha] at hc
      have hlen : ((Z k).take (L k)).length = L k := by rw [List.length_take]; omega
      refine ⟨A k, L k, C k, hc, by rw [hg, hlen], h1, h2, ?_⟩
      rw [hg]
      by_cases h0 : (Z k).take (L k) = []
      · exact .inl (by rw [h0]; rfl)
      · cases hA : A k with
        | none => have := h5 hA; exfalso; apply h0; rw [List.eq_nil_iff_length_eq_zero, hlen]; omega
        | some a' =>
          refine rd_addr (by simpa [iv] using h0) (fun i v hv => ?_)
          have hi : i < L k := by have := (List.getElem?_eq_some_iff.1 hv).1; rw [iv_length, hlen] at this; exact this
          rw [(h6 a' hA).2 i (by omega)]
          have hzi : i < (Z k).length := by omega
          simp [iv, hi, hzi] at hv
          rw [← hv]
          simp [List.getD, hzi]
end
end Go.Proofs.Ytalladdmedmfeaa
