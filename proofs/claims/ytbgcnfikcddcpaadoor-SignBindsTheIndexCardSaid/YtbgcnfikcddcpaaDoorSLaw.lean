/-
  From contracts to laws, for layer 3: digests, pairs of integers opened.
-/
import Derived.Test.YtbgcnfikcddcpaaDoorHLaw2
import Derived.ChangeMaps5
import Derived.Deep.Slices
import Derived.Carry
namespace Go.Proofs.YtbgcnfikcddcpaaDoor
open Go.ChangeShapes Go.WideShapes Go.ChangeAt Go.RowKit Go.ChangeMaps
open Sha
set_option linter.unusedVariables false
theorem inI_wf {n : Int} (h : (Lit.int .i64 n).wf = true) : inI n := by
  have h1 : IntKind.i64.min = -9223372036854775808 := rfl
  have h2 : IntKind.i64.max = 9223372036854775807 := rfl
  simp only [Lit.wf, Bool.and_eq_true, decide_eq_true_eq, h1, h2] at h
  exact h
theorem u8_wf {n : Int} (h : (Lit.int .u8 n).wf = true) : ∃ u : UInt8, n = u.toNat := by
  have h1 : IntKind.u8.min = 0 := rfl
  have h2 : IntKind.u8.max = 255 := rfl
  simp only [Lit.wf, Bool.and_eq_true, decide_eq_true_eq, h1, h2] at h
  refine ⟨UInt8.ofNat n.toNat, ?_⟩
  have e : (UInt8.ofNat n.toNat).toNat = n.toNat := UInt8.toNat_ofNat_of_lt' (by have : UInt8.size = 256 := rfl; omega)
  rw [e]
  omega
section
variable {H : Type} {enc : TypeId × Value → H}
theorem cell_byte {W : World} {b0 m : Nat} {v : Value} {x : DataW H × List MemPlace} (h : DataW.trod enc Tryd.prog W b0 (fun _ => true) true m 5 [v] = some x) : ∃ u : UInt8, v = by8 u := by
  obtain ⟨n, hn, _, hw⟩ := DataW.trod_int Tryd.underlying5 h
  obtain ⟨u, hu⟩ := u8_wf hw
  exact ⟨u, by have hn' : v = .int .u8 n := by simpa using hn
               rw [hn', hu]; rfl⟩
theorem bytes_list : ∀ (l : List Value), (∀ v ∈ l, ∃ u : UInt8, v = by8 u) → ∃ r : List UInt8, l = bs r
  | [], _ => ⟨[], rfl⟩
  | v :: l, h => by
    obtain ⟨u, rfl⟩ := h v (by simp)
    obtain ⟨r, rfl⟩ := bytes_list l fun x hx => h x (by simp [hx])
    exact ⟨u :: r, rfl⟩
set_option maxRecDepth 100000 in
theorem open_digest {W : World} {v : Value} {d : DataW H} {ps : List MemPlace} {b0 : Nat} (hval : Value.okWide Tryd.prog W .any b0 23 v) (h : DataW.Trod enc Tryd.prog W 0 (fun _ => true) true 23 v d ps) :
    ∃ l : List UInt8, v = .agg (bs l).toArray ∧ l.length = 16 := by
  simp only [Value.okWide, Tryd.underlying23] at hval
  obtain ⟨cs, rfl, hs, _⟩ := hval
  have h2 : Tryd.prog.cellsOf 23 = 16 := by kernel_rfl
  have h1 : Tryd.prog.cellsOf 5 = 1 := by kernel_rfl
  rw [h2] at hs
  obtain ⟨fuel, hf⟩ := h
  obtain ⟨xs, m, rfl, _, _, hl, hx⟩ := DataW.trod_array Tryd.underlying23 hf
  obtain ⟨r, hr⟩ := bytes_list cs.toList (fun v hv => by
    obtain ⟨i, hi, rfl⟩ := List.mem_iff_getElem.1 hv
    have hi16 : i < 16 := by simp at hi; omega
    have e0 := hx i hi16
    rw [h1] at e0
    simp only [Value.cells, Nat.mul_one] at e0
    have hl' : i < xs.length := by omega
    rw [List.getElem?_eq_getElem hl'] at e0
    have hone : (cs.toList.drop i).take 1 = [cs.toList[i]] := by rw [List.drop_eq_getElem_cons hi]; rfl
    rw [hone] at e0
    exact cell_byte e0)
  refine ⟨r, ?_, ?_⟩
  · rw [← hr]
  · have := congrArg List.length hr
    rw [bs_length] at this
    simp at this
    omega
theorem cell_int {W : World} {b0 m : Nat} {v : Value} {x : DataW H × List MemPlace} (h : DataW.trod enc Tryd.prog W b0 (fun _ => true) true m 3 [v] = some x) : ∃ n : Int, v = .int .i64 n ∧ inI n := by
  obtain ⟨n, hn, _, hw⟩ := DataW.trod_int Tryd.underlying3 h
  exact ⟨n, by simpa using hn, inI_wf hw⟩
set_option maxRecDepth 100000 in
theorem open_two {W : World} {v : Value} {d : DataW H} {ps : List MemPlace} {b0 : Nat} (hval : Value.okWide Tryd.prog W .any b0 28 v) (h : DataW.Trod enc Tryd.prog W 0 (fun _ => true) true 28 v d ps) :
    ∃ x y : Int, v = .agg #[.int .i64 x, .int .i64 y] ∧ inI x ∧ inI y := by
  simp only [Value.okWide, Tryd.underlying28] at hval
  obtain ⟨cs, rfl, hs, _⟩ := hval
  have h2 : Tryd.prog.cellsOf 28 = 2 := by kernel_rfl
  have h1 : Tryd.prog.cellsOf 3 = 1 := by kernel_rfl
  rw [h2] at hs
  obtain ⟨c0, c1, rfl⟩ : ∃ c0 c1, cs = #[c0, c1] := ⟨cs[0], cs[1], by apply Array.ext <;> simp [hs]; intro i hi; rcases i with _ | _ | i <;> simp_all; omega⟩
  obtain ⟨fuel, hf⟩ := h
  obtain ⟨xs, m, rfl, _, _, hl, hx⟩ := DataW.trod_array Tryd.underlying28 hf
  have e0 := hx 0 (by omega)
  have e1 := hx 1 (by omega)
  rw [h1] at e0 e1
  simp only [Value.cells, List.getElem?_eq_getElem (by omega : 0 < xs.length)] at e0
  simp only [Value.cells, List.getElem?_eq_getElem (by omega : 1 < xs.length)] at e1
  obtain ⟨u0, r0, i0⟩ := cell_int (v := c0) (by simpa using e0)
  obtain ⟨u1, r1, i1⟩ := cell_int (v := c1) (by simpa using e1)
  exact ⟨u0, u1, by rw [r0, r1], i0, i1⟩
theorem trodAll_five {P : Program} {w : World} {base : Nat} {spare : Nat → Bool} {held : Bool} {t0 t1 t2 t3 t4 : TypeId} {args : Array Value} {ds : List (DataW H)} {ps : List MemPlace} (h : DataW.TrodAll enc P w base spare held [t0, t1, t2, t3, t4] args.toList ds ps) :
    ∃ v0 v1 v2 v3 v4 d0 d1 d2 d3 d4 p0 p1 p2 p3 p4, args = #[v0, v1, v2, v3, v4] ∧ ds = [d0, d1, d2, d3, d4] ∧ ps = p0 ++ p1 ++ p2 ++ p3 ++ p4 ∧ DataW.Trod enc P w base spare held t0 v0 d0 p0 ∧ DataW.Trod enc P w base spare held t1 v1 d1 p1 ∧ DataW.Trod enc P w base spare held t2 v2 d2 p2 ∧ DataW.Trod enc P w base spare held t3 v3 d3 p3 ∧ DataW.Trod enc P w base spare held t4 v4 d4 p4 := by
  obtain ⟨v0, w0, d0, e0, p0, q0, hargs, rfl, rfl, h0, r0⟩ := trodAll_cons h
  obtain ⟨v1, w1, d1, e1, p1, q1, rfl, rfl, rfl, h1, r1⟩ := trodAll_cons r0
  obtain ⟨v2, w2, d2, e2, p2, q2, rfl, rfl, rfl, h2, r2⟩ := trodAll_cons r1
  obtain ⟨v3, w3, d3, e3, p3, q3, rfl, rfl, rfl, h3, r3⟩ := trodAll_cons r2
  obtain ⟨v4, w4, d4, e4, p4, q4, rfl, rfl, rfl, h4, r4⟩ := trodAll_cons r3
  obtain ⟨rfl, rfl, rfl⟩ := trodAll_nil r4
  exact ⟨v0, v1, v2, v3, v4, d0, d1, d2, d3, d4, p0, p1, p2, p3, p4, by cases args; simp_all, rfl, by simp, h0, h1, h2, h3, h4⟩
end
theorem wpList_load_w {P : Program} {w : World} {ops : Array Oper} {rest : List Oper} {o : Oper} {a : Act} {Q : Exit → Act → World → Prop} (hw : Region.wanted o (yielded ops a.tmps) = true) (ty : TypeId) (x : Operand) (ho : o.op = .load ty x)
    (g : Nat) (hx : a.eval x = .pointer (some ⟨g, 0, none⟩)) {C : List Value} {T : TypeId} (hb : Blk w g C T) (d : TypeDesc) (hu : P.underlying ty = some d) (hd : d.isRow = true) (hi : (P.info? ty).map (·.size) = some C.length)
    (h : wpList P ops Q rest (a.put o.dst (.agg C.toArray)) w) : wpList P ops Q (o :: rest) a w :=
  BigFrame.wpList_want hw fun _ hK => wp_load_mid ty x ho g 0 hx C d (fun j v hv => by rw [Nat.zero_add]; exact hb.cell hv) hu hd hi (hK _ _ h)
end Go.Proofs.YtbgcnfikcddcpaaDoor
