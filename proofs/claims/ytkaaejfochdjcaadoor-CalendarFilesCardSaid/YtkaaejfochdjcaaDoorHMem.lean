/-
  A block of the call's own that is known whole.
-/
import Derived.Test.YtkaaejfochdjcaaDoorHWord
import Derived.Deep.LoopGhost
import Derived.Deep.MidRow
import Derived.Deep.WholeRow
namespace Go.Proofs.YtkaaejfochdjcaaDoor
open Go.RowKit
open Sha
set_option linter.unusedVariables false

theorem wvs_length (l : List U) : (wvs l).length = l.length := by simp [wvs]
theorem wvs_get (l : List U) (k : Nat) (h : k < l.length) : (wvs l)[k]? = some (.int .u32 (l.getD k 0).toNat) := by simp [wvs, wv, h]
theorem wvs_set (l : List U) (k : Nat) (x : U) : (wvs l).set k (.int .u32 x.toNat) = wvs (l.set k x) := by simp [wvs, wv]
theorem wvs_one (l : List U) : ∀ u ∈ wvs l, u.oneCell' = true := fun u hu => by
  obtain ⟨_, _, rfl⟩ := List.mem_map.1 hu
  rfl
theorem bs_getD (l : List UInt8) (k : Nat) (h : k < l.length) : (bs l)[k]? = some (.int .u8 (l.getD k 0).toNat) := by simp [bs, by8, h]
theorem bs_set (l : List UInt8) (k : Nat) (x : UInt8) : (bs l).set k (.int .u8 x.toNat) = bs (l.set k x) := by simp [bs, by8]

def Blk (w : World) (B : Nat) (C : List Value) (T : TypeId) : Prop := w.heap[B]? = some (.cells C.toArray T (0, 0))
section
variable {w w' : World} {B : Nat} {C : List Value} {T : TypeId}
theorem Blk.lt (h : Blk w B C T) : B < w.heap.size := (Array.getElem?_eq_some_iff.1 h).1
theorem Blk.cell (h : Blk w B C T) {j : Nat} {v : Value} (hv : C[j]? = some v) : w.cell? ⟨B, j, none⟩ = some v := by
  rw [cell_of_row w B j _ _ _ h]
  simpa using hv
theorem Blk.frozen (h : Blk w B C T) (j : Nat) : w.frozen? ⟨B, j, none⟩ = false := frozen_of_row w B j _ _ h
theorem Blk.new (w : World) (C : List Value) (T : TypeId) : Blk (w.alloc (.cells C.toArray T)) w.heap.size C T := heap_alloc_new w _
theorem Blk.new' (w : World) (C : List Value) (A : Array Value) (T : TypeId) (h : A = C.toArray) : Blk (w.alloc (.cells A T)) w.heap.size C T := by subst h; exact heap_alloc_new w _
theorem Blk.alloc (h : Blk w B C T) (o : Obj) : Blk (w.alloc o) B C T := (Below.heap_alloc w o B h.lt).trans h
theorem Blk.drew (h : Blk w B C T) : Blk w.drew B C T := h
theorem Blk.drewN (h : Blk w B C T) (n : Nat) : Blk (w.drewN n) B C T := h
theorem Blk.set (h : Blk w B C T) (j : Nat) (v : Value) : Blk (w.setCell ⟨B, j, none⟩ v) B (C.set j v) T := by
  have := heap_setCell_same w B j _ T v h
  rw [Blk, this]
  simp
theorem Blk.set_other (h : Blk w B C T) (a : Addr) (v : Value) (hne : B ≠ a.block) : Blk (w.setCell a v) B C T := (heap_setCell_other w a B v hne).trans h
theorem Blk.below (h : Blk w B C T) {n : Nat} (hb : Below n w w') (hn : B < n) : Blk w' B C T := (hb.block _ hn).trans h
theorem Blk.range (h : Blk w B C T) (o n : Nat) : w.rangeAt B o ((C.drop o).take n) := fun j v hv => by
  refine h.cell ?_
  rw [List.getElem?_take] at hv
  split at hv
  · rw [List.getElem?_drop] at hv
    exact hv
  · cases hv
theorem Blk.there (h : Blk w B C T) (o n : Nat) (hn : o + n ≤ C.length) : w.there B o n := fun j hj => by
  have hl : o + j < C.length := by omega
  exact ⟨by rw [h.cell (List.getElem?_eq_getElem hl)]; rfl, h.frozen _⟩
theorem Blk.setCells : ∀ (vs : List Value) {w : World} {C : List Value} (o : Nat), Blk w B C T → o + vs.length ≤ C.length → Blk (w.setCells B o vs) B (C.take o ++ vs ++ C.drop (o + vs.length)) T
  | [], w, C, o, h, hl => by simpa [World.setCells] using h
  | v :: vs, w, C, o, h, hl => by
    simp only [List.length_cons] at hl
    have h1 := Blk.setCells vs (o + 1) (h.set o v) (by simp; omega)
    rw [World.setCells]
    have e : (C.set o v).take (o + 1) ++ vs ++ (C.set o v).drop (o + 1 + vs.length) = C.take o ++ (v :: vs) ++ C.drop (o + (v :: vs).length) := by
      have ho : o < C.length := by omega
      rw [List.take_succ_eq_append_getElem (by simpa using ho), List.take_set, List.set_eq_of_length_le (by simp; omega)]
      rw [List.drop_set_of_lt (by omega)]
      simp
      omega
    rw [e] at h1
    exact h1
theorem heap_setCells_other (B k : Nat) (hk : k ≠ B) : ∀ (vs : List Value) (o : Nat) (w : World), (w.setCells B o vs).heap[k]? = w.heap[k]?
  | [], _, _ => rfl
  | v :: vs, o, w => by rw [World.setCells, heap_setCells_other B k hk vs, heap_setCell_other _ _ _ _ hk]
theorem Blk.setCells_other (h : Blk w B C T) {B' : Nat} (o : Nat) (vs : List Value) (hne : B ≠ B') : Blk (w.setCells B' o vs) B C T := (heap_setCells_other B' B hne vs o w).trans h
theorem below_setCells {n : Nat} (B : Nat) (hB : n ≤ B) : ∀ (vs : List Value) (o : Nat) {w w' : World}, Below n w w' → Below n w (w'.setCells B o vs)
  | [], _, _, _, h => h
  | v :: vs, o, w, w', h => by rw [World.setCells]; exact below_setCells B hB vs (o + 1) (h.setCell (p := (⟨B, o, none⟩ : Addr)) hB v)
theorem size_setCells (B : Nat) : ∀ (vs : List Value) (o : Nat) (w : World), (w.setCells B o vs).heap.size = w.heap.size
  | [], _, _ => rfl
  | v :: vs, o, w => by rw [World.setCells, size_setCells B vs]; simp [World.setCell]
end
theorem slice_arr {P : Program} {t e : TypeId} {n : Nat} (hu : P.underlying t = some (.array n e)) (hs : (P.info? e).map (·.size) = some 1) (b o l h : Nat) (hl : l ≤ h) (hh : h ≤ n) (hln : l < n) (kl kh : IntKind) (L H : Int) (hL : L = (l : Int)) (hH : H = (h : Int)) (w : World) :
    (Instr.sliceAt t (.pointer (some ⟨b, o, none⟩)) (some (.int kl L)) (some (.int kh H)) none).run P w = .ok (.slice (some ⟨b, o + l, none⟩) (h - l) (n - l)) w := by
  subst hL hH
  cases hq : P.info? e with
  | none => simp [hq] at hs
  | some i =>
    have hs' : i.size = 1 := by simpa [hq] using hs
    have hne : ¬ n = l := by omega
    simp [Instr.sliceAt, Instr.sureAddr, run_underlying hu, Instr.sliceBounds, run_sliceBound, sizeOf, typeInfo, hq, hs', hne, Addr.add_mid, (by omega : (l : Int) ≤ (h : Int)), (by omega : (h : Int) ≤ (n : Int))]
theorem slice_arr_l {P : Program} {t e : TypeId} {n : Nat} (hu : P.underlying t = some (.array n e)) (hs : (P.info? e).map (·.size) = some 1) (b o l : Nat) (hln : l < n) (kl : IntKind) (L : Int) (hL : L = (l : Int)) (w : World) :
    (Instr.sliceAt t (.pointer (some ⟨b, o, none⟩)) (some (.int kl L)) none none).run P w = .ok (.slice (some ⟨b, o + l, none⟩) (n - l) (n - l)) w := by
  subst hL
  cases hq : P.info? e with
  | none => simp [hq] at hs
  | some i =>
    have hs' : i.size = 1 := by simpa [hq] using hs
    have hne : ¬ n = l := by omega
    simp [Instr.sliceAt, Instr.sureAddr, run_underlying hu, Instr.sliceBounds, run_sliceBound, sizeOf, typeInfo, hq, hs', hne, Addr.add_mid, (by omega : (l : Int) ≤ (n : Int))]
/-- From w to w1 only the block g has been written, which now holds D. -/
def Stored (w w1 : World) (g : Nat) (D : List Value) (T : TypeId) : Prop := Blk w1 g D T ∧ (∀ k, k ≠ g → w1.heap[k]? = w.heap[k]?) ∧ w1.heap.size = w.heap.size ∧ w1.os = w.os ∧ w1.tape = w.tape ∧ w1.output = w.output
section
variable {w w1 w0 : World} {g : Nat} {D : List Value} {T : TypeId}
theorem Stored.other (h : Stored w w1 g D T) {B : Nat} {C : List Value} {T' : TypeId} (hb : Blk w B C T') (hne : B ≠ g) : Blk w1 B C T' := (h.2.1 B hne).trans hb
theorem Stored.below (h : Stored w w1 g D T) {n : Nat} (hb : Below n w0 w) (hn : n ≤ g) : Below n w0 w1 :=
  ⟨h.2.2.2.1.trans hb.os, h.2.2.2.2.1.trans hb.tape, h.2.2.2.2.2.trans hb.output, by rw [h.2.2.1]; exact hb.size, fun k hk => (h.2.1 k (by omega)).trans (hb.block k hk)⟩
theorem Stored.drewN (h : Stored w w1 g D T) (a : Nat) : Stored w (w1.drewN a) g D T := h
end
theorem setCells_io (B : Nat) : ∀ (vs : List Value) (o : Nat) (w : World), (w.setCells B o vs).os = w.os ∧ (w.setCells B o vs).tape = w.tape ∧ (w.setCells B o vs).output = w.output
  | [], _, _ => ⟨rfl, rfl, rfl⟩
  | v :: vs, o, w => by rw [World.setCells]; exact setCells_io B vs (o + 1) (w.setCell ⟨B, o, none⟩ v)
theorem Stored.of_setCells {w : World} {g : Nat} {C : List Value} {T : TypeId} (h : Blk w g C T) (o : Nat) (vs : List Value) (hl : o + vs.length ≤ C.length) : Stored w (w.setCells g o vs) g (C.take o ++ vs ++ C.drop (o + vs.length)) T :=
  ⟨h.setCells vs o hl, fun k hk => heap_setCells_other g k hk vs o w, size_setCells g vs o w, setCells_io g vs o w⟩
theorem Stored.of_setCell {w : World} {g : Nat} {C : List Value} {T : TypeId} (h : Blk w g C T) (o : Nat) (v : Value) : Stored w (w.setCell ⟨g, o, none⟩ v) g (C.set o v) T :=
  ⟨h.set o v, fun k hk => heap_setCell_other _ _ _ _ hk, by simp [World.setCell], rfl, rfl, rfl⟩

theorem wpList_load_blk {P : Program} {w : World} {ops : Array Oper} {rest : List Oper} {o : Oper} {a : Act} {Q : Exit → Act → World → Prop} (hgd : o.guard = none) (ty : TypeId) (x : Operand) (ho : o.op = .load ty x)
    (g j : Nat) (hx : a.eval x = .pointer (some ⟨g, j, none⟩)) {C : List Value} {T : TypeId} (hb : Blk w g C T) (d : TypeDesc) (hu : P.underlying ty = some d) (hd : d.isRow = true) (n : Nat) (hi : (P.info? ty).map (·.size) = some n) (hn : j + n ≤ C.length)
    (h : wpList P ops Q rest (a.put o.dst (.agg ((C.drop j).take n).toArray)) w) : wpList P ops Q (o :: rest) a w :=
  wpList_load_mid hgd ty x ho g j hx _ d (hb.range j n) hu hd (by rw [hi, List.length_take, List.length_drop]; congr 1; omega) h

theorem wpList_store_blk {P : Program} {w : World} {ops : Array Oper} {rest : List Oper} {o : Oper} {a : Act} {Q : Exit → Act → World → Prop} (hgd : o.guard = none) (ty : TypeId) (x y : Operand) (ho : o.op = .store ty x y)
    (g j : Nat) (hx : a.eval x = .pointer (some ⟨g, j, none⟩)) (D : List Value) (hy : a.eval y = .agg D.toArray) {C : List Value} {T : TypeId} (hb : Blk w g C T) (n : Nat) (hi : (P.info? ty).map (·.size) = some n) (hD : D.length = n) (hn : j + n ≤ C.length) (h1 : ∀ u ∈ D, u.oneCell' = true)
    (h : ∀ w1, Stored w w1 g (C.take j ++ D ++ C.drop (j + n)) T → wpList P ops Q rest (a.put o.dst undef) w1) : wpList P ops Q (o :: rest) a w := by
  subst hD
  refine wpList_store_mid hgd ty x y ho g j D.toArray hx hy (hb.there j _ (by simpa using hn)) (by simpa using hi) (all_oneCell_toArray h1) ?_
  exact h _ (Stored.of_setCells hb j D hn)

theorem ret_blk {P : Program} {fn : Func} {p : Tmp} {ty : TypeId} {R : Ending → World → Prop} {a : Act} {w : World} (hr : fn.results = #[.cell p ty]) (g : Nat) (hp : a.tmps.getD p undef = .pointer (some ⟨g, 0, none⟩)) {C : List Value} {T : TypeId} (hb : Blk w g C T) (d : TypeDesc) (hu : P.underlying ty = some d) (hd : d.isRow = true)
    (hi : (P.info? ty).map (·.size) = some C.length) (hdf : a.defers = []) (hR : R (.returned (.agg C.toArray)) w) : bodyPost P fn R .ret a w :=
  bodyPost_ret (results_cell_row hr _ w g T C.toArray (0, 0) d hp hb hu (by cases d <;> simp_all) (by simpa using hi)) hdf hR
/-- An element of an array by value. -/
theorem index_val {P : Program} {t e : TypeId} {n : Nat} (hu : P.underlying t = some (.array n e)) (hs : (P.info? e).map (·.size) = some 1) (he : ∀ w, (isAgg e).run P w = .ok false w) (A : Array Value) (k : IntKind) (i : Nat) (hi : i < n) (v : Value) (hv : A[i]? = some v) (w : World) :
    (Instr.index t (.agg A) (.int k (i : Int))).run P w = .ok v w := by
  cases hq : P.info? e with
  | none => simp [hq] at hs
  | some j =>
    have hs' : j.size = 1 := by simpa [hq] using hs
    simp [Instr.index, run_underlying hu, asIntOf, sizeOf, typeInfo, hq, hs', part, he, hv]
    intro h
    omega
/-- A number into one cell of a block. -/
theorem wpList_store_int {P : Program} {w : World} {ops : Array Oper} {rest : List Oper} {o : Oper} {a : Act} {Q : Exit → Act → World → Prop} (hgd : o.guard = none) (ty : TypeId) (x y : Operand) (ho : o.op = .store ty x y)
    (g j : Nat) (hx : a.eval x = .pointer (some ⟨g, j, none⟩)) (k : IntKind) (u : Int) (hy : a.eval y = .int k u) {C : List Value} {T : TypeId} (hb : Blk w g C T) (hj : j < C.length) (hi : (P.info? ty).map (·.size) = some 1)
    (h : ∀ w1, Stored w w1 g (C.set j (.int k u)) T → wpList P ops Q rest (a.put o.dst undef) w1) : wpList P ops Q (o :: rest) a w := by
  refine wpList_plain hgd fun _ hK => ?_
  have hst := run_storeCells_cells (P := P) g j [Value.int k u] 0 w (fun i hi => by have h0 : i = 0 := by simpa using hi
                                                                                    subst h0; exact (hb.there j 1 (by omega) 0 (by omega)).1) (fun i hi => by have h0 : i = 0 := by simpa using hi
                                                                                                                                                              subst h0; exact (hb.there j 1 (by omega) 0 (by omega)).2) (fun v hv => by have hv' : v = .int k u := by simpa using hv
                                                                                                                                                                                                                                        subst hv'; rfl)
  have hrun : (Instr.storeAt ty (.pointer (some ⟨g, j, none⟩)) (.int k u)).run P w = .ok () (w.setCell ⟨g, j, none⟩ (.int k u)) := by
    cases hq : P.info? ty with
    | none => simp [hq] at hi
    | some i =>
      have hi' : i.size = 1 := by simpa [hq] using hi
      have hst' : (storeCells ⟨g, j, none⟩ [Value.int k u] 0).run P w = .ok () (w.setCell ⟨g, j, none⟩ (.int k u)) := hst
      simp [Instr.storeAt, Instr.sureAddr, storeVar, sizeOf, typeInfo, hq, hi', Value.cells, hst']
  unfold Oper.wp execOp
  simp only [ho, hx, hy, Sem.run_bind, Sem.run_pure, Result.andThen_ok, hrun]
  exact hK _ _ (h _ (Stored.of_setCell hb j _))
/-- What a store of many cells does, as the walk meets it. -/
theorem blk_store {P : Program} {w : World} {g : Nat} {C : List Value} {T : TypeId} (hb : Blk w g C T) (j : Nat) (D : List Value) (hn : j + D.length ≤ C.length) (h1 : ∀ u ∈ D, u.oneCell' = true) :
    ∃ w1, (storeCells ⟨g, j, none⟩ D).run P w = .ok () w1 ∧ Stored w w1 g (C.take j ++ D ++ C.drop (j + D.length)) T := by
  refine ⟨w.setCells g j D, ?_, Stored.of_setCells hb j D hn⟩
  have := run_storeCells_cells (P := P) g j D 0 w (fun i hi => by have := (hb.there j _ hn i hi).1; simpa using this) (fun i hi => by have := (hb.there j _ hn i hi).2; simpa using this) h1
  simpa using this
/-- .. of a whole block. -/
theorem blk_store_all {P : Program} {w : World} {g : Nat} {C : List Value} {T : TypeId} (hb : Blk w g C T) (D : List Value) (hn : D.length = C.length) (h1 : ∀ u ∈ D, u.oneCell' = true) :
    ∃ w1, (storeCells ⟨g, 0, none⟩ D).run P w = .ok () w1 ∧ Stored w w1 g D T := by
  obtain ⟨w1, h, hs⟩ := blk_store (P := P) hb 0 D (by omega) h1
  rw [List.take_zero, List.nil_append, List.drop_of_length_le (by omega), List.append_nil] at hs
  exact ⟨w1, h, hs⟩
end Go.Proofs.YtkaaejfochdjcaaDoor
