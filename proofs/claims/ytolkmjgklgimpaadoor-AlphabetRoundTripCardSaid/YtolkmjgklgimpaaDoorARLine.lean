/-
  The reference's line.
-/
import Derived.Test.YtolkmjgklgimpaaDoorARCut
import Derived.Deep.RegionHeld3
import Derived.Deep.RegionLaw
namespace Go.Proofs.YtolkmjgklgimpaaDoor
open Go.RowKit
open Alp
set_option linter.unusedVariables false
set_option linter.unusedSimpArgs false

/-- The return of a struct that lies in a block, and of two values more. -/
theorem ret_blk3 {P : Program} {fn : Func} {p q r : Tmp} {ty : TypeId} {R : Ending → World → Prop} {a : Act} {w : World} (hr : fn.results = #[.cell p ty, .tmp q, .tmp r]) (g : Nat) (hp : a.tmps.getD p undef = .pointer (some ⟨g, 0, none⟩)) (v u : Value) (hq : a.tmps.getD q undef = v) (hu2 : a.tmps.getD r undef = u) {C : List Value} {T : TypeId} (hb : Blk w g C T) (d : TypeDesc) (hu : P.underlying ty = some d) (hd : d.isRow = true)
    (hi : (P.info? ty).map (·.size) = some C.length) (hdf : a.defers = []) (hR : R (.returned (.tuple #[.agg C.toArray, v, u])) w) : bodyPost P fn R .ret a w := by
  refine bodyPost_ret ?_ hdf hR
  have hp' : a.tmps[p]?.getD undef = .pointer (some ⟨g, 0, none⟩) := by simpa using hp
  have hq' : a.tmps[q]?.getD undef = v := by simpa using hq
  have hu' : a.tmps[r]?.getD undef = u := by simpa using hu2
  simp [results, hr, hp', hq', hu', asAddr, run_loadVar_row w g T ty C.toArray (0, 0) d hb hu (by cases d <;> simp_all) (by simpa using hi)]
/-- What a line's reader answers. -/
def LinePost (w : World) (r : Option (Lt × B)) (e : Ending) (w' : World) : Prop := ∃ (l : Lt) (b : B), e = .returned (.tuple #[.agg (lc l).toArray, .string (tb b), .bool r.isSome]) ∧ (∀ x, r = some x → x = (l, b)) ∧ Below w.heap.size w w'
theorem line_out {w w' : World} {r : Option (Lt × B)} {e : Ending} (h : LinePost w r e w') : ∃ (l : Lt) (b : B), e = .returned (.tuple #[.agg #[.string (tb l.text), .int .i64 l.base, .int .i64 l.mark, .int .i64 l.cas, .int .i64 l.width], .string (tb b), .bool r.isSome]) ∧ (∀ x, r = some x → x = (l, b)) ∧ Below w.heap.size w w' := h
theorem line_none {w w' : World} {r : Option (Lt × B)} (hr : r = none) (l : Lt) (b : B) (hb : Below w.heap.size w w') : LinePost w r (.returned (.tuple #[.agg (lc l).toArray, .string (tb b), .bool false])) w' := by
  subst hr
  exact ⟨l, b, rfl, fun x h => (by cases h), hb⟩
theorem lineOf_bad {a b c d e : B} (h : ¬ (a ≠ [] ∧ b ≠ [] ∧ numOK c = true ∧ numOK d = true ∧ numOK e = true)) : lineOf [a, b, c, d, e] = none := by
  unfold lineOf
  exact if_neg h
theorem lineOf_good {a b c d e : B} (h : a ≠ [] ∧ b ≠ [] ∧ numOK c = true ∧ numOK d = true ∧ numOK e = true) : lineOf [a, b, c, d, e] = some (⟨a, 0, numV c, numV d, numV e⟩, b) := by
  unfold lineOf
  exact if_pos h
theorem line_fin {w w' : World} {a b c d f : B} (ha : a ≠ []) (hb : b ≠ []) {x y q : Int} (hx : x = numR c) (hy : y = numR d) (hq : q = numR f) {V : Bool} (hV : V = (numOK c && (numOK d && numOK f))) (hbel : Below w.heap.size w w') :
    LinePost w (lineOf [a, b, c, d, f]) (.returned (.tuple #[.agg (lc ⟨a, 0, x, y, q⟩).toArray, .string (tb b), .bool V])) w' := by
  subst hx hy hq hV
  refine ⟨⟨a, 0, numR c, numR d, numR f⟩, b, ?_, fun x h => ?_, hbel⟩
  · congr 4
    by_cases h : numOK c = true ∧ numOK d = true ∧ numOK f = true
    · rw [lineOf_good ⟨ha, hb, h⟩, h.1, h.2.1, h.2.2]; rfl
    · rw [lineOf_bad fun g => h g.2.2]
      cases h1 : numOK c <;> cases h2 : numOK d <;> cases h3 : numOK f <;> simp_all
  · obtain ⟨_, _, _, _, _, hp, _, _, h1, h2, h3, hx⟩ := lineOf_some h
    simp only [List.cons.injEq, and_true] at hp
    obtain ⟨rfl, rfl, rfl, rfl, rfl⟩ := hp
    rw [hx, numR_yes h1, numR_yes h2, numR_yes h3]
theorem five_of {p : List B} (h : p.length = 5) : ∃ a b c d e, p = [a, b, c, d, e] := by
  match p, h with
  | [a, b, c, d, e], _ => exact ⟨a, b, c, d, e, rfl⟩
theorem empty_yes {t : B} (h : t = []) : (tb t).toList.isEmpty = true := by rw [tb_toList, h]; rfl
theorem empty_no {t : B} (h : t ≠ []) : (tb t).toList.isEmpty = false := by
  rw [tb_toList]
  cases t with
  | nil => exact absurd rfl h
  | cons _ _ => rfl
theorem step_store_blk {P : Program} {w : World} {ops : Array Oper} {o : Oper} {a : Act} {K : Act → World → Prop} {Q : Exit → Act → World → Prop} {E : Prop} (hgd : o.guard = none) (ty : TypeId) (x y : Operand) (ho : o.op = .store ty x y)
    (g : Nat) (hx : a.eval x = .pointer (some ⟨g, 0, none⟩)) (D : List Value) (hy : a.eval y = .agg D.toArray) {C : List Value} {T : TypeId} (hb : Blk w g C T) (hi : (P.info? ty).map (·.size) = some D.length) (hD : D.length = C.length) (h1 : ∀ u ∈ D, u.oneCell' = true)
    (h : ∀ w1, Stored w w1 g D T → K (a.put o.dst undef) w1) : if Region.wanted o (yielded ops a.tmps) = true then Oper.wp P o a w K Q else E := by
  rw [if_pos (by simp [Region.wanted, hgd])]
  refine wp_store_mid ty x y ho g 0 D.toArray hx hy (hb.there 0 _ (by simpa using Nat.le_of_eq hD)) (by simpa using hi) (all_oneCell_toArray h1) ?_
  have := Stored.of_setCells hb 0 D (by omega)
  rw [List.take_zero, List.nil_append, List.drop_of_length_le (by omega), List.append_nil] at this
  exact h _ this
theorem Blk.of_heap {w W : World} {B : Nat} {C : List Value} {T : TypeId} (h : Blk w B C T) (e : W.heap = w.heap) : Blk W B C T := by unfold Blk; rw [e]; exact h
theorem Stored.cell {w w1 : World} {g : Nat} {D : List Value} {T : TypeId} (h : Stored w w1 g D T) {b o : Nat} {v : Value} (hb : b ≠ g) (hc : w.cell? ⟨b, o, none⟩ = some v) : w1.cell? ⟨b, o, none⟩ = some v := by
  rw [← hc]
  exact World.cell?_of_block (h.2.1 b hb)
theorem tv_open {w : World} {A : Option Addr} {p : List B} (h : Rd w A (tv p)) (hn : p ≠ []) : ∃ b o, A = some ⟨b, o, none⟩ ∧ ∀ k x, k < p.length → x = p.getD k [] → w.cell? ⟨b, o + k, none⟩ = some (.string (tb x)) := by
  obtain ⟨b, o, hA, hc⟩ := h.open (by simpa [tv] using hn)
  exact ⟨b, o, hA, fun k x hk hx => by rw [hx]; exact hc k _ (tv_get p k hk)⟩
def zl : List Value := [.string ⟨#[]⟩, .int .i64 0, .int .i64 0, .int .i64 0, .int .i64 0]
theorem cell_heap {w W : World} (e : W.heap = w.heap) (p : Addr) : W.cell? p = w.cell? p := by unfold World.cell?; rw [e]
theorem below_same {w0 w W : World} {n : Nat} (h : Below n w0 w) (eh : W.heap = w.heap) (eo : W.os = w.os) (et : W.tape = w.tape) (ep : W.output = w.output) : Below n w0 W := ⟨eo.trans h.os, et.trans h.tape, ep.trans h.output, by rw [eh]; exact h.size, fun k hk => by rw [eh]; exact h.block k hk⟩
theorem zl_lc : zl = lc z := rfl
set_option maxRecDepth 100000 in
set_option maxHeartbeats 4000000 in
theorem rline_len (s : B) (hs : s.length ≤ 1000000) (p : List B) (hp : p = splitC 32 s) (hl : p.length ≠ 5) (w : World) : Calls Tryd.prog 43 #[.string (tb s)] w (LinePost w (lineP s)) := by
  have HC : Hid (∀ W, Calls Tryd.prog 42 #[.string (tb s), .int .u8 32] W (SPost W p)) := Lib.hid fun W => by have := cut_any s hs 32 W; rw [hp]; exact this
  have HL : Hid (lineP s = none) := Lib.hid (by unfold lineP; rw [← hp]; exact lineOf_len hl)
  have HN := Lib.hid hl
  clear hp hl
  go_enter Tryd.func43, Tryd.ntmps43
  go_wp2_with (first | ((with_reducible refine (HC.out _).mono ?_); rintro e w1 hp1; obtain ⟨A1, c1, n1, rfl, h1, h2, h3, h4, h5, hb1⟩ := s_out hp1; have HX : Hid (n1 = p.length ∧ Rd w1 A1 (tv p) ∧ Blk w1 w.heap.size zl 50 ∧ Below w.heap.size w w1) := Lib.hid ⟨h1, h3, (Blk.at w zl _ 50 _ rfl rfl).below hb1 (by simp), below_next (below_a1 w _) hb1⟩; clear hp1 h1 h2 h3 hb1; obtain ⟨m, hm⟩ : ∃ m, m = n1 := ⟨_, rfl⟩; have hne : ((n1 : Int) != 5) = true := bne_iff_ne.2 (fun e => HN.out (by have := HX.out.1; omega)); clear hm m) | (refine wpList_store_blk rfl 50 (.tmp 2) (.tmp 29) rfl w.heap.size 0 rfl zl rfl HX.out.2.2.1 5 Tryd.sizeLt rfl (by simp [zl]) (by simp [zl, Value.oneCell']) ?_; intro w9 hst9; have HX9 : Hid (Blk w9 w.heap.size zl 50 ∧ Below w.heap.size w w9) := Lib.hid ⟨by simpa [zl] using hst9.1, hst9.below HX.out.2.2.2 (Nat.le_refl _)⟩; clear hst9))
  exact ret_blk3 rfl w.heap.size rfl _ _ rfl rfl HX9.out.1 _ Tryd.underlying50 rfl Tryd.sizeLt rfl (line_none HL.out z [] HX9.out.2)
set_option maxRecDepth 100000 in
set_option maxHeartbeats 4000000 in
theorem rline_e0 (s : B) (hs : s.length ≤ 1000000) (a b c d f : B) (hp : splitC 32 s = [a, b, c, d, f]) (h0 : a = []) (w : World) : Calls Tryd.prog 43 #[.string (tb s)] w (LinePost w (lineP s)) := by
  have HC : Hid (∀ W, Calls Tryd.prog 42 #[.string (tb s), .int .u8 32] W (SPost W [a, b, c, d, f])) := Lib.hid fun W => by have := cut_any s hs 32 W; rw [hp] at this; exact this
  have HL : Hid (lineP s = none) := Lib.hid (by unfold lineP; rw [hp]; exact lineOf_bad fun h => h.1 h0)
  have he := empty_yes h0
  clear hp h0
  go_enter Tryd.func43, Tryd.ntmps43
  go_wp2_with (first | ((with_reducible refine (HC.out _).mono ?_); rintro e w1 hp1; obtain ⟨A1, c1, n1, rfl, h1, h2, h3, h4, h5, hb1⟩ := s_out hp1; have HX : Hid (n1 = 5 ∧ Rd w1 A1 (tv [a, b, c, d, f]) ∧ Blk w1 w.heap.size zl 50 ∧ Below w.heap.size w w1) := Lib.hid ⟨h1, h3, (Blk.at w zl _ 50 _ rfl rfl).below hb1 (by simp), below_next (below_a1 w _) hb1⟩; clear hp1 h1 h2 h3 hb1; obtain rfl : n1 = 5 := HX.out.1; obtain ⟨g, o, rfl, HCE⟩ := tv_open HX.out.2.1 (by simp); have hc0 : w1.cell? ⟨g, o, none⟩ = some (.string (tb a)) := HCE 0 a (by simp) rfl; have hc1 : w1.cell? ⟨g, o + 1, none⟩ = some (.string (tb b)) := HCE 1 b (by simp) rfl; clear HCE) | (refine wpList_store_blk rfl 50 (.tmp 2) (.tmp 29) rfl w.heap.size 0 rfl zl rfl HX.out.2.2.1 5 Tryd.sizeLt rfl (by simp [zl]) (by simp [zl, Value.oneCell']) ?_; intro w9 hst9; have HX9 : Hid (Blk w9 w.heap.size zl 50 ∧ Below w.heap.size w w9) := Lib.hid ⟨by simpa [zl] using hst9.1, hst9.below HX.out.2.2.2 (Nat.le_refl _)⟩; clear hst9))
  exact ret_blk3 rfl w.heap.size rfl _ _ rfl rfl HX9.out.1 _ Tryd.underlying50 rfl Tryd.sizeLt rfl (line_none HL.out z [] HX9.out.2)
set_option maxRecDepth 100000 in
set_option maxHeartbeats 4000000 in
theorem rline_e1 (s : B) (hs : s.length ≤ 1000000) (a b c d f : B) (hp : splitC 32 s = [a, b, c, d, f]) (ha : a ≠ []) (h0 : b = []) (w : World) : Calls Tryd.prog 43 #[.string (tb s)] w (LinePost w (lineP s)) := by
  have HC : Hid (∀ W, Calls Tryd.prog 42 #[.string (tb s), .int .u8 32] W (SPost W [a, b, c, d, f])) := Lib.hid fun W => by have := cut_any s hs 32 W; rw [hp] at this; exact this
  have HL : Hid (lineP s = none) := Lib.hid (by unfold lineP; rw [hp]; exact lineOf_bad fun h => h.2.1 h0)
  have hea := empty_no ha
  have he := empty_yes h0
  clear hp h0 ha
  go_enter Tryd.func43, Tryd.ntmps43
  go_wp2_with (first | ((with_reducible refine (HC.out _).mono ?_); rintro e w1 hp1; obtain ⟨A1, c1, n1, rfl, h1, h2, h3, h4, h5, hb1⟩ := s_out hp1; have HX : Hid (n1 = 5 ∧ Rd w1 A1 (tv [a, b, c, d, f]) ∧ Blk w1 w.heap.size zl 50 ∧ Below w.heap.size w w1) := Lib.hid ⟨h1, h3, (Blk.at w zl _ 50 _ rfl rfl).below hb1 (by simp), below_next (below_a1 w _) hb1⟩; clear hp1 h1 h2 h3 hb1; obtain rfl : n1 = 5 := HX.out.1; obtain ⟨g, o, rfl, HCE⟩ := tv_open HX.out.2.1 (by simp); have hc0 : w1.cell? ⟨g, o, none⟩ = some (.string (tb a)) := HCE 0 a (by simp) rfl; have hc1 : w1.cell? ⟨g, o + 1, none⟩ = some (.string (tb b)) := HCE 1 b (by simp) rfl; clear HCE) | (refine wpList_store_blk rfl 50 (.tmp 2) (.tmp 29) rfl w.heap.size 0 rfl zl rfl HX.out.2.2.1 5 Tryd.sizeLt rfl (by simp [zl]) (by simp [zl, Value.oneCell']) ?_; intro w9 hst9; have HX9 : Hid (Blk w9 w.heap.size zl 50 ∧ Below w.heap.size w w9) := Lib.hid ⟨by simpa [zl] using hst9.1, hst9.below HX.out.2.2.2 (Nat.le_refl _)⟩; clear hst9))
  exact ret_blk3 rfl w.heap.size rfl _ _ rfl rfl HX9.out.1 _ Tryd.underlying50 rfl Tryd.sizeLt rfl (line_none HL.out z [] HX9.out.2)
set_option maxRecDepth 100000 in
set_option maxHeartbeats 4000000 in
theorem rline_g0 (s : B) (hs : s.length ≤ 1000000) (a b c d f : B) (hp : splitC 32 s = [a, b, c, d, f]) (ha : a ≠ []) (hb : b ≠ []) (k0 : numOK c = false) (w : World) : Calls Tryd.prog 43 #[.string (tb s)] w (LinePost w (lineP s)) := by
  have HC : Hid (∀ W, Calls Tryd.prog 42 #[.string (tb s), .int .u8 32] W (SPost W [a, b, c, d, f])) := Lib.hid fun W => by have := cut_any s hs 32 W; rw [hp] at this; exact this
  have HL : Hid (lineP s = lineOf [a, b, c, d, f]) := Lib.hid (by unfold lineP; rw [hp])
  have HS : Hid (a.length ≤ maxLen ∧ b.length ≤ maxLen ∧ c.length ≤ maxLen ∧ d.length ≤ maxLen ∧ f.length ≤ maxLen) := Lib.hid (by
    have := splitC_part 32 s
    rw [hp] at this
    have h1 := this a (by simp)
    have h2 := this b (by simp)
    have h3 := this c (by simp)
    have h4 := this d (by simp)
    have h5 := this f (by simp)
    unfold maxLen
    refine ⟨?_, ?_, ?_, ?_, ?_⟩ <;> omega)
  have HD : Hid (∀ (t : B), t.length ≤ maxLen → ∀ W, Calls Tryd.prog 49 #[.string (tb t), .int .i64 6] W fun e w' => e = .returned (.tuple #[.int .i64 (numR t), .bool (numOK t)]) ∧ W = w') := Lib.hid fun t ht W => digits_any t ht W
  have hea := empty_no ha
  have heb := empty_no hb
  have HAB := Lib.hid (And.intro ha hb)
  clear hp ha hb
  go_enter Tryd.func43, Tryd.ntmps43
  go_wp2_with (first | ((with_reducible refine (HC.out _).mono ?_); rintro e w1 hp1; obtain ⟨A1, c1, n1, rfl, h1, h2, h3, h4, h5, hb1⟩ := s_out hp1; obtain rfl : n1 = 5 := h1; obtain ⟨g, o, rfl, HCE⟩ := tv_open h3 (by simp); have HX : Hid (Rd w1 (some ⟨g, o, none⟩) (tv [a, b, c, d, f]) ∧ True ∧ Blk w1 w.heap.size zl 50 ∧ Below w.heap.size w w1 ∧ g ≠ w.heap.size) := Lib.hid ⟨h3, trivial, (Blk.at w zl _ 50 _ rfl rfl).below hb1 (by simp), below_next (below_a1 w _) hb1, by have := (h2.lt g rfl).1; simp at this; omega⟩; clear hp1 h2 h3 hb1; have hc0 : w1.cell? ⟨g, o, none⟩ = some (.string (tb a)) := HCE 0 a (by simp) rfl; have hc1 : w1.cell? ⟨g, o + 1, none⟩ = some (.string (tb b)) := HCE 1 b (by simp) rfl; have hc2 : w1.cell? ⟨g, o + 2, none⟩ = some (.string (tb c)) := HCE 2 c (by simp) rfl; have hc3 : w1.cell? ⟨g, o + 3, none⟩ = some (.string (tb d)) := HCE 3 d (by simp) rfl; have hc4 : w1.cell? ⟨g, o + 4, none⟩ = some (.string (tb f)) := HCE 4 f (by simp) rfl; clear HCE) | ((with_reducible refine (HD.out c HS.out.2.2.1 _).mono ?_); rintro e w2 ⟨rfl, rfl⟩) | ((with_reducible refine (HD.out d HS.out.2.2.2.1 _).mono ?_); rintro e w2 ⟨rfl, rfl⟩) | ((with_reducible refine (HD.out f HS.out.2.2.2.2 _).mono ?_); rintro e w2 ⟨rfl, rfl⟩))
  have hbb := HX.out.2.2.1
  obtain ⟨x, hx⟩ : ∃ x, x = numR c := ⟨_, rfl⟩
  obtain ⟨y, hy⟩ : ∃ y, y = numR d := ⟨_, rfl⟩
  obtain ⟨q, hq⟩ : ∃ q, q = numR f := ⟨_, rfl⟩
  rw [← hx, ← hy, ← hq]
  have HQ := Lib.hid (And.intro hx (And.intro hy hq))
  clear hx hy hq hbb hc2 hc3 hc4
  have HK : Hid (∀ W : World, W.heap = w1.heap → W.cell? ⟨g, o, none⟩ = some (.string (tb a)) ∧ W.cell? ⟨g, o + 1, none⟩ = some (.string (tb b))) := Lib.hid fun W e => ⟨(cell_heap e _).trans hc0, (cell_heap e _).trans hc1⟩
  refine wp_region_held_drew (S := fun w' => w'.cell? ⟨g, o, none⟩ = some (.string (tb a)) ∧ w'.cell? ⟨g, o + 1, none⟩ = some (.string (tb b))) (by kernel_rfl) (HK.out _ rfl) (fun hS0 => ?_)
  refine wpAnyH_take (i := 0) (oi := { dst := some 51, op := Op.move (Operand.tmp 5), type := 26, pos := "ref.go:167", after := #[], guard := none }) (v := ?_) rfl (by kernel_rfl) (by kernel_rfl) (by kernel_rfl) (fun _ _ _ h => h) (Or.inl ⟨by rfl, ?_⟩) (by assumption) ?_
  rotate_left
  · (intro w' hSw; (try dsimp only at hSw); obtain ⟨hS1, hS2⟩ := hSw; go_simp; try with_reducible rfl)
  try simp only [Act.put, List.setIfInBounds_toArray, List.set_cons_zero, List.set_cons_succ]
  refine wpAnyH_take (i := 1) (oi := { dst := some 52, op := Op.indexAddr 26 (Operand.tmp 51) (Operand.const (Value.int IntKind.i64 0)), type := 0, pos := "ref.go:167", after := #[{ on := 0, ground := Ground.data }], guard := none }) (v := ?_) rfl (by kernel_rfl) (by kernel_rfl) (by kernel_rfl) (fun _ _ _ h => h) (Or.inl ⟨by rfl, ?_⟩) (by assumption) ?_
  rotate_left
  · (intro w' hSw; (try dsimp only at hSw); obtain ⟨hS1, hS2⟩ := hSw; go_simp; try with_reducible rfl)
  try simp only [Act.put, List.setIfInBounds_toArray, List.set_cons_zero, List.set_cons_succ]
  refine wpAnyH_take (i := 2) (oi := { dst := some 53, op := Op.load 9 (Operand.tmp 52), type := 9, pos := "ref.go:167", after := #[{ on := 1, ground := Ground.data }], guard := none }) (v := ?_) rfl (by kernel_rfl) (by kernel_rfl) (by kernel_rfl) (fun _ _ _ h => h) (Or.inl ⟨by rfl, ?_⟩) (by assumption) ?_
  rotate_left
  · (intro w' hSw; (try dsimp only at hSw); obtain ⟨hS1, hS2⟩ := hSw; go_simp; try with_reducible rfl)
  try simp only [Act.put, List.setIfInBounds_toArray, List.set_cons_zero, List.set_cons_succ]
  refine wpAnyH_take (i := 3) (oi := { dst := some 54, op := Op.move (Operand.tmp 6), type := 3, pos := "ref.go:167", after := #[], guard := none }) (v := ?_) rfl (by kernel_rfl) (by kernel_rfl) (by kernel_rfl) (fun _ _ _ h => h) (Or.inl ⟨by rfl, ?_⟩) (by assumption) ?_
  rotate_left
  · (intro w' hSw; (try dsimp only at hSw); obtain ⟨hS1, hS2⟩ := hSw; go_simp; try with_reducible rfl)
  try simp only [Act.put, List.setIfInBounds_toArray, List.set_cons_zero, List.set_cons_succ]
  refine wpAnyH_take (i := 4) (oi := { dst := some 55, op := Op.move (Operand.tmp 8), type := 3, pos := "ref.go:167", after := #[], guard := none }) (v := ?_) rfl (by kernel_rfl) (by kernel_rfl) (by kernel_rfl) (fun _ _ _ h => h) (Or.inl ⟨by rfl, ?_⟩) (by assumption) ?_
  rotate_left
  · (intro w' hSw; (try dsimp only at hSw); obtain ⟨hS1, hS2⟩ := hSw; go_simp; try with_reducible rfl)
  try simp only [Act.put, List.setIfInBounds_toArray, List.set_cons_zero, List.set_cons_succ]
  refine wpAnyH_take (i := 5) (oi := { dst := some 56, op := Op.move (Operand.tmp 10), type := 3, pos := "ref.go:167", after := #[], guard := none }) (v := ?_) rfl (by kernel_rfl) (by kernel_rfl) (by kernel_rfl) (fun _ _ _ h => h) (Or.inl ⟨by rfl, ?_⟩) (by assumption) ?_
  rotate_left
  · (intro w' hSw; (try dsimp only at hSw); obtain ⟨hS1, hS2⟩ := hSw; go_simp; try with_reducible rfl)
  try simp only [Act.put, List.setIfInBounds_toArray, List.set_cons_zero, List.set_cons_succ]
  refine wpAnyH_take (i := 6) (oi := { dst := some 57, op := Op.build 50 #[(0, Operand.tmp 53), (2, Operand.tmp 54), (3, Operand.tmp 55), (4, Operand.tmp 56)], type := 50, pos := "ref.go:167", after := #[{ on := 2, ground := Ground.data }, { on := 3, ground := Ground.data }, { on := 4, ground := Ground.data }, { on := 5, ground := Ground.data }], guard := none }) (v := ?_) rfl (by kernel_rfl) (by kernel_rfl) (by kernel_rfl) (fun _ _ _ h => h) (Or.inl ⟨by rfl, ?_⟩) (by assumption) ?_
  rotate_left
  · (intro w' hSw; (try dsimp only at hSw); obtain ⟨hS1, hS2⟩ := hSw; go_simp; try with_reducible rfl)
  try simp only [Act.put, List.setIfInBounds_toArray, List.set_cons_zero, List.set_cons_succ]
  refine wpAnyH_take (i := 7) (oi := { dst := some 58, op := Op.move (Operand.tmp 5), type := 26, pos := "ref.go:167", after := #[{ on := 17, ground := Ground.gcOnly Departure.lateStores }], guard := none }) (v := ?_) rfl (by kernel_rfl) (by kernel_rfl) (by kernel_rfl) (fun _ _ _ h => h) (Or.inl ⟨by rfl, ?_⟩) (by assumption) ?_
  rotate_left
  · (intro w' hSw; (try dsimp only at hSw); obtain ⟨hS1, hS2⟩ := hSw; go_simp; try with_reducible rfl)
  try simp only [Act.put, List.setIfInBounds_toArray, List.set_cons_zero, List.set_cons_succ]
  refine wpAnyH_take (i := 8) (oi := { dst := some 59, op := Op.indexAddr 26 (Operand.tmp 58) (Operand.const (Value.int IntKind.i64 1)), type := 0, pos := "ref.go:167", after := #[{ on := 7, ground := Ground.data }, { on := 17, ground := Ground.gcOnly Departure.lateStores }], guard := none }) (v := ?_) rfl (by kernel_rfl) (by kernel_rfl) (by kernel_rfl) (fun _ _ _ h => h) (Or.inl ⟨by rfl, ?_⟩) (by assumption) ?_
  rotate_left
  · (intro w' hSw; (try dsimp only at hSw); obtain ⟨hS1, hS2⟩ := hSw; go_simp; try with_reducible rfl)
  try simp only [Act.put, List.setIfInBounds_toArray, List.set_cons_zero, List.set_cons_succ]
  refine wpAnyH_take (i := 9) (oi := { dst := some 60, op := Op.load 9 (Operand.tmp 59), type := 9, pos := "ref.go:167", after := #[{ on := 8, ground := Ground.data }, { on := 17, ground := Ground.gcOnly Departure.lateStores }], guard := none }) (v := ?_) rfl (by kernel_rfl) (by kernel_rfl) (by kernel_rfl) (fun _ _ _ h => h) (Or.inl ⟨by rfl, ?_⟩) (by assumption) ?_
  rotate_left
  · (intro w' hSw; (try dsimp only at hSw); obtain ⟨hS1, hS2⟩ := hSw; go_simp; try with_reducible rfl)
  try simp only [Act.put, List.setIfInBounds_toArray, List.set_cons_zero, List.set_cons_succ]
  refine wpAnyH_take (i := 10) (oi := { dst := some 61, op := Op.move (Operand.tmp 7), type := 4, pos := "ref.go:167", after := #[], guard := none }) (v := ?_) rfl (by kernel_rfl) (by kernel_rfl) (by kernel_rfl) (fun _ _ _ h => h) (Or.inl ⟨by rfl, ?_⟩) (by assumption) ?_
  rotate_left
  · (intro w' hSw; (try dsimp only at hSw); obtain ⟨hS1, hS2⟩ := hSw; go_simp; try with_reducible rfl)
  try simp only [Act.put, List.setIfInBounds_toArray, List.set_cons_zero, List.set_cons_succ]
  refine wpAnyH_take (i := 11) (oi := { dst := some 62, op := Op.move (Operand.tmp 61), type := 4, pos := "ref.go:167", after := #[{ on := 10, ground := Ground.data }], guard := none }) (v := ?_) rfl (by kernel_rfl) (by kernel_rfl) (by kernel_rfl) (fun _ _ _ h => h) (Or.inl ⟨by rfl, ?_⟩) (by assumption) ?_
  rotate_left
  · (intro w' hSw; (try dsimp only at hSw); obtain ⟨hS1, hS2⟩ := hSw; go_simp; try with_reducible rfl)
  try simp only [Act.put, List.setIfInBounds_toArray, List.set_cons_zero, List.set_cons_succ]
  refine wpAnyH_take (i := 12) (oi := { dst := some 63, op := Op.move (Operand.tmp 9), type := 4, pos := "ref.go:167", after := #[{ on := 11, ground := Ground.guard }], guard := some (11, true) }) (v := _) rfl (by kernel_rfl) (by kernel_rfl) (by kernel_rfl) (fun _ _ _ h => h) (Or.inr ⟨by rfl, rfl⟩) (by assumption) ?_
  try simp only [Act.put, List.setIfInBounds_toArray, List.set_cons_zero, List.set_cons_succ]
  refine wpAnyH_take (i := 13) (oi := { dst := some 64, op := Op.pick (Operand.tmp 62) (Operand.tmp 63) (Operand.const (Value.bool false)), type := 4, pos := "ref.go:167", after := #[{ on := 11, ground := Ground.data }, { on := 12, ground := Ground.data }], guard := none }) (v := ?_) rfl (by kernel_rfl) (by kernel_rfl) (by kernel_rfl) (fun _ _ _ h => h) (Or.inl ⟨by rfl, ?_⟩) (by assumption) ?_
  rotate_left
  · (intro w' hSw; (try dsimp only at hSw); obtain ⟨hS1, hS2⟩ := hSw; go_simp; try with_reducible rfl)
  try simp only [Act.put, List.setIfInBounds_toArray, List.set_cons_zero, List.set_cons_succ]
  refine wpAnyH_take (i := 14) (oi := { dst := some 65, op := Op.move (Operand.tmp 64), type := 4, pos := "ref.go:167", after := #[{ on := 13, ground := Ground.data }, { on := 11, ground := Ground.chain }], guard := none }) (v := ?_) rfl (by kernel_rfl) (by kernel_rfl) (by kernel_rfl) (fun _ _ _ h => h) (Or.inl ⟨by rfl, ?_⟩) (by assumption) ?_
  rotate_left
  · (intro w' hSw; (try dsimp only at hSw); obtain ⟨hS1, hS2⟩ := hSw; go_simp; try with_reducible rfl)
  try simp only [Act.put, List.setIfInBounds_toArray, List.set_cons_zero, List.set_cons_succ]
  refine wpAnyH_take (i := 15) (oi := { dst := some 66, op := Op.move (Operand.tmp 11), type := 4, pos := "ref.go:167", after := #[{ on := 14, ground := Ground.guard }, { on := 18, ground := Ground.gcOnly Departure.lateStores }], guard := some (14, true) }) (v := _) rfl (by kernel_rfl) (by kernel_rfl) (by kernel_rfl) (fun _ _ _ h => h) (Or.inr ⟨by rfl, rfl⟩) (by assumption) ?_
  try simp only [Act.put, List.setIfInBounds_toArray, List.set_cons_zero, List.set_cons_succ]
  refine wpAnyH_take (i := 16) (oi := { dst := some 67, op := Op.pick (Operand.tmp 65) (Operand.tmp 66) (Operand.const (Value.bool false)), type := 4, pos := "ref.go:167", after := #[{ on := 14, ground := Ground.data }, { on := 15, ground := Ground.data }, { on := 18, ground := Ground.gcOnly Departure.lateStores }], guard := none }) (v := ?_) rfl (by kernel_rfl) (by kernel_rfl) (by kernel_rfl) (fun _ _ _ h => h) (Or.inl ⟨by rfl, ?_⟩) (by assumption) ?_
  rotate_left
  · (intro w' hSw; (try dsimp only at hSw); obtain ⟨hS1, hS2⟩ := hSw; go_simp; try with_reducible rfl)
  try simp only [Act.put, List.setIfInBounds_toArray, List.set_cons_zero, List.set_cons_succ]
  refine wpAnyH_ready (rs := [17]) (by kernel_rfl) (by simp) ?_
  refine AllReadyH.cons (o := { dst := none, op := Op.store 50 (Operand.tmp 2) (Operand.tmp 57), type := 0, pos := "ref.go:167", after := #[{ on := 6, ground := Ground.data }, { on := 14, ground := Ground.chain }, { on := 0, ground := Ground.phase }, { on := 1, ground := Ground.phase }, { on := 2, ground := Ground.phase }, { on := 3, ground := Ground.phase }, { on := 4, ground := Ground.phase }, { on := 5, ground := Ground.phase }, { on := 6, ground := Ground.phase }, { on := 7, ground := Ground.textOnly Departure.lateStores }, { on := 8, ground := Ground.textOnly Departure.lateStores }, { on := 9, ground := Ground.textOnly Departure.lateStores }, { on := 10, ground := Ground.textOnly Departure.lateStores }, { on := 11, ground := Ground.textOnly Departure.lateStores }, { on := 12, ground := Ground.textOnly Departure.lateStores }, { on := 13, ground := Ground.textOnly Departure.lateStores }, { on := 14, ground := Ground.textOnly Departure.lateStores }, { on := 15, ground := Ground.textOnly Departure.lateStores }, { on := 16, ground := Ground.textOnly Departure.lateStores }], guard := none }) rfl (fun K hK => ?_) AllReadyH.nil
  refine step_store_blk rfl 50 (.tmp 2) (.tmp 57) rfl w.heap.size rfl [.string (tb a), .int .i64 0, .int .i64 x, .int .i64 y, .int .i64 q] rfl (HX.out.2.2.1.of_heap rfl) Tryd.sizeLt rfl (lc_one ⟨a, 0, x, y, q⟩) ?_
  intro w9 hst9
  have HX9 : Hid (Blk w9 w.heap.size (lc ⟨a, 0, x, y, q⟩) 50 ∧ Below w.heap.size w w9 ∧ w9.cell? ⟨g, o, none⟩ = some (.string (tb a)) ∧ w9.cell? ⟨g, o + 1, none⟩ = some (.string (tb b))) := Lib.hid ⟨hst9.1, hst9.below (below_same HX.out.2.2.2.1 rfl rfl rfl rfl) (Nat.le_refl _), hst9.cell HX.out.2.2.2.2 (HK.out _ rfl).1, hst9.cell HX.out.2.2.2.2 (HK.out _ rfl).2⟩
  clear hst9
  refine hK.out _ _ HX9.out.2.2 (fun _ => ?_)
  clear hK K hS0
  try simp only [Act.put, List.setIfInBounds_toArray, List.set_cons_zero, List.set_cons_succ]
  refine wpAnyH_take (i := 18) (oi := { dst := some 3, op := Op.assign (Operand.tmp 60), type := 9, pos := "ref.go:167", after := #[{ on := 9, ground := Ground.data }, { on := 17, ground := Ground.chain }, { on := 0, ground := Ground.phase }, { on := 1, ground := Ground.phase }, { on := 2, ground := Ground.phase }, { on := 3, ground := Ground.phase }, { on := 4, ground := Ground.phase }, { on := 5, ground := Ground.phase }, { on := 6, ground := Ground.phase }, { on := 7, ground := Ground.phase }, { on := 8, ground := Ground.phase }, { on := 9, ground := Ground.phase }, { on := 10, ground := Ground.textOnly Departure.lateStores }, { on := 11, ground := Ground.textOnly Departure.lateStores }, { on := 12, ground := Ground.textOnly Departure.lateStores }, { on := 13, ground := Ground.textOnly Departure.lateStores }, { on := 14, ground := Ground.textOnly Departure.lateStores }, { on := 15, ground := Ground.textOnly Departure.lateStores }, { on := 16, ground := Ground.textOnly Departure.lateStores }, { on := 17, ground := Ground.phase }], guard := none }) (v := ?_) rfl (by kernel_rfl) (by kernel_rfl) (by kernel_rfl) (fun _ _ _ h => h) (Or.inl ⟨by rfl, ?_⟩) (by assumption) ?_
  rotate_left
  · (intro w' hSw; (try dsimp only at hSw); obtain ⟨hS1, hS2⟩ := hSw; go_simp; try with_reducible rfl)
  try simp only [Act.put, List.setIfInBounds_toArray, List.set_cons_zero, List.set_cons_succ]
  refine wpAnyH_take (i := 19) (oi := { dst := some 4, op := Op.assign (Operand.tmp 67), type := 4, pos := "ref.go:167", after := #[{ on := 16, ground := Ground.data }, { on := 18, ground := Ground.chain }, { on := 0, ground := Ground.phase }, { on := 1, ground := Ground.phase }, { on := 2, ground := Ground.phase }, { on := 3, ground := Ground.phase }, { on := 4, ground := Ground.phase }, { on := 5, ground := Ground.phase }, { on := 6, ground := Ground.phase }, { on := 7, ground := Ground.phase }, { on := 8, ground := Ground.phase }, { on := 9, ground := Ground.phase }, { on := 10, ground := Ground.phase }, { on := 11, ground := Ground.phase }, { on := 12, ground := Ground.phase }, { on := 13, ground := Ground.phase }, { on := 14, ground := Ground.phase }, { on := 15, ground := Ground.phase }, { on := 16, ground := Ground.phase }, { on := 17, ground := Ground.phase }, { on := 18, ground := Ground.phase }], guard := none }) (v := ?_) rfl (by kernel_rfl) (by kernel_rfl) (by kernel_rfl) (fun _ _ _ h => h) (Or.inl ⟨by rfl, ?_⟩) (by assumption) ?_
  rotate_left
  · (intro w' hSw; (try dsimp only at hSw); obtain ⟨hS1, hS2⟩ := hSw; go_simp; try with_reducible rfl)
  try simp only [Act.put, List.setIfInBounds_toArray, List.set_cons_zero, List.set_cons_succ]
  refine wpAnyH_done (by kernel_rfl) ?_ _
  go_wp2_with fail
  rw [HL.out]
  have hV := HAB.out
  exact ret_blk3 rfl w.heap.size rfl _ _ rfl rfl HX9.out.1 _ Tryd.underlying50 rfl Tryd.sizeLt rfl (line_fin HAB.out.1 HAB.out.2 HQ.out.1 HQ.out.2.1 HQ.out.2.2 (by simp [k0]) HX9.out.2.1)
set_option maxRecDepth 100000 in
set_option maxHeartbeats 4000000 in
theorem rline_g1 (s : B) (hs : s.length ≤ 1000000) (a b c d f : B) (hp : splitC 32 s = [a, b, c, d, f]) (ha : a ≠ []) (hb : b ≠ []) (k0 : numOK c = true) (k1 : numOK d = false) (w : World) : Calls Tryd.prog 43 #[.string (tb s)] w (LinePost w (lineP s)) := by
  have HC : Hid (∀ W, Calls Tryd.prog 42 #[.string (tb s), .int .u8 32] W (SPost W [a, b, c, d, f])) := Lib.hid fun W => by have := cut_any s hs 32 W; rw [hp] at this; exact this
  have HL : Hid (lineP s = lineOf [a, b, c, d, f]) := Lib.hid (by unfold lineP; rw [hp])
  have HS : Hid (a.length ≤ maxLen ∧ b.length ≤ maxLen ∧ c.length ≤ maxLen ∧ d.length ≤ maxLen ∧ f.length ≤ maxLen) := Lib.hid (by
    have := splitC_part 32 s
    rw [hp] at this
    have h1 := this a (by simp)
    have h2 := this b (by simp)
    have h3 := this c (by simp)
    have h4 := this d (by simp)
    have h5 := this f (by simp)
    unfold maxLen
    refine ⟨?_, ?_, ?_, ?_, ?_⟩ <;> omega)
  have HD : Hid (∀ (t : B), t.length ≤ maxLen → ∀ W, Calls Tryd.prog 49 #[.string (tb t), .int .i64 6] W fun e w' => e = .returned (.tuple #[.int .i64 (numR t), .bool (numOK t)]) ∧ W = w') := Lib.hid fun t ht W => digits_any t ht W
  have hea := empty_no ha
  have heb := empty_no hb
  have HAB := Lib.hid (And.intro ha hb)
  clear hp ha hb
  go_enter Tryd.func43, Tryd.ntmps43
  go_wp2_with (first | ((with_reducible refine (HC.out _).mono ?_); rintro e w1 hp1; obtain ⟨A1, c1, n1, rfl, h1, h2, h3, h4, h5, hb1⟩ := s_out hp1; obtain rfl : n1 = 5 := h1; obtain ⟨g, o, rfl, HCE⟩ := tv_open h3 (by simp); have HX : Hid (Rd w1 (some ⟨g, o, none⟩) (tv [a, b, c, d, f]) ∧ True ∧ Blk w1 w.heap.size zl 50 ∧ Below w.heap.size w w1 ∧ g ≠ w.heap.size) := Lib.hid ⟨h3, trivial, (Blk.at w zl _ 50 _ rfl rfl).below hb1 (by simp), below_next (below_a1 w _) hb1, by have := (h2.lt g rfl).1; simp at this; omega⟩; clear hp1 h2 h3 hb1; have hc0 : w1.cell? ⟨g, o, none⟩ = some (.string (tb a)) := HCE 0 a (by simp) rfl; have hc1 : w1.cell? ⟨g, o + 1, none⟩ = some (.string (tb b)) := HCE 1 b (by simp) rfl; have hc2 : w1.cell? ⟨g, o + 2, none⟩ = some (.string (tb c)) := HCE 2 c (by simp) rfl; have hc3 : w1.cell? ⟨g, o + 3, none⟩ = some (.string (tb d)) := HCE 3 d (by simp) rfl; have hc4 : w1.cell? ⟨g, o + 4, none⟩ = some (.string (tb f)) := HCE 4 f (by simp) rfl; clear HCE) | ((with_reducible refine (HD.out c HS.out.2.2.1 _).mono ?_); rintro e w2 ⟨rfl, rfl⟩) | ((with_reducible refine (HD.out d HS.out.2.2.2.1 _).mono ?_); rintro e w2 ⟨rfl, rfl⟩) | ((with_reducible refine (HD.out f HS.out.2.2.2.2 _).mono ?_); rintro e w2 ⟨rfl, rfl⟩))
  have hbb := HX.out.2.2.1
  obtain ⟨x, hx⟩ : ∃ x, x = numR c := ⟨_, rfl⟩
  obtain ⟨y, hy⟩ : ∃ y, y = numR d := ⟨_, rfl⟩
  obtain ⟨q, hq⟩ : ∃ q, q = numR f := ⟨_, rfl⟩
  rw [← hx, ← hy, ← hq]
  have HQ := Lib.hid (And.intro hx (And.intro hy hq))
  clear hx hy hq hbb hc2 hc3 hc4
  have HK : Hid (∀ W : World, W.heap = w1.heap → W.cell? ⟨g, o, none⟩ = some (.string (tb a)) ∧ W.cell? ⟨g, o + 1, none⟩ = some (.string (tb b))) := Lib.hid fun W e => ⟨(cell_heap e _).trans hc0, (cell_heap e _).trans hc1⟩
  refine wp_region_held_drew (S := fun w' => w'.cell? ⟨g, o, none⟩ = some (.string (tb a)) ∧ w'.cell? ⟨g, o + 1, none⟩ = some (.string (tb b))) (by kernel_rfl) (HK.out _ rfl) (fun hS0 => ?_)
  refine wpAnyH_take (i := 0) (oi := { dst := some 51, op := Op.move (Operand.tmp 5), type := 26, pos := "ref.go:167", after := #[], guard := none }) (v := ?_) rfl (by kernel_rfl) (by kernel_rfl) (by kernel_rfl) (fun _ _ _ h => h) (Or.inl ⟨by rfl, ?_⟩) (by assumption) ?_
  rotate_left
  · (intro w' hSw; (try dsimp only at hSw); obtain ⟨hS1, hS2⟩ := hSw; go_simp; try with_reducible rfl)
  try simp only [Act.put, List.setIfInBounds_toArray, List.set_cons_zero, List.set_cons_succ]
  refine wpAnyH_take (i := 1) (oi := { dst := some 52, op := Op.indexAddr 26 (Operand.tmp 51) (Operand.const (Value.int IntKind.i64 0)), type := 0, pos := "ref.go:167", after := #[{ on := 0, ground := Ground.data }], guard := none }) (v := ?_) rfl (by kernel_rfl) (by kernel_rfl) (by kernel_rfl) (fun _ _ _ h => h) (Or.inl ⟨by rfl, ?_⟩) (by assumption) ?_
  rotate_left
  · (intro w' hSw; (try dsimp only at hSw); obtain ⟨hS1, hS2⟩ := hSw; go_simp; try with_reducible rfl)
  try simp only [Act.put, List.setIfInBounds_toArray, List.set_cons_zero, List.set_cons_succ]
  refine wpAnyH_take (i := 2) (oi := { dst := some 53, op := Op.load 9 (Operand.tmp 52), type := 9, pos := "ref.go:167", after := #[{ on := 1, ground := Ground.data }], guard := none }) (v := ?_) rfl (by kernel_rfl) (by kernel_rfl) (by kernel_rfl) (fun _ _ _ h => h) (Or.inl ⟨by rfl, ?_⟩) (by assumption) ?_
  rotate_left
  · (intro w' hSw; (try dsimp only at hSw); obtain ⟨hS1, hS2⟩ := hSw; go_simp; try with_reducible rfl)
  try simp only [Act.put, List.setIfInBounds_toArray, List.set_cons_zero, List.set_cons_succ]
  refine wpAnyH_take (i := 3) (oi := { dst := some 54, op := Op.move (Operand.tmp 6), type := 3, pos := "ref.go:167", after := #[], guard := none }) (v := ?_) rfl (by kernel_rfl) (by kernel_rfl) (by kernel_rfl) (fun _ _ _ h => h) (Or.inl ⟨by rfl, ?_⟩) (by assumption) ?_
  rotate_left
  · (intro w' hSw; (try dsimp only at hSw); obtain ⟨hS1, hS2⟩ := hSw; go_simp; try with_reducible rfl)
  try simp only [Act.put, List.setIfInBounds_toArray, List.set_cons_zero, List.set_cons_succ]
  refine wpAnyH_take (i := 4) (oi := { dst := some 55, op := Op.move (Operand.tmp 8), type := 3, pos := "ref.go:167", after := #[], guard := none }) (v := ?_) rfl (by kernel_rfl) (by kernel_rfl) (by kernel_rfl) (fun _ _ _ h => h) (Or.inl ⟨by rfl, ?_⟩) (by assumption) ?_
  rotate_left
  · (intro w' hSw; (try dsimp only at hSw); obtain ⟨hS1, hS2⟩ := hSw; go_simp; try with_reducible rfl)
  try simp only [Act.put, List.setIfInBounds_toArray, List.set_cons_zero, List.set_cons_succ]
  refine wpAnyH_take (i := 5) (oi := { dst := some 56, op := Op.move (Operand.tmp 10), type := 3, pos := "ref.go:167", after := #[], guard := none }) (v := ?_) rfl (by kernel_rfl) (by kernel_rfl) (by kernel_rfl) (fun _ _ _ h => h) (Or.inl ⟨by rfl, ?_⟩) (by assumption) ?_
  rotate_left
  · (intro w' hSw; (try dsimp only at hSw); obtain ⟨hS1, hS2⟩ := hSw; go_simp; try with_reducible rfl)
  try simp only [Act.put, List.setIfInBounds_toArray, List.set_cons_zero, List.set_cons_succ]
  refine wpAnyH_take (i := 6) (oi := { dst := some 57, op := Op.build 50 #[(0, Operand.tmp 53), (2, Operand.tmp 54), (3, Operand.tmp 55), (4, Operand.tmp 56)], type := 50, pos := "ref.go:167", after := #[{ on := 2, ground := Ground.data }, { on := 3, ground := Ground.data }, { on := 4, ground := Ground.data }, { on := 5, ground := Ground.data }], guard := none }) (v := ?_) rfl (by kernel_rfl) (by kernel_rfl) (by kernel_rfl) (fun _ _ _ h => h) (Or.inl ⟨by rfl, ?_⟩) (by assumption) ?_
  rotate_left
  · (intro w' hSw; (try dsimp only at hSw); obtain ⟨hS1, hS2⟩ := hSw; go_simp; try with_reducible rfl)
  try simp only [Act.put, List.setIfInBounds_toArray, List.set_cons_zero, List.set_cons_succ]
  refine wpAnyH_take (i := 7) (oi := { dst := some 58, op := Op.move (Operand.tmp 5), type := 26, pos := "ref.go:167", after := #[{ on := 17, ground := Ground.gcOnly Departure.lateStores }], guard := none }) (v := ?_) rfl (by kernel_rfl) (by kernel_rfl) (by kernel_rfl) (fun _ _ _ h => h) (Or.inl ⟨by rfl, ?_⟩) (by assumption) ?_
  rotate_left
  · (intro w' hSw; (try dsimp only at hSw); obtain ⟨hS1, hS2⟩ := hSw; go_simp; try with_reducible rfl)
  try simp only [Act.put, List.setIfInBounds_toArray, List.set_cons_zero, List.set_cons_succ]
  refine wpAnyH_take (i := 8) (oi := { dst := some 59, op := Op.indexAddr 26 (Operand.tmp 58) (Operand.const (Value.int IntKind.i64 1)), type := 0, pos := "ref.go:167", after := #[{ on := 7, ground := Ground.data }, { on := 17, ground := Ground.gcOnly Departure.lateStores }], guard := none }) (v := ?_) rfl (by kernel_rfl) (by kernel_rfl) (by kernel_rfl) (fun _ _ _ h => h) (Or.inl ⟨by rfl, ?_⟩) (by assumption) ?_
  rotate_left
  · (intro w' hSw; (try dsimp only at hSw); obtain ⟨hS1, hS2⟩ := hSw; go_simp; try with_reducible rfl)
  try simp only [Act.put, List.setIfInBounds_toArray, List.set_cons_zero, List.set_cons_succ]
  refine wpAnyH_take (i := 9) (oi := { dst := some 60, op := Op.load 9 (Operand.tmp 59), type := 9, pos := "ref.go:167", after := #[{ on := 8, ground := Ground.data }, { on := 17, ground := Ground.gcOnly Departure.lateStores }], guard := none }) (v := ?_) rfl (by kernel_rfl) (by kernel_rfl) (by kernel_rfl) (fun _ _ _ h => h) (Or.inl ⟨by rfl, ?_⟩) (by assumption) ?_
  rotate_left
  · (intro w' hSw; (try dsimp only at hSw); obtain ⟨hS1, hS2⟩ := hSw; go_simp; try with_reducible rfl)
  try simp only [Act.put, List.setIfInBounds_toArray, List.set_cons_zero, List.set_cons_succ]
  refine wpAnyH_take (i := 10) (oi := { dst := some 61, op := Op.move (Operand.tmp 7), type := 4, pos := "ref.go:167", after := #[], guard := none }) (v := ?_) rfl (by kernel_rfl) (by kernel_rfl) (by kernel_rfl) (fun _ _ _ h => h) (Or.inl ⟨by rfl, ?_⟩) (by assumption) ?_
  rotate_left
  · (intro w' hSw; (try dsimp only at hSw); obtain ⟨hS1, hS2⟩ := hSw; go_simp; try with_reducible rfl)
  try simp only [Act.put, List.setIfInBounds_toArray, List.set_cons_zero, List.set_cons_succ]
  refine wpAnyH_take (i := 11) (oi := { dst := some 62, op := Op.move (Operand.tmp 61), type := 4, pos := "ref.go:167", after := #[{ on := 10, ground := Ground.data }], guard := none }) (v := ?_) rfl (by kernel_rfl) (by kernel_rfl) (by kernel_rfl) (fun _ _ _ h => h) (Or.inl ⟨by rfl, ?_⟩) (by assumption) ?_
  rotate_left
  · (intro w' hSw; (try dsimp only at hSw); obtain ⟨hS1, hS2⟩ := hSw; go_simp; try with_reducible rfl)
  try simp only [Act.put, List.setIfInBounds_toArray, List.set_cons_zero, List.set_cons_succ]
  refine wpAnyH_take (i := 12) (oi := { dst := some 63, op := Op.move (Operand.tmp 9), type := 4, pos := "ref.go:167", after := #[{ on := 11, ground := Ground.guard }], guard := some (11, true) }) (v := ?_) rfl (by kernel_rfl) (by kernel_rfl) (by kernel_rfl) (fun _ _ _ h => h) (Or.inl ⟨by rfl, ?_⟩) (by assumption) ?_
  rotate_left
  · (intro w' hSw; (try dsimp only at hSw); obtain ⟨hS1, hS2⟩ := hSw; go_simp; try with_reducible rfl)
  try simp only [Act.put, List.setIfInBounds_toArray, List.set_cons_zero, List.set_cons_succ]
  refine wpAnyH_take (i := 13) (oi := { dst := some 64, op := Op.pick (Operand.tmp 62) (Operand.tmp 63) (Operand.const (Value.bool false)), type := 4, pos := "ref.go:167", after := #[{ on := 11, ground := Ground.data }, { on := 12, ground := Ground.data }], guard := none }) (v := ?_) rfl (by kernel_rfl) (by kernel_rfl) (by kernel_rfl) (fun _ _ _ h => h) (Or.inl ⟨by rfl, ?_⟩) (by assumption) ?_
  rotate_left
  · (intro w' hSw; (try dsimp only at hSw); obtain ⟨hS1, hS2⟩ := hSw; go_simp; try with_reducible rfl)
  try simp only [Act.put, List.setIfInBounds_toArray, List.set_cons_zero, List.set_cons_succ]
  refine wpAnyH_take (i := 14) (oi := { dst := some 65, op := Op.move (Operand.tmp 64), type := 4, pos := "ref.go:167", after := #[{ on := 13, ground := Ground.data }, { on := 11, ground := Ground.chain }], guard := none }) (v := ?_) rfl (by kernel_rfl) (by kernel_rfl) (by kernel_rfl) (fun _ _ _ h => h) (Or.inl ⟨by rfl, ?_⟩) (by assumption) ?_
  rotate_left
  · (intro w' hSw; (try dsimp only at hSw); obtain ⟨hS1, hS2⟩ := hSw; go_simp; try with_reducible rfl)
  try simp only [Act.put, List.setIfInBounds_toArray, List.set_cons_zero, List.set_cons_succ]
  refine wpAnyH_take (i := 15) (oi := { dst := some 66, op := Op.move (Operand.tmp 11), type := 4, pos := "ref.go:167", after := #[{ on := 14, ground := Ground.guard }, { on := 18, ground := Ground.gcOnly Departure.lateStores }], guard := some (14, true) }) (v := _) rfl (by kernel_rfl) (by kernel_rfl) (by kernel_rfl) (fun _ _ _ h => h) (Or.inr ⟨by rfl, rfl⟩) (by assumption) ?_
  try simp only [Act.put, List.setIfInBounds_toArray, List.set_cons_zero, List.set_cons_succ]
  refine wpAnyH_take (i := 16) (oi := { dst := some 67, op := Op.pick (Operand.tmp 65) (Operand.tmp 66) (Operand.const (Value.bool false)), type := 4, pos := "ref.go:167", after := #[{ on := 14, ground := Ground.data }, { on := 15, ground := Ground.data }, { on := 18, ground := Ground.gcOnly Departure.lateStores }], guard := none }) (v := ?_) rfl (by kernel_rfl) (by kernel_rfl) (by kernel_rfl) (fun _ _ _ h => h) (Or.inl ⟨by rfl, ?_⟩) (by assumption) ?_
  rotate_left
  · (intro w' hSw; (try dsimp only at hSw); obtain ⟨hS1, hS2⟩ := hSw; go_simp; try with_reducible rfl)
  try simp only [Act.put, List.setIfInBounds_toArray, List.set_cons_zero, List.set_cons_succ]
  refine wpAnyH_ready (rs := [17]) (by kernel_rfl) (by simp) ?_
  refine AllReadyH.cons (o := { dst := none, op := Op.store 50 (Operand.tmp 2) (Operand.tmp 57), type := 0, pos := "ref.go:167", after := #[{ on := 6, ground := Ground.data }, { on := 14, ground := Ground.chain }, { on := 0, ground := Ground.phase }, { on := 1, ground := Ground.phase }, { on := 2, ground := Ground.phase }, { on := 3, ground := Ground.phase }, { on := 4, ground := Ground.phase }, { on := 5, ground := Ground.phase }, { on := 6, ground := Ground.phase }, { on := 7, ground := Ground.textOnly Departure.lateStores }, { on := 8, ground := Ground.textOnly Departure.lateStores }, { on := 9, ground := Ground.textOnly Departure.lateStores }, { on := 10, ground := Ground.textOnly Departure.lateStores }, { on := 11, ground := Ground.textOnly Departure.lateStores }, { on := 12, ground := Ground.textOnly Departure.lateStores }, { on := 13, ground := Ground.textOnly Departure.lateStores }, { on := 14, ground := Ground.textOnly Departure.lateStores }, { on := 15, ground := Ground.textOnly Departure.lateStores }, { on := 16, ground := Ground.textOnly Departure.lateStores }], guard := none }) rfl (fun K hK => ?_) AllReadyH.nil
  refine step_store_blk rfl 50 (.tmp 2) (.tmp 57) rfl w.heap.size rfl [.string (tb a), .int .i64 0, .int .i64 x, .int .i64 y, .int .i64 q] rfl (HX.out.2.2.1.of_heap rfl) Tryd.sizeLt rfl (lc_one ⟨a, 0, x, y, q⟩) ?_
  intro w9 hst9
  have HX9 : Hid (Blk w9 w.heap.size (lc ⟨a, 0, x, y, q⟩) 50 ∧ Below w.heap.size w w9 ∧ w9.cell? ⟨g, o, none⟩ = some (.string (tb a)) ∧ w9.cell? ⟨g, o + 1, none⟩ = some (.string (tb b))) := Lib.hid ⟨hst9.1, hst9.below (below_same HX.out.2.2.2.1 rfl rfl rfl rfl) (Nat.le_refl _), hst9.cell HX.out.2.2.2.2 (HK.out _ rfl).1, hst9.cell HX.out.2.2.2.2 (HK.out _ rfl).2⟩
  clear hst9
  refine hK.out _ _ HX9.out.2.2 (fun _ => ?_)
  clear hK K hS0
  try simp only [Act.put, List.setIfInBounds_toArray, List.set_cons_zero, List.set_cons_succ]
  refine wpAnyH_take (i := 18) (oi := { dst := some 3, op := Op.assign (Operand.tmp 60), type := 9, pos := "ref.go:167", after := #[{ on := 9, ground := Ground.data }, { on := 17, ground := Ground.chain }, { on := 0, ground := Ground.phase }, { on := 1, ground := Ground.phase }, { on := 2, ground := Ground.phase }, { on := 3, ground := Ground.phase }, { on := 4, ground := Ground.phase }, { on := 5, ground := Ground.phase }, { on := 6, ground := Ground.phase }, { on := 7, ground := Ground.phase }, { on := 8, ground := Ground.phase }, { on := 9, ground := Ground.phase }, { on := 10, ground := Ground.textOnly Departure.lateStores }, { on := 11, ground := Ground.textOnly Departure.lateStores }, { on := 12, ground := Ground.textOnly Departure.lateStores }, { on := 13, ground := Ground.textOnly Departure.lateStores }, { on := 14, ground := Ground.textOnly Departure.lateStores }, { on := 15, ground := Ground.textOnly Departure.lateStores }, { on := 16, ground := Ground.textOnly Departure.lateStores }, { on := 17, ground := Ground.phase }], guard := none }) (v := ?_) rfl (by kernel_rfl) (by kernel_rfl) (by kernel_rfl) (fun _ _ _ h => h) (Or.inl ⟨by rfl, ?_⟩) (by assumption) ?_
  rotate_left
  · (intro w' hSw; (try dsimp only at hSw); obtain ⟨hS1, hS2⟩ := hSw; go_simp; try with_reducible rfl)
  try simp only [Act.put, List.setIfInBounds_toArray, List.set_cons_zero, List.set_cons_succ]
  refine wpAnyH_take (i := 19) (oi := { dst := some 4, op := Op.assign (Operand.tmp 67), type := 4, pos := "ref.go:167", after := #[{ on := 16, ground := Ground.data }, { on := 18, ground := Ground.chain }, { on := 0, ground := Ground.phase }, { on := 1, ground := Ground.phase }, { on := 2, ground := Ground.phase }, { on := 3, ground := Ground.phase }, { on := 4, ground := Ground.phase }, { on := 5, ground := Ground.phase }, { on := 6, ground := Ground.phase }, { on := 7, ground := Ground.phase }, { on := 8, ground := Ground.phase }, { on := 9, ground := Ground.phase }, { on := 10, ground := Ground.phase }, { on := 11, ground := Ground.phase }, { on := 12, ground := Ground.phase }, { on := 13, ground := Ground.phase }, { on := 14, ground := Ground.phase }, { on := 15, ground := Ground.phase }, { on := 16, ground := Ground.phase }, { on := 17, ground := Ground.phase }, { on := 18, ground := Ground.phase }], guard := none }) (v := ?_) rfl (by kernel_rfl) (by kernel_rfl) (by kernel_rfl) (fun _ _ _ h => h) (Or.inl ⟨by rfl, ?_⟩) (by assumption) ?_
  rotate_left
  · (intro w' hSw; (try dsimp only at hSw); obtain ⟨hS1, hS2⟩ := hSw; go_simp; try with_reducible rfl)
  try simp only [Act.put, List.setIfInBounds_toArray, List.set_cons_zero, List.set_cons_succ]
  refine wpAnyH_done (by kernel_rfl) ?_ _
  go_wp2_with fail
  rw [HL.out]
  have hV := HAB.out
  exact ret_blk3 rfl w.heap.size rfl _ _ rfl rfl HX9.out.1 _ Tryd.underlying50 rfl Tryd.sizeLt rfl (line_fin HAB.out.1 HAB.out.2 HQ.out.1 HQ.out.2.1 HQ.out.2.2 (by simp [k0, k1]) HX9.out.2.1)
set_option maxRecDepth 100000 in
set_option maxHeartbeats 4000000 in
theorem rline_g2 (s : B) (hs : s.length ≤ 1000000) (a b c d f : B) (hp : splitC 32 s = [a, b, c, d, f]) (ha : a ≠ []) (hb : b ≠ []) (k0 : numOK c = true) (k1 : numOK d = true) (w : World) : Calls Tryd.prog 43 #[.string (tb s)] w (LinePost w (lineP s)) := by
  have HC : Hid (∀ W, Calls Tryd.prog 42 #[.string (tb s), .int .u8 32] W (SPost W [a, b, c, d, f])) := Lib.hid fun W => by have := cut_any s hs 32 W; rw [hp] at this; exact this
  have HL : Hid (lineP s = lineOf [a, b, c, d, f]) := Lib.hid (by unfold lineP; rw [hp])
  have HS : Hid (a.length ≤ maxLen ∧ b.length ≤ maxLen ∧ c.length ≤ maxLen ∧ d.length ≤ maxLen ∧ f.length ≤ maxLen) := Lib.hid (by
    have := splitC_part 32 s
    rw [hp] at this
    have h1 := this a (by simp)
    have h2 := this b (by simp)
    have h3 := this c (by simp)
    have h4 := this d (by simp)
    have h5 := this f (by simp)
    unfold maxLen
    refine ⟨?_, ?_, ?_, ?_, ?_⟩ <;> omega)
  have HD : Hid (∀ (t : B), t.length ≤ maxLen → ∀ W, Calls Tryd.prog 49 #[.string (tb t), .int .i64 6] W fun e w' => e = .returned (.tuple #[.int .i64 (numR t), .bool (numOK t)]) ∧ W = w') := Lib.hid fun t ht W => digits_any t ht W
  have hea := empty_no ha
  have heb := empty_no hb
  have HAB := Lib.hid (And.intro ha hb)
  clear hp ha hb
  go_enter Tryd.func43, Tryd.ntmps43
  go_wp2_with (first | ((with_reducible refine (HC.out _).mono ?_); rintro e w1 hp1; obtain ⟨A1, c1, n1, rfl, h1, h2, h3, h4, h5, hb1⟩ := s_out hp1; obtain rfl : n1 = 5 := h1; obtain ⟨g, o, rfl, HCE⟩ := tv_open h3 (by simp); have HX : Hid (Rd w1 (some ⟨g, o, none⟩) (tv [a, b, c, d, f]) ∧ True ∧ Blk w1 w.heap.size zl 50 ∧ Below w.heap.size w w1 ∧ g ≠ w.heap.size) := Lib.hid ⟨h3, trivial, (Blk.at w zl _ 50 _ rfl rfl).below hb1 (by simp), below_next (below_a1 w _) hb1, by have := (h2.lt g rfl).1; simp at this; omega⟩; clear hp1 h2 h3 hb1; have hc0 : w1.cell? ⟨g, o, none⟩ = some (.string (tb a)) := HCE 0 a (by simp) rfl; have hc1 : w1.cell? ⟨g, o + 1, none⟩ = some (.string (tb b)) := HCE 1 b (by simp) rfl; have hc2 : w1.cell? ⟨g, o + 2, none⟩ = some (.string (tb c)) := HCE 2 c (by simp) rfl; have hc3 : w1.cell? ⟨g, o + 3, none⟩ = some (.string (tb d)) := HCE 3 d (by simp) rfl; have hc4 : w1.cell? ⟨g, o + 4, none⟩ = some (.string (tb f)) := HCE 4 f (by simp) rfl; clear HCE) | ((with_reducible refine (HD.out c HS.out.2.2.1 _).mono ?_); rintro e w2 ⟨rfl, rfl⟩) | ((with_reducible refine (HD.out d HS.out.2.2.2.1 _).mono ?_); rintro e w2 ⟨rfl, rfl⟩) | ((with_reducible refine (HD.out f HS.out.2.2.2.2 _).mono ?_); rintro e w2 ⟨rfl, rfl⟩))
  have hbb := HX.out.2.2.1
  obtain ⟨x, hx⟩ : ∃ x, x = numR c := ⟨_, rfl⟩
  obtain ⟨y, hy⟩ : ∃ y, y = numR d := ⟨_, rfl⟩
  obtain ⟨q, hq⟩ : ∃ q, q = numR f := ⟨_, rfl⟩
  rw [← hx, ← hy, ← hq]
  have HQ := Lib.hid (And.intro hx (And.intro hy hq))
  clear hx hy hq hbb hc2 hc3 hc4
  have HK : Hid (∀ W : World, W.heap = w1.heap → W.cell? ⟨g, o, none⟩ = some (.string (tb a)) ∧ W.cell? ⟨g, o + 1, none⟩ = some (.string (tb b))) := Lib.hid fun W e => ⟨(cell_heap e _).trans hc0, (cell_heap e _).trans hc1⟩
  refine wp_region_held_drew (S := fun w' => w'.cell? ⟨g, o, none⟩ = some (.string (tb a)) ∧ w'.cell? ⟨g, o + 1, none⟩ = some (.string (tb b))) (by kernel_rfl) (HK.out _ rfl) (fun hS0 => ?_)
  refine wpAnyH_take (i := 0) (oi := { dst := some 51, op := Op.move (Operand.tmp 5), type := 26, pos := "ref.go:167", after := #[], guard := none }) (v := ?_) rfl (by kernel_rfl) (by kernel_rfl) (by kernel_rfl) (fun _ _ _ h => h) (Or.inl ⟨by rfl, ?_⟩) (by assumption) ?_
  rotate_left
  · (intro w' hSw; (try dsimp only at hSw); obtain ⟨hS1, hS2⟩ := hSw; go_simp; try with_reducible rfl)
  try simp only [Act.put, List.setIfInBounds_toArray, List.set_cons_zero, List.set_cons_succ]
  refine wpAnyH_take (i := 1) (oi := { dst := some 52, op := Op.indexAddr 26 (Operand.tmp 51) (Operand.const (Value.int IntKind.i64 0)), type := 0, pos := "ref.go:167", after := #[{ on := 0, ground := Ground.data }], guard := none }) (v := ?_) rfl (by kernel_rfl) (by kernel_rfl) (by kernel_rfl) (fun _ _ _ h => h) (Or.inl ⟨by rfl, ?_⟩) (by assumption) ?_
  rotate_left
  · (intro w' hSw; (try dsimp only at hSw); obtain ⟨hS1, hS2⟩ := hSw; go_simp; try with_reducible rfl)
  try simp only [Act.put, List.setIfInBounds_toArray, List.set_cons_zero, List.set_cons_succ]
  refine wpAnyH_take (i := 2) (oi := { dst := some 53, op := Op.load 9 (Operand.tmp 52), type := 9, pos := "ref.go:167", after := #[{ on := 1, ground := Ground.data }], guard := none }) (v := ?_) rfl (by kernel_rfl) (by kernel_rfl) (by kernel_rfl) (fun _ _ _ h => h) (Or.inl ⟨by rfl, ?_⟩) (by assumption) ?_
  rotate_left
  · (intro w' hSw; (try dsimp only at hSw); obtain ⟨hS1, hS2⟩ := hSw; go_simp; try with_reducible rfl)
  try simp only [Act.put, List.setIfInBounds_toArray, List.set_cons_zero, List.set_cons_succ]
  refine wpAnyH_take (i := 3) (oi := { dst := some 54, op := Op.move (Operand.tmp 6), type := 3, pos := "ref.go:167", after := #[], guard := none }) (v := ?_) rfl (by kernel_rfl) (by kernel_rfl) (by kernel_rfl) (fun _ _ _ h => h) (Or.inl ⟨by rfl, ?_⟩) (by assumption) ?_
  rotate_left
  · (intro w' hSw; (try dsimp only at hSw); obtain ⟨hS1, hS2⟩ := hSw; go_simp; try with_reducible rfl)
  try simp only [Act.put, List.setIfInBounds_toArray, List.set_cons_zero, List.set_cons_succ]
  refine wpAnyH_take (i := 4) (oi := { dst := some 55, op := Op.move (Operand.tmp 8), type := 3, pos := "ref.go:167", after := #[], guard := none }) (v := ?_) rfl (by kernel_rfl) (by kernel_rfl) (by kernel_rfl) (fun _ _ _ h => h) (Or.inl ⟨by rfl, ?_⟩) (by assumption) ?_
  rotate_left
  · (intro w' hSw; (try dsimp only at hSw); obtain ⟨hS1, hS2⟩ := hSw; go_simp; try with_reducible rfl)
  try simp only [Act.put, List.setIfInBounds_toArray, List.set_cons_zero, List.set_cons_succ]
  refine wpAnyH_take (i := 5) (oi := { dst := some 56, op := Op.move (Operand.tmp 10), type := 3, pos := "ref.go:167", after := #[], guard := none }) (v := ?_) rfl (by kernel_rfl) (by kernel_rfl) (by kernel_rfl) (fun _ _ _ h => h) (Or.inl ⟨by rfl, ?_⟩) (by assumption) ?_
  rotate_left
  · (intro w' hSw; (try dsimp only at hSw); obtain ⟨hS1, hS2⟩ := hSw; go_simp; try with_reducible rfl)
  try simp only [Act.put, List.setIfInBounds_toArray, List.set_cons_zero, List.set_cons_succ]
  refine wpAnyH_take (i := 6) (oi := { dst := some 57, op := Op.build 50 #[(0, Operand.tmp 53), (2, Operand.tmp 54), (3, Operand.tmp 55), (4, Operand.tmp 56)], type := 50, pos := "ref.go:167", after := #[{ on := 2, ground := Ground.data }, { on := 3, ground := Ground.data }, { on := 4, ground := Ground.data }, { on := 5, ground := Ground.data }], guard := none }) (v := ?_) rfl (by kernel_rfl) (by kernel_rfl) (by kernel_rfl) (fun _ _ _ h => h) (Or.inl ⟨by rfl, ?_⟩) (by assumption) ?_
  rotate_left
  · (intro w' hSw; (try dsimp only at hSw); obtain ⟨hS1, hS2⟩ := hSw; go_simp; try with_reducible rfl)
  try simp only [Act.put, List.setIfInBounds_toArray, List.set_cons_zero, List.set_cons_succ]
  refine wpAnyH_take (i := 7) (oi := { dst := some 58, op := Op.move (Operand.tmp 5), type := 26, pos := "ref.go:167", after := #[{ on := 17, ground := Ground.gcOnly Departure.lateStores }], guard := none }) (v := ?_) rfl (by kernel_rfl) (by kernel_rfl) (by kernel_rfl) (fun _ _ _ h => h) (Or.inl ⟨by rfl, ?_⟩) (by assumption) ?_
  rotate_left
  · (intro w' hSw; (try dsimp only at hSw); obtain ⟨hS1, hS2⟩ := hSw; go_simp; try with_reducible rfl)
  try simp only [Act.put, List.setIfInBounds_toArray, List.set_cons_zero, List.set_cons_succ]
  refine wpAnyH_take (i := 8) (oi := { dst := some 59, op := Op.indexAddr 26 (Operand.tmp 58) (Operand.const (Value.int IntKind.i64 1)), type := 0, pos := "ref.go:167", after := #[{ on := 7, ground := Ground.data }, { on := 17, ground := Ground.gcOnly Departure.lateStores }], guard := none }) (v := ?_) rfl (by kernel_rfl) (by kernel_rfl) (by kernel_rfl) (fun _ _ _ h => h) (Or.inl ⟨by rfl, ?_⟩) (by assumption) ?_
  rotate_left
  · (intro w' hSw; (try dsimp only at hSw); obtain ⟨hS1, hS2⟩ := hSw; go_simp; try with_reducible rfl)
  try simp only [Act.put, List.setIfInBounds_toArray, List.set_cons_zero, List.set_cons_succ]
  refine wpAnyH_take (i := 9) (oi := { dst := some 60, op := Op.load 9 (Operand.tmp 59), type := 9, pos := "ref.go:167", after := #[{ on := 8, ground := Ground.data }, { on := 17, ground := Ground.gcOnly Departure.lateStores }], guard := none }) (v := ?_) rfl (by kernel_rfl) (by kernel_rfl) (by kernel_rfl) (fun _ _ _ h => h) (Or.inl ⟨by rfl, ?_⟩) (by assumption) ?_
  rotate_left
  · (intro w' hSw; (try dsimp only at hSw); obtain ⟨hS1, hS2⟩ := hSw; go_simp; try with_reducible rfl)
  try simp only [Act.put, List.setIfInBounds_toArray, List.set_cons_zero, List.set_cons_succ]
  refine wpAnyH_take (i := 10) (oi := { dst := some 61, op := Op.move (Operand.tmp 7), type := 4, pos := "ref.go:167", after := #[], guard := none }) (v := ?_) rfl (by kernel_rfl) (by kernel_rfl) (by kernel_rfl) (fun _ _ _ h => h) (Or.inl ⟨by rfl, ?_⟩) (by assumption) ?_
  rotate_left
  · (intro w' hSw; (try dsimp only at hSw); obtain ⟨hS1, hS2⟩ := hSw; go_simp; try with_reducible rfl)
  try simp only [Act.put, List.setIfInBounds_toArray, List.set_cons_zero, List.set_cons_succ]
  refine wpAnyH_take (i := 11) (oi := { dst := some 62, op := Op.move (Operand.tmp 61), type := 4, pos := "ref.go:167", after := #[{ on := 10, ground := Ground.data }], guard := none }) (v := ?_) rfl (by kernel_rfl) (by kernel_rfl) (by kernel_rfl) (fun _ _ _ h => h) (Or.inl ⟨by rfl, ?_⟩) (by assumption) ?_
  rotate_left
  · (intro w' hSw; (try dsimp only at hSw); obtain ⟨hS1, hS2⟩ := hSw; go_simp; try with_reducible rfl)
  try simp only [Act.put, List.setIfInBounds_toArray, List.set_cons_zero, List.set_cons_succ]
  refine wpAnyH_take (i := 12) (oi := { dst := some 63, op := Op.move (Operand.tmp 9), type := 4, pos := "ref.go:167", after := #[{ on := 11, ground := Ground.guard }], guard := some (11, true) }) (v := ?_) rfl (by kernel_rfl) (by kernel_rfl) (by kernel_rfl) (fun _ _ _ h => h) (Or.inl ⟨by rfl, ?_⟩) (by assumption) ?_
  rotate_left
  · (intro w' hSw; (try dsimp only at hSw); obtain ⟨hS1, hS2⟩ := hSw; go_simp; try with_reducible rfl)
  try simp only [Act.put, List.setIfInBounds_toArray, List.set_cons_zero, List.set_cons_succ]
  refine wpAnyH_take (i := 13) (oi := { dst := some 64, op := Op.pick (Operand.tmp 62) (Operand.tmp 63) (Operand.const (Value.bool false)), type := 4, pos := "ref.go:167", after := #[{ on := 11, ground := Ground.data }, { on := 12, ground := Ground.data }], guard := none }) (v := ?_) rfl (by kernel_rfl) (by kernel_rfl) (by kernel_rfl) (fun _ _ _ h => h) (Or.inl ⟨by rfl, ?_⟩) (by assumption) ?_
  rotate_left
  · (intro w' hSw; (try dsimp only at hSw); obtain ⟨hS1, hS2⟩ := hSw; go_simp; try with_reducible rfl)
  try simp only [Act.put, List.setIfInBounds_toArray, List.set_cons_zero, List.set_cons_succ]
  refine wpAnyH_take (i := 14) (oi := { dst := some 65, op := Op.move (Operand.tmp 64), type := 4, pos := "ref.go:167", after := #[{ on := 13, ground := Ground.data }, { on := 11, ground := Ground.chain }], guard := none }) (v := ?_) rfl (by kernel_rfl) (by kernel_rfl) (by kernel_rfl) (fun _ _ _ h => h) (Or.inl ⟨by rfl, ?_⟩) (by assumption) ?_
  rotate_left
  · (intro w' hSw; (try dsimp only at hSw); obtain ⟨hS1, hS2⟩ := hSw; go_simp; try with_reducible rfl)
  try simp only [Act.put, List.setIfInBounds_toArray, List.set_cons_zero, List.set_cons_succ]
  refine wpAnyH_take (i := 15) (oi := { dst := some 66, op := Op.move (Operand.tmp 11), type := 4, pos := "ref.go:167", after := #[{ on := 14, ground := Ground.guard }, { on := 18, ground := Ground.gcOnly Departure.lateStores }], guard := some (14, true) }) (v := ?_) rfl (by kernel_rfl) (by kernel_rfl) (by kernel_rfl) (fun _ _ _ h => h) (Or.inl ⟨by rfl, ?_⟩) (by assumption) ?_
  rotate_left
  · (intro w' hSw; (try dsimp only at hSw); obtain ⟨hS1, hS2⟩ := hSw; go_simp; try with_reducible rfl)
  try simp only [Act.put, List.setIfInBounds_toArray, List.set_cons_zero, List.set_cons_succ]
  refine wpAnyH_take (i := 16) (oi := { dst := some 67, op := Op.pick (Operand.tmp 65) (Operand.tmp 66) (Operand.const (Value.bool false)), type := 4, pos := "ref.go:167", after := #[{ on := 14, ground := Ground.data }, { on := 15, ground := Ground.data }, { on := 18, ground := Ground.gcOnly Departure.lateStores }], guard := none }) (v := ?_) rfl (by kernel_rfl) (by kernel_rfl) (by kernel_rfl) (fun _ _ _ h => h) (Or.inl ⟨by rfl, ?_⟩) (by assumption) ?_
  rotate_left
  · (intro w' hSw; (try dsimp only at hSw); obtain ⟨hS1, hS2⟩ := hSw; go_simp; try with_reducible rfl)
  try simp only [Act.put, List.setIfInBounds_toArray, List.set_cons_zero, List.set_cons_succ]
  refine wpAnyH_ready (rs := [17]) (by kernel_rfl) (by simp) ?_
  refine AllReadyH.cons (o := { dst := none, op := Op.store 50 (Operand.tmp 2) (Operand.tmp 57), type := 0, pos := "ref.go:167", after := #[{ on := 6, ground := Ground.data }, { on := 14, ground := Ground.chain }, { on := 0, ground := Ground.phase }, { on := 1, ground := Ground.phase }, { on := 2, ground := Ground.phase }, { on := 3, ground := Ground.phase }, { on := 4, ground := Ground.phase }, { on := 5, ground := Ground.phase }, { on := 6, ground := Ground.phase }, { on := 7, ground := Ground.textOnly Departure.lateStores }, { on := 8, ground := Ground.textOnly Departure.lateStores }, { on := 9, ground := Ground.textOnly Departure.lateStores }, { on := 10, ground := Ground.textOnly Departure.lateStores }, { on := 11, ground := Ground.textOnly Departure.lateStores }, { on := 12, ground := Ground.textOnly Departure.lateStores }, { on := 13, ground := Ground.textOnly Departure.lateStores }, { on := 14, ground := Ground.textOnly Departure.lateStores }, { on := 15, ground := Ground.textOnly Departure.lateStores }, { on := 16, ground := Ground.textOnly Departure.lateStores }], guard := none }) rfl (fun K hK => ?_) AllReadyH.nil
  refine step_store_blk rfl 50 (.tmp 2) (.tmp 57) rfl w.heap.size rfl [.string (tb a), .int .i64 0, .int .i64 x, .int .i64 y, .int .i64 q] rfl (HX.out.2.2.1.of_heap rfl) Tryd.sizeLt rfl (lc_one ⟨a, 0, x, y, q⟩) ?_
  intro w9 hst9
  have HX9 : Hid (Blk w9 w.heap.size (lc ⟨a, 0, x, y, q⟩) 50 ∧ Below w.heap.size w w9 ∧ w9.cell? ⟨g, o, none⟩ = some (.string (tb a)) ∧ w9.cell? ⟨g, o + 1, none⟩ = some (.string (tb b))) := Lib.hid ⟨hst9.1, hst9.below (below_same HX.out.2.2.2.1 rfl rfl rfl rfl) (Nat.le_refl _), hst9.cell HX.out.2.2.2.2 (HK.out _ rfl).1, hst9.cell HX.out.2.2.2.2 (HK.out _ rfl).2⟩
  clear hst9
  refine hK.out _ _ HX9.out.2.2 (fun _ => ?_)
  clear hK K hS0
  try simp only [Act.put, List.setIfInBounds_toArray, List.set_cons_zero, List.set_cons_succ]
  refine wpAnyH_take (i := 18) (oi := { dst := some 3, op := Op.assign (Operand.tmp 60), type := 9, pos := "ref.go:167", after := #[{ on := 9, ground := Ground.data }, { on := 17, ground := Ground.chain }, { on := 0, ground := Ground.phase }, { on := 1, ground := Ground.phase }, { on := 2, ground := Ground.phase }, { on := 3, ground := Ground.phase }, { on := 4, ground := Ground.phase }, { on := 5, ground := Ground.phase }, { on := 6, ground := Ground.phase }, { on := 7, ground := Ground.phase }, { on := 8, ground := Ground.phase }, { on := 9, ground := Ground.phase }, { on := 10, ground := Ground.textOnly Departure.lateStores }, { on := 11, ground := Ground.textOnly Departure.lateStores }, { on := 12, ground := Ground.textOnly Departure.lateStores }, { on := 13, ground := Ground.textOnly Departure.lateStores }, { on := 14, ground := Ground.textOnly Departure.lateStores }, { on := 15, ground := Ground.textOnly Departure.lateStores }, { on := 16, ground := Ground.textOnly Departure.lateStores }, { on := 17, ground := Ground.phase }], guard := none }) (v := ?_) rfl (by kernel_rfl) (by kernel_rfl) (by kernel_rfl) (fun _ _ _ h => h) (Or.inl ⟨by rfl, ?_⟩) (by assumption) ?_
  rotate_left
  · (intro w' hSw; (try dsimp only at hSw); obtain ⟨hS1, hS2⟩ := hSw; go_simp; try with_reducible rfl)
  try simp only [Act.put, List.setIfInBounds_toArray, List.set_cons_zero, List.set_cons_succ]
  refine wpAnyH_take (i := 19) (oi := { dst := some 4, op := Op.assign (Operand.tmp 67), type := 4, pos := "ref.go:167", after := #[{ on := 16, ground := Ground.data }, { on := 18, ground := Ground.chain }, { on := 0, ground := Ground.phase }, { on := 1, ground := Ground.phase }, { on := 2, ground := Ground.phase }, { on := 3, ground := Ground.phase }, { on := 4, ground := Ground.phase }, { on := 5, ground := Ground.phase }, { on := 6, ground := Ground.phase }, { on := 7, ground := Ground.phase }, { on := 8, ground := Ground.phase }, { on := 9, ground := Ground.phase }, { on := 10, ground := Ground.phase }, { on := 11, ground := Ground.phase }, { on := 12, ground := Ground.phase }, { on := 13, ground := Ground.phase }, { on := 14, ground := Ground.phase }, { on := 15, ground := Ground.phase }, { on := 16, ground := Ground.phase }, { on := 17, ground := Ground.phase }, { on := 18, ground := Ground.phase }], guard := none }) (v := ?_) rfl (by kernel_rfl) (by kernel_rfl) (by kernel_rfl) (fun _ _ _ h => h) (Or.inl ⟨by rfl, ?_⟩) (by assumption) ?_
  rotate_left
  · (intro w' hSw; (try dsimp only at hSw); obtain ⟨hS1, hS2⟩ := hSw; go_simp; try with_reducible rfl)
  try simp only [Act.put, List.setIfInBounds_toArray, List.set_cons_zero, List.set_cons_succ]
  refine wpAnyH_done (by kernel_rfl) ?_ _
  go_wp2_with fail
  rw [HL.out]
  have hV := HAB.out
  exact ret_blk3 rfl w.heap.size rfl _ _ rfl rfl HX9.out.1 _ Tryd.underlying50 rfl Tryd.sizeLt rfl (line_fin HAB.out.1 HAB.out.2 HQ.out.1 HQ.out.2.1 HQ.out.2.2 (by simp [k0, k1]) HX9.out.2.1)
theorem rline_any (s : B) (hs : s.length ≤ 1000000) (w : World) : Calls Tryd.prog 43 #[.string (tb s)] w (LinePost w (lineP s)) := by
  by_cases hl : (splitC 32 s).length = 5
  · obtain ⟨a, b, c, d, f, hp⟩ := five_of hl
    by_cases ha : a = []
    · exact rline_e0 s hs a b c d f hp ha w
    · by_cases hb : b = []
      · exact rline_e1 s hs a b c d f hp ha hb w
      · cases k0 : numOK c
        · exact rline_g0 s hs a b c d f hp ha hb k0 w
        · cases k1 : numOK d
          · exact rline_g1 s hs a b c d f hp ha hb k0 k1 w
          · exact rline_g2 s hs a b c d f hp ha hb k0 k1 w
  · exact rline_len s hs _ rfl hl w
end Go.Proofs.YtolkmjgklgimpaaDoor
