/-
  What layer 5's texts on lines and writing have of tools, for a seat without them.
-/
import Derived.Test.YtalladdmedmfeaaALet
namespace Go.Proofs.Ytalladdmedmfeaa
open Go.RowKit
open Alp
set_option linter.unusedVariables false
set_option linter.unusedSimpArgs false

theorem step_store_blk {P : Program} {w : World} {ops : Array Oper} {o : Oper} {a : Act} {K : Act → World → Prop} {Q : Exit → Act → World → Prop} {E : Prop} (hgd : o.guard = none) (ty : TypeId) (x y : Operand) (ho : o.op = .store ty x y)
    (g : Nat) (hx : a.eval x = .pointer (some ⟨g, 0, none⟩)) (D : List Value) (hy : a.eval y = .agg D.toArray) {C : List Value} {T : TypeId} (hb : Blk w g C T) (hi : (P.info? ty).map (·.size) = some D.length) (hD : D.length = C.length) (h1 : ∀ u ∈ D, u.oneCell' = true)
    (h : ∀ w1, Stored w w1 g D T → K (a.put o.dst undef) w1) : if Region.wanted o (yielded ops a.tmps) = true then Oper.wp P o a w K Q else E := by
  rw [if_pos (by simp [Region.wanted, hgd])]
  refine wp_store_mid ty x y ho g 0 D.toArray hx hy (hb.there 0 _ (by simpa using Nat.le_of_eq hD)) (by simpa using hi) (all_oneCell_toArray h1) ?_
  have := Stored.of_setCells hb 0 D (by omega)
  rw [List.take_zero, List.nil_append, List.drop_of_length_le (by omega), List.append_nil] at this
  exact h _ this
theorem Blk.of_heap {w W : World} {B : Nat} {C : List Value} {T : TypeId} (h : Blk w B C T) (e : W.heap = w.heap) : Blk W B C T := by unfold Blk; rw [e]; exact h
theorem Stored.cell {w w1 : World} {g : Nat} {D : List Value} {T : TypeId} (h : Stored w w1 g D T) {b o : Nat} {v : Value} (hb : b ≠ g) (hc : w.cell? ⟨b, o, none⟩ = some v) : w1.cell? ⟨b, o, none⟩ = some v := by
  rw [← hc]
  exact World.cell?_of_block (h.2.1 b hb)
theorem tv_open {w : World} {A : Option Addr} {p : List B} (h : Rd w A (tv p)) (hn : p ≠ []) : ∃ b o, A = some ⟨b, o, none⟩ ∧ ∀ k x, k < p.length → x = p.getD k [] → w.cell? ⟨b, o + k, none⟩ = some (.string (tb x)) := by
  obtain ⟨b, o, hA, hc⟩ := h.open (by simpa [tv] using hn)
  exact ⟨b, o, hA, fun k x hk hx => by rw [hx]; exact hc k _ (tv_get p k hk)⟩
def zl : List Value := [.string ⟨#[]⟩, .int .i64 0, .int .i64 0, .int .i64 0, .int .i64 0]
theorem cell_heap {w W : World} (e : W.heap = w.heap) (p : Addr) : W.cell? p = w.cell? p := by unfold World.cell?; rw [e]
theorem below_same {w0 w W : World} {n : Nat} (h : Below n w0 w) (eh : W.heap = w.heap) (eo : W.os = w.os) (et : W.tape = w.tape) (ep : W.output = w.output) : Below n w0 W := ⟨eo.trans h.os, et.trans h.tape, ep.trans h.output, by rw [eh]; exact h.size, fun k hk => by rw [eh]; exact h.block k hk⟩
theorem zl_lc : zl = lc z := rfl
theorem own_other {w w' : World} {base e1 e2 s1 s2 n m : Nat} {v1 v2 : Value} {xs ys : List Value} (h1 : w.ownsRow base e1 s1 v1 n xs) (h2 : w.ownsRow base e2 s2 v2 m ys) (hne : e1 ≠ e2) (hg : w.grownBy w' v1.ownBlock) : w'.ownsRow base e2 s2 v2 m ys := by
  refine h2.kept hg ?_
  rcases h2.2 with ⟨rfl, _⟩ | ⟨g2, c2, cu2, rfl, _, hg2, _⟩
  · exact .inl rfl
  · right
    rcases h1.2 with ⟨rfl, _⟩ | ⟨g1, c1, cu1, rfl, _, hg1, _⟩
    · simp [Value.ownBlock]
    · intro e
      obtain rfl : g2 = g1 := by simpa [Value.ownBlock] using e
      rw [hg1] at hg2
      simp at hg2
      exact hne hg2.2
theorem src_lt {P : Program} {size : Nat} {tx e' : TypeId} (hk : P.underlying tx = some (.slice e')) (hs : size = 5) (w : World) (l : Lt) (t : TypeId) (B : Nat) (hB : B = w.heap.size) :
    Src P size tx (.slice (some ⟨B, 0, none⟩) 1 1) 1 (lc l) (w.alloc (.cells #[.string (tb l.text), .int .i64 l.base, .int .i64 l.mark, .int .i64 l.cas, .int .i64 l.width] t)) := by
  subst hB
  refine Src.ofSlice _ hk _ _ _ _ (by rw [hs, lc_length]) (fun j u hu => ?_) (lc_one l)
  have hadd : (⟨w.heap.size, 0, none⟩ : Addr).add j = ⟨w.heap.size, j, none⟩ := by unfold Addr.add; split <;> simp_all
  rw [hadd]
  exact (Blk.at w (lc l) _ t _ rfl rfl).cell hu
def IL (w : World) (b o : Nat) (l : List Int) : Prop := ∀ k, k < l.length → w.cell? ⟨b, o + k, none⟩ = some (.int .i64 (l.getD k 0))
theorem il_open {w : World} {A : Option Addr} {l : List Int} (h : Rd w A (iv l)) (hn : l ≠ []) : ∃ b o, A = some ⟨b, o, none⟩ ∧ IL w b o l := by
  obtain ⟨b, o, hA, hc⟩ := h.open (iv_ne hn)
  exact ⟨b, o, hA, fun k hk => hc k _ (iv_get hk)⟩
theorem IL.below {w w' : World} {b o : Nat} {l : List Int} (h : IL w b o l) (hb : Below w.heap.size w w') : IL w' b o l := fun k hk => by
  have h1 := h k hk
  exact (hb.cell (p := ⟨b, o + k, none⟩) (World.block_lt_of_cell? w _ h1)).trans h1
theorem IL.at {w w' : World} {b o : Nat} {l : List Int} (h : IL w b o l) (hb : Below w.heap.size w w') {k : Nat} (hk : k < l.length) {x : Int} (hx : x = l.getD k 0) : w'.cell? ⟨b, o + k, none⟩ = some (.int .i64 x) := by subst hx; exact h.below hb k hk
theorem drop_getD {l : List Int} {k : Nat} (hk : k < l.length) {x : Int} (hx : x = l.getD k 0) : l.drop k = x :: l.drop (k + 1) := by
  rw [List.drop_eq_getElem_cons hk, hx]
  simp [List.getD, hk]
end Go.Proofs.Ytalladdmedmfeaa
