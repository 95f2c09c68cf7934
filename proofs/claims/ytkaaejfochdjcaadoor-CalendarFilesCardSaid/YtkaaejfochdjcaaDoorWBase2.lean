/-
  More words for memory: what a readable slice gives an append; append to a slice that is full.
-/
import Derived.Test.YtkaaejfochdjcaaDoorWBase
namespace Go.Proofs.YtkaaejfochdjcaaDoor
open Go.RowKit
set_option linter.unusedVariables false

theorem src_rd {P : Program} {w : World} {size : Nat} {tx e' : TypeId} (hk : P.underlying tx = some (.slice e')) (hs : size = 1) {A : Option Addr} {l : List UInt8} (h : Rd w A (bs l)) (hA : A = none → l = []) (c : Nat) :
    Src P size tx (.slice A l.length c) l.length (bs l) w := by
  subst hs
  cases A with
  | none =>
    have hl := hA rfl
    subst hl
    exact Src.ofNil w hk c
  | some a =>
    refine Src.ofSlice w hk a l.length c (bs l) (by rw [bs_length, Nat.mul_one]) (fun j u hu => ?_) (bs_one l)
    rcases h with h | ⟨b, o, e, hc⟩
    · rw [h] at hu; simp at hu
    · obtain rfl : a = ⟨b, o, none⟩ := by simpa using e
      have ha : (⟨b, o, none⟩ : Addr).add j = ⟨b, o + j, none⟩ := by unfold Addr.add; split <;> simp_all
      rw [ha]
      exact hc j u hu

/-- append to a slice without room: a new row, or (nothing to append) the same slice. -/
theorem full_src {P : Program} {w : World} {t tx ty e : TypeId} {i : TypeInfo} {z : Value} {bytes : Nat} (ht : P.underlying t = some (.slice e)) (hi : P.info? e = some i) (hz : i.zero = some z)
    (hsize : i.size = 1) (hby : i.bytes = bytes) (hzs : z.cells.size = 1) {b o n : Nat} {xs : List Value} (hx : xs.length = n) (hc : ∀ k v, xs[k]? = some v → w.cell? ⟨b, o + k, none⟩ = some v)
    {x : Value} {m : Nat} {news : List Value} (hs : Src P i.size tx x m news w) (h63 : n + m ≤ maxLen) (hbytes : (n + m) * bytes ≤ 140737488355328) :
    ∃ A' c' w', (Builtin.append_ #[t, tx] ty #[.slice (some ⟨b, o, none⟩) n n, x]).run P w = .ok (.slice A' (n + m) c') w' ∧ Rd w' A' (xs ++ news) ∧ Below w.heap.size w w' ∧ n + m ≤ c' ∧ c' ≤ maxLen := by
  subst hby
  have h63' : n + m ≤ 9223372036854775807 := by simp only [maxLen] at h63; omega
  rcases Nat.eq_zero_or_pos m with hm | hm
  · subst hm
    have hnil : news = [] := List.eq_nil_of_length_eq_zero (by simpa using hs.newsLen)
    subst hnil
    have h := run_append_room_src (P := P) w t tx ty e i ht hi b o n n x 0 [] hs (by omega) (by simp) (by simp)
    refine ⟨some ⟨b, o, none⟩, n, w, h, ?_, Below.refl _ _, Nat.le_refl _, by simpa using h63⟩
    rw [List.append_nil]
    exact .inr ⟨b, o, rfl, hc⟩
  · have hadd : ∀ j, (⟨b, o, none⟩ : Addr).add j = ⟨b, o + j, none⟩ := fun j => by unfold Addr.add; split <;> simp_all
    have holds : ∀ j u, xs[j]? = some u → w.drew.cell? ((⟨b, o, none⟩ : Addr).add j) = some u := fun j u hu => by rw [hadd]; exact hc j u hu
    have hr := run_append_grow_src (P := P) w t tx ty e i z ht hi hz (some ⟨b, o, none⟩) n n xs (run_firstCells_some w.drew i.size n ⟨b, o, none⟩ n n xs (by rw [hsize, hx, Nat.mul_one]) holds) x m news hs (by omega) (by omega) (growslice_fits (by omega) hbytes)
    refine ⟨_, _, _, hr, ?_, ⟨rfl, rfl, rfl, by simp, fun k hk => Below.heap_alloc w.drew _ k hk⟩, grownCap_ge w (n + m) n e, grownCap_le_maxLen w (n + m) n e h63⟩
    refine .inr ⟨w.heap.size, 0, rfl, fun k v hv => ?_⟩
    have hcell := cell_of_row (w.drew.alloc (.cells ((xs ++ news).toArray ++ Builtin.zeroCells z.cells (grownCap w (n + m) n e - (n + m))) e)) w.heap.size (0 + k) _ e (0, 0) (heap_alloc_new w.drew _)
    rw [hcell, Nat.zero_add, Array.getElem?_append_left (by simpa using (List.getElem?_eq_some_iff.1 hv).1)]
    simpa using hv

theorem wp_full_src {P : Program} {w : World} {op : Oper} {a : Act} {K : Act → World → Prop} {Q : Exit → Act → World → Prop} (s x : Operand) (t tx : TypeId)
    (ho : op.op = .call { callee := .builtin .append, args := #[s, x], argTypes := #[t, tx] })
    (e : TypeId) (i : TypeInfo) (z : Value) (bytes : Nat) (ht : P.underlying t = some (.slice e)) (hi : P.info? e = some i) (hz : i.zero = some z)
    (hsize : i.size = 1) (hby : i.bytes = bytes) (hzs : z.cells.size = 1) (b o n : Nat) (xs : List Value) (hsv : a.eval s = .slice (some ⟨b, o, none⟩) n n) (hx : xs.length = n) (hc : ∀ k v, xs[k]? = some v → w.cell? ⟨b, o + k, none⟩ = some v)
    (y : Value) (m : Nat) (news : List Value) (hy : a.eval x = y) (hs : Src P i.size tx y m news w) (h63 : n + m ≤ maxLen) (hbytes : (n + m) * bytes ≤ 140737488355328)
    (h : ∀ A' c' w', Rd w' A' (xs ++ news) → Below w.heap.size w w' → n + m ≤ c' → c' ≤ maxLen → K (a.put op.dst (.slice A' (n + m) c')) w') : op.wp P a w K Q := by
  obtain ⟨A', c', w', hr, h2, h3, h4, h5⟩ := full_src (P := P) (ty := op.type) ht hi hz hsize hby hzs hx hc hs h63 hbytes
  unfold Oper.wp execOp
  simp only [ho, resolve, invoke, builtin, Sem.run_bind, Sem.run_pure, Result.andThen_ok, List.map_toArray, List.map_cons, List.map_nil, hsv, hy, hr]
  exact h A' c' w' h2 h3 h4 h5

theorem wpList_full_src {P : Program} {w : World} {ops : Array Oper} {rest : List Oper} {op : Oper} {a : Act} {Q : Exit → Act → World → Prop} (hgd : op.guard = none) (s x : Operand) (t tx : TypeId)
    (ho : op.op = .call { callee := .builtin .append, args := #[s, x], argTypes := #[t, tx] })
    (e : TypeId) (i : TypeInfo) (z : Value) (bytes : Nat) (ht : P.underlying t = some (.slice e)) (hi : P.info? e = some i) (hz : i.zero = some z)
    (hsize : i.size = 1) (hby : i.bytes = bytes) (hzs : z.cells.size = 1) (b o n : Nat) (xs : List Value) (hsv : a.eval s = .slice (some ⟨b, o, none⟩) n n) (hx : xs.length = n) (hc : ∀ k v, xs[k]? = some v → w.cell? ⟨b, o + k, none⟩ = some v)
    (y : Value) (m : Nat) (news : List Value) (hy : a.eval x = y) (hs : Src P i.size tx y m news w) (h63 : n + m ≤ maxLen) (hbytes : (n + m) * bytes ≤ 140737488355328)
    (h : ∀ A' c' w', Rd w' A' (xs ++ news) → Below w.heap.size w w' → n + m ≤ c' → c' ≤ maxLen → wpList P ops Q rest (a.put op.dst (.slice A' (n + m) c')) w') : wpList P ops Q (op :: rest) a w :=
  wpList_plain hgd fun _ hK => wp_full_src s x t tx ho e i z bytes ht hi hz hsize hby hzs b o n xs hsv hx hc y m news hy hs h63 hbytes fun A' c' w' h2 h3 h4 h5 => hK _ _ (h A' c' w' h2 h3 h4 h5)

theorem own_keep {w w' : World} {base : Nat} {e : TypeId} {size n : Nat} {v : Value} {xs : List Value} (h : w.ownsRow base e size v n xs) (hb : Below w.heap.size w w') : w'.ownsRow base e size v n xs := by
  refine h.kept (row := none) ⟨hb.os, hb.tape, hb.output, hb.size, fun k hk _ => hb.block k hk⟩ ?_
  cases hv : v.ownBlock <;> simp
theorem below_own {w0 w w' : World} {row : Option Nat} (hb : Below w0.heap.size w0 w) (hg : w.grownBy w' row) (hr : ∀ g, row = some g → w0.heap.size ≤ g) : Below w0.heap.size w0 w' := hb.grown hg hb.size hr

end Go.Proofs.YtkaaejfochdjcaaDoor
