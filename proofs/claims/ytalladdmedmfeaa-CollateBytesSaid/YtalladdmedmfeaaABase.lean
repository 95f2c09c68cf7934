/-
  Words for memory, of my own: a slice that reads as a list of cells (nil let in), what a row of the call's own reads as, bytes as cells, blocks known whole, strings as lists of bytes, numbers.
-/
import Derived.WalkKit
import Derived.WalkSpells
import Derived.WalkLawsBesides
import Derived.Deep.AppendLies
import Derived.Deep.AppendSrc
import Derived.Deep.QuietTactic
import Derived.BigQuiet
import Derived.Maps.AppendAt
import Derived.Lib.Hide
import Derived.Laws.BytesArg
import Derived.Laws.CopyOwn
import Derived.Deep.LoopGhost
import Derived.Deep.MidRow
import Derived.Deep.WholeRow
import Derived.IntWalk
import Derived.Test.YtalladdmedmfeaaProg
namespace Go.Proofs.Ytalladdmedmfeaa
open Go.RowKit
set_option linter.unusedVariables false
set_option linter.unusedSimpArgs false


def by8 (c : UInt8) : Value := .int .u8 c.toNat
def bs (l : List UInt8) : List Value := l.map by8
theorem bs_length (l : List UInt8) : (bs l).length = l.length := by simp [bs]
theorem bs_append (a b : List UInt8) : bs (a ++ b) = bs a ++ bs b := by simp [bs]
theorem bs_get {l : List UInt8} {k : Nat} (h : k < l.length) : (bs l)[k]? = some (.int .u8 l[k].toNat) := by simp [bs, by8, h]
theorem bs_drop (l : List UInt8) (k : Nat) : (bs l).drop k = bs (l.drop k) := by simp [bs]
theorem bs_take (l : List UInt8) (k : Nat) : (bs l).take k = bs (l.take k) := by simp [bs]
theorem bs_one (l : List UInt8) : ∀ u ∈ bs l, u.oneCell' = true := fun u hu => by
  obtain ⟨_, _, rfl⟩ := List.mem_map.1 hu
  rfl
theorem byteCells_eq (l : List UInt8) : byteCells ⟨l.toArray⟩ = bs l := rfl
theorem byteCells_bs (s : ByteArray) : byteCells s = bs s.data.toList := rfl

/-- The slice whose address is A reads as the cells xs. -/
def Rd (w : World) (A : Option Addr) (xs : List Value) : Prop :=
  xs = [] ∨ ∃ b o, A = some ⟨b, o, none⟩ ∧ ∀ k v, xs[k]? = some v → w.cell? ⟨b, o + k, none⟩ = some v

section
variable {w w' : World} {A : Option Addr} {xs : List Value}
theorem Rd.nil : Rd w A [] := .inl rfl
theorem Rd.keep (h : Rd w A xs) (hk : ∀ b o, b < w.heap.size → w'.cell? ⟨b, o, none⟩ = w.cell? ⟨b, o, none⟩) : Rd w' A xs := by
  rcases h with h | ⟨b, o, hA, hc⟩
  · exact .inl h
  · exact .inr ⟨b, o, hA, fun k v hv => (hk b _ (World.block_lt_of_cell? w _ (hc k v hv))).trans (hc k v hv)⟩
theorem Rd.below (h : Rd w A xs) (hb : Below w.heap.size w w') : Rd w' A xs := h.keep fun b o hlt => hb.cell (p := ⟨b, o, none⟩) hlt
theorem Rd.drewN (h : Rd w A xs) (n : Nat) : Rd (w.drewN n) A xs := h
theorem Rd.drew (h : Rd w A xs) : Rd w.drew A xs := h
theorem Rd.alloc (h : Rd w A xs) (o : Obj) : Rd (w.alloc o) A xs := h.keep fun b i hlt => World.cell?_alloc_lt w o ⟨b, i, none⟩ hlt
theorem Rd.setCell_new {W : World} (h : Rd W A xs) (hb : Below W.heap.size W w) {p : Addr} (hp : W.heap.size ≤ p.block) (u : Value) : Rd (w.setCell p u) A xs := h.below (hb.setCell hp u)
theorem Rd.open (h : Rd w A xs) (hn : xs ≠ []) : ∃ b o, A = some ⟨b, o, none⟩ ∧ ∀ k v, xs[k]? = some v → w.cell? ⟨b, o + k, none⟩ = some v := by
  rcases h with h | h
  · exact absurd h hn
  · exact h
theorem Rd.of_own {base : Nat} {e : TypeId} {n size : Nat} {v : Value} (h : w.ownsRow base e size v n xs) : ∃ A c, v = .slice A n c ∧ Rd w A xs ∧ n ≤ c ∧ c ≤ maxLen := by
  have hx := h.1
  rcases h.2 with ⟨rfl, rfl⟩ | ⟨g, cap, cur, rfl, hb, hg, hn, hm, hs, ht⟩
  · exact ⟨none, 0, rfl, .inl (List.eq_nil_of_length_eq_zero (by simpa using hx)), Nat.le_refl _, Nat.zero_le _⟩
  · refine ⟨_, cap, rfl, .inr ⟨g, 0, rfl, fun k u hu => ?_⟩, hn, hm⟩
    have hc := h.cells (g := g) rfl k u hu
    have ha : (⟨g, 0, none⟩ : Addr).add k = ⟨g, 0 + k, none⟩ := by unfold Addr.add; split <;> simp_all
    rw [ha] at hc
    exact hc
theorem Rd.drop (b o : Nat) (h : ∀ k v, xs[k]? = some v → w.cell? ⟨b, o + k, none⟩ = some v) (j : Nat) : Rd w (some ⟨b, o + j, none⟩) (xs.drop j) :=
  .inr ⟨b, o + j, rfl, fun k v hv => by
    rw [Nat.add_assoc]
    exact h (j + k) v (by rw [← hv, List.getElem?_drop])⟩
end

theorem bcell {W w1 : World} (hb : Below W.heap.size W w1) : (∀ b o, b < W.heap.size → w1.cell? ⟨b, o, none⟩ = W.cell? ⟨b, o, none⟩) ∧ (∀ b o, b < W.heap.size → w1.frozen? ⟨b, o, none⟩ = W.frozen? ⟨b, o, none⟩) :=
  ⟨fun b o h => hb.cell (p := ⟨b, o, none⟩) h, fun b o h => hb.frozen (p := ⟨b, o, none⟩) h⟩

/-! ## append onto a row of the call's own, whatever the source -/

theorem own_below {w w' : World} {base : Nat} {e : TypeId} {size n : Nat} {v : Value} {xs : List Value} {row : Option Nat} (h : w.ownsRow base e size v n xs) (hg : w.grownBy w' row) (hr : ∀ g, row = some g → g < base) : w'.ownsRow base e size v n xs := by
  refine h.kept hg ?_
  cases hv : v.ownBlock with
  | none => exact .inl rfl
  | some k =>
    refine .inr fun e => ?_
    have h1 := hr k e.symm
    have h2 := (h.lt k hv).1
    omega

theorem own_src {P : Program} {w : World} {base : Nat} {t tx ty e : TypeId} {i : TypeInfo} {z : Value} {size bytes : Nat} (ht : P.underlying t = some (.slice e)) (hi : P.info? e = some i) (hz : i.zero = some z)
    (hsize : i.size = size) (hby : i.bytes = bytes) (hzs : z.cells.size = size) {v : Value} {n : Nat} {xs : List Value} (hown : w.ownsRow base e size v n xs)
    {x : Value} {m : Nat} {news : List Value} (hs : Src P i.size tx x m news w) (h63 : n + m ≤ maxLen) (hbytes : (n + m) * bytes ≤ 140737488355328) (hbase : base ≤ w.heap.size) :
    ∃ v' w', (Builtin.append_ #[t, tx] ty #[v, x]).run P w = .ok v' w' ∧ w'.ownsRow base e size v' (n + m) (xs ++ news) ∧ w.grownBy w' v.ownBlock ∧ (v'.ownBlock = v.ownBlock ∨ v'.ownBlock = some w.heap.size) := by
  subst hsize
  subst hby
  have hlen : (xs ++ news).length = (n + m) * i.size := by rw [List.length_append, hown.1, hs.newsLen, Nat.add_mul]
  have h63' : n + m ≤ 9223372036854775807 := by simp only [maxLen] at h63; omega
  rcases Nat.eq_zero_or_pos m with hm | hm
  · subst hm
    have hnil : news = [] := List.eq_nil_of_length_eq_zero (by simpa using hs.newsLen)
    subst hnil
    have hc := hs.cells
    rw [List.append_nil, Nat.add_zero]
    refine ⟨v, w, ?_, hown, ⟨rfl, rfl, rfl, Nat.le_refl _, fun _ _ _ => rfl⟩, .inl rfl⟩
    rcases hown.2 with ⟨rfl, rfl⟩ | ⟨g, cap, cur, rfl, hbg, hg, hnc, hcm, hcs, htake⟩
    · rcases hs.kind with ⟨e', hk⟩ | hk <;> simp [Builtin.append_, run_underlying ht, run_underlying hk, sizeOf, typeInfo, hi, hs.len, hc]
    · have h := run_append_room_src (P := P) w t tx ty e i ht hi g 0 n cap x 0 [] hs (by omega) (by simp) (by simp)
      exact h
  · have grown : ∀ (old : Nat), (hold : old < n + m) →
        (w.drew.alloc (.cells ((xs ++ news).toArray ++ Builtin.zeroCells z.cells (grownCap w (n + m) old e - (n + m))) e)).ownsRow base e i.size
          (.slice (some ⟨w.heap.size, 0, none⟩) (n + m) (grownCap w (n + m) old e)) (n + m) (xs ++ news) := by
      intro old ho
      have hge := grownCap_ge w (n + m) old e
      refine ⟨hlen, .inr ⟨w.heap.size, _, _, rfl, hbase, heap_alloc_new w.drew _, hge, grownCap_le_maxLen w (n + m) old e h63, ?_, ?_⟩⟩
      · simp only [Array.size_append, List.size_toArray, size_zeroCells, hzs, hlen, ← Nat.add_mul]
        congr 1
        omega
      · simp only [Array.toList_append]
        rw [← hlen]
        exact List.take_left
    rcases hown.2 with ⟨rfl, rfl⟩ | ⟨g, cap, cur, rfl, hbg, hg, hnc, hcm, hcs, htake⟩
    · have hx : xs = [] := List.eq_nil_of_length_eq_zero (by simpa using hown.1)
      subst hx
      have hr := run_append_grow_src (P := P) w t tx ty e i z ht hi hz none 0 0 [] (run_firstCells_none w.drew i.size 0 0 0) x m news hs (by omega) (by omega) (growslice_fits (by omega) (by simpa using hbytes))
      have hgr := grown 0 (by omega)
      exact ⟨_, _, hr, hgr, ⟨rfl, rfl, rfl, by simp, fun k hk _ => Below.heap_alloc w.drew _ k hk⟩, .inr rfl⟩
    · by_cases hroom : n + m ≤ cap
      · have hfit : n * i.size + news.length ≤ cur.size := by rw [hs.newsLen, hcs, ← Nat.add_mul]; exact Nat.mul_le_mul_right _ hroom
        have hcell : ∀ j, j < news.length → (w.cell? ⟨g, 0 + n * i.size + j, none⟩).isSome = true := fun j hj => by
          rw [cell_of_row w g _ cur e (0, 0) hg]
          simp; omega
        have hfr : ∀ j, j < news.length → w.frozen? ⟨g, 0 + n * i.size + j, none⟩ = false := fun j _ => by simp [World.frozen?, hg]
        have hst := run_storeCells_at P g (n * i.size) e news 0 cur w hg (by simpa using hfit) hs.one
        simp only [Nat.add_zero] at hst
        refine ⟨.slice (some ⟨g, 0, none⟩) (n + m) cap, w.setRow g (cur.toList.take (n * i.size) ++ news ++ cur.toList.drop (n * i.size + news.length)).toArray, ?_,
          ⟨hlen, .inr ⟨g, cap, _, rfl, hbg, setRow_heap w g cur _ e _ hg, hroom, hcm, ?_, ?_⟩⟩, ⟨rfl, rfl, rfl, by simp, fun k _ hk => setRow_other w g k _ (fun e => hk (by simp [Value.ownBlock, e]))⟩, .inl rfl⟩
        · rcases hs.kind with ⟨e', hk⟩ | hk <;> simp [Builtin.append_, run_underlying ht, run_underlying hk, sizeOf, typeInfo, hi, hs.len, hroom, hs.cells, Addr.add_lit, hst]
        · simp only [List.size_toArray, List.length_append, List.length_take, List.length_drop, Array.length_toList]
          omega
        · rw [htake, ← hlen]
          exact List.take_left
      · have holds : ∀ j u, xs[j]? = some u → w.drew.cell? ((⟨g, 0, none⟩ : Addr).add j) = some u := hown.cells (g := g) rfl
        have hr := run_append_grow_src (P := P) w t tx ty e i z ht hi hz (some ⟨g, 0, none⟩) n cap xs (run_firstCells_some w.drew i.size n ⟨g, 0, none⟩ n cap xs hown.1 holds) x m news hs (by omega) (by omega) (growslice_fits (by omega) hbytes)
        have hgr := grown cap (by omega)
        exact ⟨_, _, hr, hgr, ⟨rfl, rfl, rfl, by simp, fun k hk _ => Below.heap_alloc w.drew _ k hk⟩, .inr rfl⟩

theorem wp_own_src {P : Program} {w : World} {o : Oper} {a : Act} {K : Act → World → Prop} {Q : Exit → Act → World → Prop} (s x : Operand) (t tx : TypeId)
    (ho : o.op = .call { callee := .builtin .append, args := #[s, x], argTypes := #[t, tx] })
    (base : Nat) (e : TypeId) (i : TypeInfo) (z : Value) (size bytes : Nat) (ht : P.underlying t = some (.slice e)) (hi : P.info? e = some i) (hz : i.zero = some z)
    (hsize : i.size = size) (hby : i.bytes = bytes) (hzs : z.cells.size = size) (v : Value) (n : Nat) (xs : List Value) (hs : a.eval s = v) (hown : w.ownsRow base e size v n xs)
    (y : Value) (m : Nat) (news : List Value) (hx : a.eval x = y) (hsrc : Src P i.size tx y m news w) (h63 : n + m ≤ maxLen) (hbytes : (n + m) * bytes ≤ 140737488355328) (hbase : base ≤ w.heap.size)
    (h : ∀ v' w', w'.ownsRow base e size v' (n + m) (xs ++ news) → w.grownBy w' v.ownBlock → (v'.ownBlock = v.ownBlock ∨ v'.ownBlock = some w.heap.size) → K (a.put o.dst v') w') : o.wp P a w K Q := by
  obtain ⟨v', w', hr, h2, h3, h4⟩ := own_src (P := P) (ty := o.type) ht hi hz hsize hby hzs hown hsrc h63 hbytes hbase
  unfold Oper.wp execOp
  simp only [ho, resolve, invoke, builtin, Sem.run_bind, Sem.run_pure, Result.andThen_ok, List.map_toArray, List.map_cons, List.map_nil, hs, hx, hr]
  exact h v' w' h2 h3 h4

theorem wpList_own_src {P : Program} {w : World} {ops : Array Oper} {rest : List Oper} {o : Oper} {a : Act} {Q : Exit → Act → World → Prop} (hgd : o.guard = none) (s x : Operand) (t tx : TypeId)
    (ho : o.op = .call { callee := .builtin .append, args := #[s, x], argTypes := #[t, tx] })
    (base : Nat) (e : TypeId) (i : TypeInfo) (z : Value) (size bytes : Nat) (ht : P.underlying t = some (.slice e)) (hi : P.info? e = some i) (hz : i.zero = some z)
    (hsize : i.size = size) (hby : i.bytes = bytes) (hzs : z.cells.size = size) (v : Value) (n : Nat) (xs : List Value) (hs : a.eval s = v) (hown : w.ownsRow base e size v n xs)
    (y : Value) (m : Nat) (news : List Value) (hx : a.eval x = y) (hsrc : Src P i.size tx y m news w) (h63 : n + m ≤ maxLen) (hbytes : (n + m) * bytes ≤ 140737488355328) (hbase : base ≤ w.heap.size)
    (h : ∀ v' w', w'.ownsRow base e size v' (n + m) (xs ++ news) → w.grownBy w' v.ownBlock → (v'.ownBlock = v.ownBlock ∨ v'.ownBlock = some w.heap.size) → wpList P ops Q rest (a.put o.dst v') w') : wpList P ops Q (o :: rest) a w :=
  wpList_plain hgd fun _ hK => wp_own_src s x t tx ho base e i z size bytes ht hi hz hsize hby hzs v n xs hs hown y m news hx hsrc h63 hbytes hbase fun v' w' h2 h3 h4 => hK _ _ (h v' w' h2 h3 h4)

/-! ## a row that has been appended to, once or more -/

/-- From w to w' only the row B has been written, and what is new; the row lies now at B'. -/
def Grew (w w' : World) (B B' : Option Nat) : Prop := w.grownBy w' B ∧ (B' = B ∨ ∃ g, B' = some g ∧ w.heap.size ≤ g)
theorem Grew.refl (w : World) (B : Option Nat) : Grew w w B B := ⟨World.grownBy.refl w B, .inl rfl⟩
theorem Grew.step {w w1 w2 : World} {B B1 B2 : Option Nat} (h : Grew w w1 B B1) (hg : w1.grownBy w2 B1) (hb : B2 = B1 ∨ ∃ g, B2 = some g ∧ w1.heap.size ≤ g) : Grew w w2 B B2 := by
  obtain ⟨h1, h2⟩ := h
  refine ⟨⟨hg.os.trans h1.os, hg.tape.trans h1.tape, hg.output.trans h1.output, Nat.le_trans h1.size hg.size, fun i hi hne => ?_⟩, ?_⟩
  · have hi1 : i < w1.heap.size := Nat.lt_of_lt_of_le hi h1.size
    refine (hg.block i hi1 ?_).trans (h1.block i hi hne)
    rcases h2 with rfl | ⟨g, rfl, hg2⟩
    · exact hne
    · intro e
      have : i = g := by simpa using e
      omega
  · rcases hb with rfl | ⟨g, rfl, hg2⟩
    · exact h2
    · exact .inr ⟨g, rfl, Nat.le_trans h1.size hg2⟩
theorem Grew.append {w w1 w2 : World} {B : Option Nat} {v v' : Value} (h : Grew w w1 B v.ownBlock) (hg : w1.grownBy w2 v.ownBlock) (hb : v'.ownBlock = v.ownBlock ∨ v'.ownBlock = some w1.heap.size) : Grew w w2 B v'.ownBlock :=
  h.step hg (hb.imp id fun e => ⟨_, e, Nat.le_refl _⟩)
theorem Grew.alloc {w w1 : World} {B B1 : Option Nat} (h : Grew w w1 B B1) (o : Obj) : Grew w (w1.alloc o) B B1 := h.step (World.grownBy_alloc w1 o B1) (.inl rfl)
theorem Grew.setCell {w w1 : World} {B : Option Nat} {g : Nat} (h : Grew w w1 B (some g)) (o : Nat) (u : Value) : Grew w (w1.setCell ⟨g, o, none⟩ u) B (some g) :=
  h.step ⟨rfl, rfl, rfl, by simp [World.setCell], fun k hk hne => Below.heap_setCell _ _ _ _ (by rintro rfl; exact hne rfl)⟩ (.inl rfl)
theorem Grew.size {w w' : World} {B B' : Option Nat} (h : Grew w w' B B') : w.heap.size ≤ w'.heap.size := h.1.size
theorem Grew.below {w0 w w' : World} {B B' : Option Nat} (hb : Below w0.heap.size w0 w) (h : Grew w w' B B') (hB : ∀ g, B = some g → w0.heap.size ≤ g) : Below w0.heap.size w0 w' := hb.grown h.1 hb.size hB
theorem src_one {P : Program} {size : Nat} {tx e' : TypeId} (hk : P.underlying tx = some (.slice e')) (hs : size = 1) (w : World) (x : Value) (t : TypeId) (h1 : x.oneCell' = true) :
    Src P size tx (.slice (some ⟨w.heap.size, 0, none⟩) 1 1) 1 [x] (w.alloc (.cells #[x] t)) :=
  Src.ofSlice _ hk _ _ _ _ (by simp [hs]) (cell_one_new _ _ _) (by simpa using h1)



theorem src_rd {P : Program} {w : World} {size : Nat} {tx e' : TypeId} (hk : P.underlying tx = some (.slice e')) (hs : size = 1) {A : Option Addr} {l : List UInt8} (h : Rd w A (bs l)) (hA : A = none → l = []) (c : Nat) :
    Src P size tx (.slice A l.length c) l.length (bs l) w := by
  subst hs
  cases A with
  | none =>
    have hl := hA rfl
    subst hl
    exact Src.ofNil w hk c
  | some a =>
    refine Src.ofSlice w hk a l.length c (bs l) (by rw [bs_length, Nat.mul_one]) (fun j u hu => ?_) (bs_one l)
    rcases h with h | ⟨b, o, e, hc⟩
    · rw [h] at hu; simp at hu
    · obtain rfl : a = ⟨b, o, none⟩ := by simpa using e
      have ha : (⟨b, o, none⟩ : Addr).add j = ⟨b, o + j, none⟩ := by unfold Addr.add; split <;> simp_all
      rw [ha]
      exact hc j u hu

/-- append to a slice without room: a new row, or (nothing to append) the same slice. -/
theorem full_src {P : Program} {w : World} {t tx ty e : TypeId} {i : TypeInfo} {z : Value} {bytes : Nat} (ht : P.underlying t = some (.slice e)) (hi : P.info? e = some i) (hz : i.zero = some z)
    (hsize : i.size = 1) (hby : i.bytes = bytes) (hzs : z.cells.size = 1) {b o n : Nat} {xs : List Value} (hx : xs.length = n) (hc : ∀ k v, xs[k]? = some v → w.cell? ⟨b, o + k, none⟩ = some v)
    {x : Value} {m : Nat} {news : List Value} (hs : Src P i.size tx x m news w) (h63 : n + m ≤ maxLen) (hbytes : (n + m) * bytes ≤ 140737488355328) :
    ∃ A' c' w', (Builtin.append_ #[t, tx] ty #[.slice (some ⟨b, o, none⟩) n n, x]).run P w = .ok (.slice A' (n + m) c') w' ∧ Rd w' A' (xs ++ news) ∧ Below w.heap.size w w' ∧ n + m ≤ c' ∧ c' ≤ maxLen := by
  subst hby
  have h63' : n + m ≤ 9223372036854775807 := by simp only [maxLen] at h63; omega
  rcases Nat.eq_zero_or_pos m with hm | hm
  · subst hm
    have hnil : news = [] := List.eq_nil_of_length_eq_zero (by simpa using hs.newsLen)
    subst hnil
    have h := run_append_room_src (P := P) w t tx ty e i ht hi b o n n x 0 [] hs (by omega) (by simp) (by simp)
    refine ⟨some ⟨b, o, none⟩, n, w, h, ?_, Below.refl _ _, Nat.le_refl _, by simpa using h63⟩
    rw [List.append_nil]
    exact .inr ⟨b, o, rfl, hc⟩
  · have hadd : ∀ j, (⟨b, o, none⟩ : Addr).add j = ⟨b, o + j, none⟩ := fun j => by unfold Addr.add; split <;> simp_all
    have holds : ∀ j u, xs[j]? = some u → w.drew.cell? ((⟨b, o, none⟩ : Addr).add j) = some u := fun j u hu => by rw [hadd]; exact hc j u hu
    have hr := run_append_grow_src (P := P) w t tx ty e i z ht hi hz (some ⟨b, o, none⟩) n n xs (run_firstCells_some w.drew i.size n ⟨b, o, none⟩ n n xs (by rw [hsize, hx, Nat.mul_one]) holds) x m news hs (by omega) (by omega) (growslice_fits (by omega) hbytes)
    refine ⟨_, _, _, hr, ?_, ⟨rfl, rfl, rfl, by simp, fun k hk => Below.heap_alloc w.drew _ k hk⟩, grownCap_ge w (n + m) n e, grownCap_le_maxLen w (n + m) n e h63⟩
    refine .inr ⟨w.heap.size, 0, rfl, fun k v hv => ?_⟩
    have hcell := cell_of_row (w.drew.alloc (.cells ((xs ++ news).toArray ++ Builtin.zeroCells z.cells (grownCap w (n + m) n e - (n + m))) e)) w.heap.size (0 + k) _ e (0, 0) (heap_alloc_new w.drew _)
    rw [hcell, Nat.zero_add, Array.getElem?_append_left (by simpa using (List.getElem?_eq_some_iff.1 hv).1)]
    simpa using hv

theorem wp_full_src {P : Program} {w : World} {op : Oper} {a : Act} {K : Act → World → Prop} {Q : Exit → Act → World → Prop} (s x : Operand) (t tx : TypeId)
    (ho : op.op = .call { callee := .builtin .append, args := #[s, x], argTypes := #[t, tx] })
    (e : TypeId) (i : TypeInfo) (z : Value) (bytes : Nat) (ht : P.underlying t = some (.slice e)) (hi : P.info? e = some i) (hz : i.zero = some z)
    (hsize : i.size = 1) (hby : i.bytes = bytes) (hzs : z.cells.size = 1) (b o n : Nat) (xs : List Value) (hsv : a.eval s = .slice (some ⟨b, o, none⟩) n n) (hx : xs.length = n) (hc : ∀ k v, xs[k]? = some v → w.cell? ⟨b, o + k, none⟩ = some v)
    (y : Value) (m : Nat) (news : List Value) (hy : a.eval x = y) (hs : Src P i.size tx y m news w) (h63 : n + m ≤ maxLen) (hbytes : (n + m) * bytes ≤ 140737488355328)
    (h : ∀ A' c' w', Rd w' A' (xs ++ news) → Below w.heap.size w w' → n + m ≤ c' → c' ≤ maxLen → K (a.put op.dst (.slice A' (n + m) c')) w') : op.wp P a w K Q := by
  obtain ⟨A', c', w', hr, h2, h3, h4, h5⟩ := full_src (P := P) (ty := op.type) ht hi hz hsize hby hzs hx hc hs h63 hbytes
  unfold Oper.wp execOp
  simp only [ho, resolve, invoke, builtin, Sem.run_bind, Sem.run_pure, Result.andThen_ok, List.map_toArray, List.map_cons, List.map_nil, hsv, hy, hr]
  exact h A' c' w' h2 h3 h4 h5

theorem wpList_full_src {P : Program} {w : World} {ops : Array Oper} {rest : List Oper} {op : Oper} {a : Act} {Q : Exit → Act → World → Prop} (hgd : op.guard = none) (s x : Operand) (t tx : TypeId)
    (ho : op.op = .call { callee := .builtin .append, args := #[s, x], argTypes := #[t, tx] })
    (e : TypeId) (i : TypeInfo) (z : Value) (bytes : Nat) (ht : P.underlying t = some (.slice e)) (hi : P.info? e = some i) (hz : i.zero = some z)
    (hsize : i.size = 1) (hby : i.bytes = bytes) (hzs : z.cells.size = 1) (b o n : Nat) (xs : List Value) (hsv : a.eval s = .slice (some ⟨b, o, none⟩) n n) (hx : xs.length = n) (hc : ∀ k v, xs[k]? = some v → w.cell? ⟨b, o + k, none⟩ = some v)
    (y : Value) (m : Nat) (news : List Value) (hy : a.eval x = y) (hs : Src P i.size tx y m news w) (h63 : n + m ≤ maxLen) (hbytes : (n + m) * bytes ≤ 140737488355328)
    (h : ∀ A' c' w', Rd w' A' (xs ++ news) → Below w.heap.size w w' → n + m ≤ c' → c' ≤ maxLen → wpList P ops Q rest (a.put op.dst (.slice A' (n + m) c')) w') : wpList P ops Q (op :: rest) a w :=
  wpList_plain hgd fun _ hK => wp_full_src s x t tx ho e i z bytes ht hi hz hsize hby hzs b o n xs hsv hx hc y m news hy hs h63 hbytes fun A' c' w' h2 h3 h4 h5 => hK _ _ (h A' c' w' h2 h3 h4 h5)

theorem own_keep {w w' : World} {base : Nat} {e : TypeId} {size n : Nat} {v : Value} {xs : List Value} (h : w.ownsRow base e size v n xs) (hb : Below w.heap.size w w') : w'.ownsRow base e size v n xs := by
  refine h.kept (row := none) ⟨hb.os, hb.tape, hb.output, hb.size, fun k hk _ => hb.block k hk⟩ ?_
  cases hv : v.ownBlock <;> simp
theorem below_own {w0 w w' : World} {row : Option Nat} (hb : Below w0.heap.size w0 w) (hg : w.grownBy w' row) (hr : ∀ g, row = some g → w0.heap.size ≤ g) : Below w0.heap.size w0 w' := hb.grown hg hb.size hr



theorem strOfNums_bytes (l : List UInt8) : strOfNums (l.map fun c => (c.toNat : Int)) = ⟨l.toArray⟩ := by
  apply ByteArray.ext
  apply Array.ext'
  rw [strOfNums_data, List.map_map]
  conv => rhs; rw [List.toList_toArray, ← List.map_id l]
  apply List.map_congr_left
  intro c _
  simp

theorem conv_rd {P : Program} {src dst e : TypeId} (hs : P.underlying src = some (.slice e)) (he : P.underlying e = some (.int .u8)) (hd : P.underlying dst = some .string) {w : World} {A : Option Addr} {l : List UInt8} (h : Rd w A (bs l)) (c : Nat) :
    (convert src dst (.slice A l.length c)).run P w = .ok (.string ⟨l.toArray⟩) w := by
  have key : ∀ b o, (∀ k v, (bs l)[k]? = some v → w.cell? ⟨b, o + k, none⟩ = some v) → (convert src dst (.slice (some ⟨b, o, none⟩) l.length c)).run P w = .ok (.string ⟨l.toArray⟩) w := by
    intro b o hc
    have := run_convert_bytes_arg (P := P) w src e hs he b o l.length c (l.map fun c => (c.toNat : Int)) (by simp) (fun i hi => by
      rw [hc i (.int .u8 l[i].toNat) (bs_get hi)]
      simp [List.getD, hi]) dst hd
    rw [strOfNums_bytes] at this
    exact this
  rcases h with h | ⟨b, o, rfl, hc⟩
  · have hl : l = [] := by simpa [bs] using h
    subst hl
    cases A with
    | none => exact run_convert_bytes_nil w src e hs he 0 c dst hd
    | some a =>
      rw [run_convert_bytes_string w src dst e (some a) _ c hs he hd, run_bytesToString w a _ c [] (by simp [loadCells, loadCellsFrom])]
      rfl
  · exact key b o hc

theorem bs_getD (l : List UInt8) (k : Nat) (h : k < l.length) : (bs l)[k]? = some (.int .u8 (l.getD k 0).toNat) := by simp [bs, by8, h]
theorem bs_set (l : List UInt8) (k : Nat) (x : UInt8) : (bs l).set k (.int .u8 x.toNat) = bs (l.set k x) := by simp [bs, by8]
def Blk (w : World) (B : Nat) (C : List Value) (T : TypeId) : Prop := w.heap[B]? = some (.cells C.toArray T (0, 0))
section
variable {w w' : World} {B : Nat} {C : List Value} {T : TypeId}
theorem Blk.lt (h : Blk w B C T) : B < w.heap.size := (Array.getElem?_eq_some_iff.1 h).1
theorem Blk.cell (h : Blk w B C T) {j : Nat} {v : Value} (hv : C[j]? = some v) : w.cell? ⟨B, j, none⟩ = some v := by
  rw [cell_of_row w B j _ _ _ h]
  simpa using hv
theorem Blk.frozen (h : Blk w B C T) (j : Nat) : w.frozen? ⟨B, j, none⟩ = false := frozen_of_row w B j _ _ h
theorem Blk.new (w : World) (C : List Value) (T : TypeId) : Blk (w.alloc (.cells C.toArray T)) w.heap.size C T := heap_alloc_new w _
theorem Blk.new' (w : World) (C : List Value) (A : Array Value) (T : TypeId) (h : A = C.toArray) : Blk (w.alloc (.cells A T)) w.heap.size C T := by subst h; exact heap_alloc_new w _
theorem Blk.alloc (h : Blk w B C T) (o : Obj) : Blk (w.alloc o) B C T := (Below.heap_alloc w o B h.lt).trans h
theorem Blk.drew (h : Blk w B C T) : Blk w.drew B C T := h
theorem Blk.drewN (h : Blk w B C T) (n : Nat) : Blk (w.drewN n) B C T := h
theorem Blk.set (h : Blk w B C T) (j : Nat) (v : Value) : Blk (w.setCell ⟨B, j, none⟩ v) B (C.set j v) T := by
  have := heap_setCell_same w B j _ T v h
  rw [Blk, this]
  simp
theorem Blk.set_other (h : Blk w B C T) (a : Addr) (v : Value) (hne : B ≠ a.block) : Blk (w.setCell a v) B C T := (heap_setCell_other w a B v hne).trans h
theorem Blk.below (h : Blk w B C T) {n : Nat} (hb : Below n w w') (hn : B < n) : Blk w' B C T := (hb.block _ hn).trans h
theorem Blk.range (h : Blk w B C T) (o n : Nat) : w.rangeAt B o ((C.drop o).take n) := fun j v hv => by
  refine h.cell ?_
  rw [List.getElem?_take] at hv
  split at hv
  · rw [List.getElem?_drop] at hv
    exact hv
  · cases hv
theorem Blk.there (h : Blk w B C T) (o n : Nat) (hn : o + n ≤ C.length) : w.there B o n := fun j hj => by
  have hl : o + j < C.length := by omega
  exact ⟨by rw [h.cell (List.getElem?_eq_getElem hl)]; rfl, h.frozen _⟩
theorem Blk.setCells : ∀ (vs : List Value) {w : World} {C : List Value} (o : Nat), Blk w B C T → o + vs.length ≤ C.length → Blk (w.setCells B o vs) B (C.take o ++ vs ++ C.drop (o + vs.length)) T
  | [], w, C, o, h, hl => by simpa [World.setCells] using h
  | v :: vs, w, C, o, h, hl => by
    simp only [List.length_cons] at hl
    have h1 := Blk.setCells vs (o + 1) (h.set o v) (by simp; omega)
    rw [World.setCells]
    have e : (C.set o v).take (o + 1) ++ vs ++ (C.set o v).drop (o + 1 + vs.length) = C.take o ++ (v :: vs) ++ C.drop (o + (v :: vs).length) := by
      have ho : o < C.length := by omega
      rw [List.take_succ_eq_append_getElem (by simpa using ho), List.take_set, List.set_eq_of_length_le (by simp; omega)]
      rw [List.drop_set_of_lt (by omega)]
      simp
      omega
    rw [e] at h1
    exact h1
theorem heap_setCells_other (B k : Nat) (hk : k ≠ B) : ∀ (vs : List Value) (o : Nat) (w : World), (w.setCells B o vs).heap[k]? = w.heap[k]?
  | [], _, _ => rfl
  | v :: vs, o, w => by rw [World.setCells, heap_setCells_other B k hk vs, heap_setCell_other _ _ _ _ hk]
theorem Blk.setCells_other (h : Blk w B C T) {B' : Nat} (o : Nat) (vs : List Value) (hne : B ≠ B') : Blk (w.setCells B' o vs) B C T := (heap_setCells_other B' B hne vs o w).trans h
theorem below_setCells {n : Nat} (B : Nat) (hB : n ≤ B) : ∀ (vs : List Value) (o : Nat) {w w' : World}, Below n w w' → Below n w (w'.setCells B o vs)
  | [], _, _, _, h => h
  | v :: vs, o, w, w', h => by rw [World.setCells]; exact below_setCells B hB vs (o + 1) (h.setCell (p := (⟨B, o, none⟩ : Addr)) hB v)
theorem size_setCells (B : Nat) : ∀ (vs : List Value) (o : Nat) (w : World), (w.setCells B o vs).heap.size = w.heap.size
  | [], _, _ => rfl
  | v :: vs, o, w => by rw [World.setCells, size_setCells B vs]; simp [World.setCell]
end
theorem slice_arr {P : Program} {t e : TypeId} {n : Nat} (hu : P.underlying t = some (.array n e)) (hs : (P.info? e).map (·.size) = some 1) (b o l h : Nat) (hl : l ≤ h) (hh : h ≤ n) (hln : l < n) (kl kh : IntKind) (L H : Int) (hL : L = (l : Int)) (hH : H = (h : Int)) (w : World) :
    (Instr.sliceAt t (.pointer (some ⟨b, o, none⟩)) (some (.int kl L)) (some (.int kh H)) none).run P w = .ok (.slice (some ⟨b, o + l, none⟩) (h - l) (n - l)) w := by
  subst hL hH
  cases hq : P.info? e with
  | none => simp [hq] at hs
  | some i =>
    have hs' : i.size = 1 := by simpa [hq] using hs
    have hne : ¬ n = l := by omega
    simp [Instr.sliceAt, Instr.sureAddr, run_underlying hu, Instr.sliceBounds, run_sliceBound, sizeOf, typeInfo, hq, hs', hne, Addr.add_mid, (by omega : (l : Int) ≤ (h : Int)), (by omega : (h : Int) ≤ (n : Int))]
theorem slice_arr_l {P : Program} {t e : TypeId} {n : Nat} (hu : P.underlying t = some (.array n e)) (hs : (P.info? e).map (·.size) = some 1) (b o l : Nat) (hln : l < n) (kl : IntKind) (L : Int) (hL : L = (l : Int)) (w : World) :
    (Instr.sliceAt t (.pointer (some ⟨b, o, none⟩)) (some (.int kl L)) none none).run P w = .ok (.slice (some ⟨b, o + l, none⟩) (n - l) (n - l)) w := by
  subst hL
  cases hq : P.info? e with
  | none => simp [hq] at hs
  | some i =>
    have hs' : i.size = 1 := by simpa [hq] using hs
    have hne : ¬ n = l := by omega
    simp [Instr.sliceAt, Instr.sureAddr, run_underlying hu, Instr.sliceBounds, run_sliceBound, sizeOf, typeInfo, hq, hs', hne, Addr.add_mid, (by omega : (l : Int) ≤ (n : Int))]
/-- From w to w1 only the block g has been written, which now holds D. -/
def Stored (w w1 : World) (g : Nat) (D : List Value) (T : TypeId) : Prop := Blk w1 g D T ∧ (∀ k, k ≠ g → w1.heap[k]? = w.heap[k]?) ∧ w1.heap.size = w.heap.size ∧ w1.os = w.os ∧ w1.tape = w.tape ∧ w1.output = w.output
section
variable {w w1 w0 : World} {g : Nat} {D : List Value} {T : TypeId}
theorem Stored.other (h : Stored w w1 g D T) {B : Nat} {C : List Value} {T' : TypeId} (hb : Blk w B C T') (hne : B ≠ g) : Blk w1 B C T' := (h.2.1 B hne).trans hb
theorem Stored.below (h : Stored w w1 g D T) {n : Nat} (hb : Below n w0 w) (hn : n ≤ g) : Below n w0 w1 :=
  ⟨h.2.2.2.1.trans hb.os, h.2.2.2.2.1.trans hb.tape, h.2.2.2.2.2.trans hb.output, by rw [h.2.2.1]; exact hb.size, fun k hk => (h.2.1 k (by omega)).trans (hb.block k hk)⟩
theorem Stored.drewN (h : Stored w w1 g D T) (a : Nat) : Stored w (w1.drewN a) g D T := h
end
theorem setCells_io (B : Nat) : ∀ (vs : List Value) (o : Nat) (w : World), (w.setCells B o vs).os = w.os ∧ (w.setCells B o vs).tape = w.tape ∧ (w.setCells B o vs).output = w.output
  | [], _, _ => ⟨rfl, rfl, rfl⟩
  | v :: vs, o, w => by rw [World.setCells]; exact setCells_io B vs (o + 1) (w.setCell ⟨B, o, none⟩ v)
theorem Stored.of_setCells {w : World} {g : Nat} {C : List Value} {T : TypeId} (h : Blk w g C T) (o : Nat) (vs : List Value) (hl : o + vs.length ≤ C.length) : Stored w (w.setCells g o vs) g (C.take o ++ vs ++ C.drop (o + vs.length)) T :=
  ⟨h.setCells vs o hl, fun k hk => heap_setCells_other g k hk vs o w, size_setCells g vs o w, setCells_io g vs o w⟩
theorem Stored.of_setCell {w : World} {g : Nat} {C : List Value} {T : TypeId} (h : Blk w g C T) (o : Nat) (v : Value) : Stored w (w.setCell ⟨g, o, none⟩ v) g (C.set o v) T :=
  ⟨h.set o v, fun k hk => heap_setCell_other _ _ _ _ hk, by simp [World.setCell], rfl, rfl, rfl⟩

theorem wpList_load_blk {P : Program} {w : World} {ops : Array Oper} {rest : List Oper} {o : Oper} {a : Act} {Q : Exit → Act → World → Prop} (hgd : o.guard = none) (ty : TypeId) (x : Operand) (ho : o.op = .load ty x)
    (g j : Nat) (hx : a.eval x = .pointer (some ⟨g, j, none⟩)) {C : List Value} {T : TypeId} (hb : Blk w g C T) (d : TypeDesc) (hu : P.underlying ty = some d) (hd : d.isRow = true) (n : Nat) (hi : (P.info? ty).map (·.size) = some n) (hn : j + n ≤ C.length)
    (h : wpList P ops Q rest (a.put o.dst (.agg ((C.drop j).take n).toArray)) w) : wpList P ops Q (o :: rest) a w :=
  wpList_load_mid hgd ty x ho g j hx _ d (hb.range j n) hu hd (by rw [hi, List.length_take, List.length_drop]; congr 1; omega) h

theorem wpList_store_blk {P : Program} {w : World} {ops : Array Oper} {rest : List Oper} {o : Oper} {a : Act} {Q : Exit → Act → World → Prop} (hgd : o.guard = none) (ty : TypeId) (x y : Operand) (ho : o.op = .store ty x y)
    (g j : Nat) (hx : a.eval x = .pointer (some ⟨g, j, none⟩)) (D : List Value) (hy : a.eval y = .agg D.toArray) {C : List Value} {T : TypeId} (hb : Blk w g C T) (n : Nat) (hi : (P.info? ty).map (·.size) = some n) (hD : D.length = n) (hn : j + n ≤ C.length) (h1 : ∀ u ∈ D, u.oneCell' = true)
    (h : ∀ w1, Stored w w1 g (C.take j ++ D ++ C.drop (j + n)) T → wpList P ops Q rest (a.put o.dst undef) w1) : wpList P ops Q (o :: rest) a w := by
  subst hD
  refine wpList_store_mid hgd ty x y ho g j D.toArray hx hy (hb.there j _ (by simpa using hn)) (by simpa using hi) (all_oneCell_toArray h1) ?_
  exact h _ (Stored.of_setCells hb j D hn)

theorem ret_blk {P : Program} {fn : Func} {p : Tmp} {ty : TypeId} {R : Ending → World → Prop} {a : Act} {w : World} (hr : fn.results = #[.cell p ty]) (g : Nat) (hp : a.tmps.getD p undef = .pointer (some ⟨g, 0, none⟩)) {C : List Value} {T : TypeId} (hb : Blk w g C T) (d : TypeDesc) (hu : P.underlying ty = some d) (hd : d.isRow = true)
    (hi : (P.info? ty).map (·.size) = some C.length) (hdf : a.defers = []) (hR : R (.returned (.agg C.toArray)) w) : bodyPost P fn R .ret a w :=
  bodyPost_ret (results_cell_row hr _ w g T C.toArray (0, 0) d hp hb hu (by cases d <;> simp_all) (by simpa using hi)) hdf hR
/-- An element of an array by value. -/
theorem index_val {P : Program} {t e : TypeId} {n : Nat} (hu : P.underlying t = some (.array n e)) (hs : (P.info? e).map (·.size) = some 1) (he : ∀ w, (isAgg e).run P w = .ok false w) (A : Array Value) (k : IntKind) (i : Nat) (hi : i < n) (v : Value) (hv : A[i]? = some v) (w : World) :
    (Instr.index t (.agg A) (.int k (i : Int))).run P w = .ok v w := by
  cases hq : P.info? e with
  | none => simp [hq] at hs
  | some j =>
    have hs' : j.size = 1 := by simpa [hq] using hs
    simp [Instr.index, run_underlying hu, asIntOf, sizeOf, typeInfo, hq, hs', part, he, hv]
    intro h
    omega
/-- A number into one cell of a block. -/
theorem wpList_store_int {P : Program} {w : World} {ops : Array Oper} {rest : List Oper} {o : Oper} {a : Act} {Q : Exit → Act → World → Prop} (hgd : o.guard = none) (ty : TypeId) (x y : Operand) (ho : o.op = .store ty x y)
    (g j : Nat) (hx : a.eval x = .pointer (some ⟨g, j, none⟩)) (k : IntKind) (u : Int) (hy : a.eval y = .int k u) {C : List Value} {T : TypeId} (hb : Blk w g C T) (hj : j < C.length) (hi : (P.info? ty).map (·.size) = some 1)
    (h : ∀ w1, Stored w w1 g (C.set j (.int k u)) T → wpList P ops Q rest (a.put o.dst undef) w1) : wpList P ops Q (o :: rest) a w := by
  refine wpList_plain hgd fun _ hK => ?_
  have hst := run_storeCells_cells (P := P) g j [Value.int k u] 0 w (fun i hi => by have h0 : i = 0 := by simpa using hi
                                                                                    subst h0; exact (hb.there j 1 (by omega) 0 (by omega)).1) (fun i hi => by have h0 : i = 0 := by simpa using hi
                                                                                                                                                              subst h0; exact (hb.there j 1 (by omega) 0 (by omega)).2) (fun v hv => by have hv' : v = .int k u := by simpa using hv
                                                                                                                                                                                                                                        subst hv'; rfl)
  have hrun : (Instr.storeAt ty (.pointer (some ⟨g, j, none⟩)) (.int k u)).run P w = .ok () (w.setCell ⟨g, j, none⟩ (.int k u)) := by
    cases hq : P.info? ty with
    | none => simp [hq] at hi
    | some i =>
      have hi' : i.size = 1 := by simpa [hq] using hi
      have hst' : (storeCells ⟨g, j, none⟩ [Value.int k u] 0).run P w = .ok () (w.setCell ⟨g, j, none⟩ (.int k u)) := hst
      simp [Instr.storeAt, Instr.sureAddr, storeVar, sizeOf, typeInfo, hq, hi', Value.cells, hst']
  unfold Oper.wp execOp
  simp only [ho, hx, hy, Sem.run_bind, Sem.run_pure, Result.andThen_ok, hrun]
  exact hK _ _ (h _ (Stored.of_setCell hb j _))
/-- What a store of many cells does, as the walk meets it. -/
theorem blk_store {P : Program} {w : World} {g : Nat} {C : List Value} {T : TypeId} (hb : Blk w g C T) (j : Nat) (D : List Value) (hn : j + D.length ≤ C.length) (h1 : ∀ u ∈ D, u.oneCell' = true) :
    ∃ w1, (storeCells ⟨g, j, none⟩ D).run P w = .ok () w1 ∧ Stored w w1 g (C.take j ++ D ++ C.drop (j + D.length)) T := by
  refine ⟨w.setCells g j D, ?_, Stored.of_setCells hb j D hn⟩
  have := run_storeCells_cells (P := P) g j D 0 w (fun i hi => by have := (hb.there j _ hn i hi).1; simpa using this) (fun i hi => by have := (hb.there j _ hn i hi).2; simpa using this) h1
  simpa using this
/-- .. of a whole block. -/
theorem blk_store_all {P : Program} {w : World} {g : Nat} {C : List Value} {T : TypeId} (hb : Blk w g C T) (D : List Value) (hn : D.length = C.length) (h1 : ∀ u ∈ D, u.oneCell' = true) :
    ∃ w1, (storeCells ⟨g, 0, none⟩ D).run P w = .ok () w1 ∧ Stored w w1 g D T := by
  obtain ⟨w1, h, hs⟩ := blk_store (P := P) hb 0 D (by omega) h1
  rw [List.take_zero, List.nil_append, List.drop_of_length_le (by omega), List.append_nil] at hs
  exact ⟨w1, h, hs⟩
def tb (l : List UInt8) : ByteArray := ⟨l.toArray⟩
theorem tb_size (l : List UInt8) : (tb l).size = l.length := by simp [tb, ByteArray.size]
theorem tb_list (l : List UInt8) : (tb l).data.toList = l := by simp [tb]
theorem tb_toList (l : List UInt8) : (tb l).toList = l := ByteArray.toList_mk l
theorem tb_append (a b : List UInt8) : tb a ++ tb b = tb (a ++ b) := by
  apply ByteArray.ext
  apply Array.ext'
  simp [tb, ByteArray.data_append]
theorem tb_inj {a b : List UInt8} (h : tb a = tb b) : a = b := by rw [← tb_list a, h, tb_list]
/-- What + makes of two strings. -/
theorem run_cat {P : Program} (x y : ByteArray) (h : x.size + y.size ≤ 4611686018427387904) (w : World) : (Op.stringOp .add x y).run P w = .ok (.string (x ++ y)) w := by
  have h1 : ¬ (((x.size + y.size : Nat) : Int) > IntKind.i64.max) := by
    have : IntKind.i64.max = 9223372036854775807 := rfl
    omega
  simp only [Op.stringOp, if_neg h1, Sem.run_pure]
theorem cat_tb {P : Program} {a b c : List UInt8} (h : a ++ b = c) (hl : c.length ≤ 4611686018427387904) (w : World) : (Op.stringOp .add (tb a) (tb b)).run P w = .ok (.string (tb c)) w := by
  subst h
  rw [run_cat _ _ (by rw [tb_size, tb_size]; simpa using hl), tb_append]
theorem below_next {w0 w w' : World} (h : Below w0.heap.size w0 w) (k : Below w.heap.size w w') : Below w0.heap.size w0 w' := h.trans (k.mono h.size)
theorem below_drewN {w0 w : World} (h : Below w0.heap.size w0 w) (n : Nat) : Below w0.heap.size w0 (w.drewN n) := ⟨h.os, h.tape, h.output, h.size, h.block⟩
theorem below_a1 (w : World) (o : Obj) : Below w.heap.size w (w.alloc o) := (Below.refl _ _).alloc (Nat.le_refl _) o
theorem below_al {w0 w : World} (h : Below w0.heap.size w0 w) (o : Obj) : Below w0.heap.size w0 (w.alloc o) := h.alloc h.size o

theorem Blk.at (w : World) (C : List Value) (A : Array Value) (T : TypeId) (B : Nat) (hA : A = C.toArray) (hB : B = w.heap.size) : Blk (w.alloc (.cells A T)) B C T := by subst hB; exact Blk.new' w C A T hA


def iv (l : List Int) : List Value := l.map (Value.int .i64)
theorem iv_length (l : List Int) : (iv l).length = l.length := by simp [iv]
theorem iv_one (l : List Int) : ∀ u ∈ iv l, u.oneCell' = true := fun u hu => by
  obtain ⟨_, _, rfl⟩ := List.mem_map.1 hu
  rfl
theorem iv_snoc (D : List Int) (x : Int) : iv (D ++ [x]) = iv D ++ [.int .i64 x] := by simp [iv]
theorem iv_get {l : List Int} {k : Nat} (h : k < l.length) : (iv l)[k]? = some (.int .i64 (l.getD k 0)) := by simp [iv, h]
theorem iv_ne {l : List Int} (h : l ≠ []) : iv l ≠ [] := by intro e; exact h (by simpa [iv] using e)
def inI (n : Int) : Prop := -9223372036854775808 ≤ n ∧ n ≤ 9223372036854775807
theorem Try.sizeInt : (Try.prog.info? 3).map (·.size) = some 1 := by kernel_rfl
theorem Try.infoInt : (Try.prog.info? 3).map (fun i => (i.zero, i.size, i.bytes)) = some (some (.int .i64 0), 1, 8) := by kernel_rfl
theorem Try.infoStr : (Try.prog.info? 9).map (fun i => (i.zero, i.size, i.bytes)) = some (some (.string ⟨#[]⟩), 1, 16) := by kernel_rfl
theorem Try.infoByte : (Try.prog.info? 5).map (fun i => (i.zero, i.size, i.bytes)) = some (some (.int .u8 0), 1, 1) := by kernel_rfl
/-- copy onto a block that is known whole, from a slice that reads as numbers. -/
theorem wpList_copy_iv {P : Program} {w : World} {ops : Array Oper} {rest : List Oper} {o : Oper} {a : Act} {Q : Exit → Act → World → Prop} (hgd : o.guard = none) (d s : Operand) (dT sT : TypeId)
    (ho : o.op = .call { callee := .builtin .copy, args := #[d, s], argTypes := #[dT, sT] }) (elem : TypeId) (hu : P.underlying dT = some (.slice elem)) (hsz : (P.info? elem).map (·.size) = some 1)
    (g dLen dCap b q sLen sCap : Nat) (hd : a.eval d = .slice (some ⟨g, 0, none⟩) dLen dCap) (hs : a.eval s = .slice (some ⟨b, q, none⟩) sLen sCap)
    {C : List Value} {T : TypeId} (hb : Blk w g C T) (l : List Value) (hn : l.length = Nat.min sLen dLen) (hsrc : ∀ j v, l[j]? = some v → w.cell? ⟨b, q + j, none⟩ = some v) (hfit : l.length ≤ C.length) (h1 : ∀ v ∈ l, v.oneCell' = true)
    (h : ∀ w1, Stored w w1 g (l ++ C.drop l.length) T → wpList P ops Q rest (a.put o.dst (goInt l.length)) w1) : wpList P ops Q (o :: rest) a w := by
  have hadd : ∀ j, (⟨b, q, none⟩ : Addr).add j = ⟨b, q + j, none⟩ := fun j => by unfold Addr.add; split <;> simp_all
  refine wpList_copy_own hgd d s dT sT ho elem hu hsz g 0 dLen dCap ⟨b, q, none⟩ sLen sCap hd hs C.toArray T hb l hn (fun j v hv => by rw [hadd]; exact hsrc j v hv) (by simpa using hfit) h1 ?_
  refine h _ ⟨?_, fun k hk => setRow_other w g k _ hk, by simp [World.setRow], rfl, rfl, rfl⟩
  have := setRow_heap w g C.toArray (C.toArray.toList.take 0 ++ (l ++ C.toArray.toList.drop (0 + l.length))).toArray T (0, 0) hb
  simpa [Blk] using this

def tv (l : List (List UInt8)) : List Value := l.map fun x => .string (tb x)
theorem tv_len (l : List (List UInt8)) : (tv l).length = l.length := by simp [tv]
theorem tv_get (l : List (List UInt8)) (k : Nat) (h : k < l.length) : (tv l)[k]? = some (.string (tb (l.getD k []))) := by simp [tv, List.getD, h]
theorem tv_snoc (l : List (List UInt8)) (x : List UInt8) : tv (l ++ [x]) = tv l ++ [.string (tb x)] := by simp [tv]
theorem tv_one (l : List (List UInt8)) : ∀ u ∈ tv l, u.oneCell' = true := fun u hu => by
  obtain ⟨_, _, rfl⟩ := List.mem_map.1 hu
  rfl
theorem own_empty {w : World} {g base : Nat} {e : TypeId} (h : Blk w g [] e) (hb : base ≤ g) : w.ownsRow base e 1 (.slice (some ⟨g, 0, none⟩) 0 0) 0 [] :=
  ⟨rfl, .inr ⟨g, 0, #[], rfl, hb, h, Nat.le_refl _, Nat.zero_le _, rfl, rfl⟩⟩
theorem src_blk {P : Program} {tx e' : TypeId} {size n : Nat} (hk : P.underlying tx = some (.slice e')) (hs : size = 1) {w : World} {B : Nat} {C : List Value} {T : TypeId} (h : Blk w B C T) (hn : C.length = n) (h1 : ∀ u ∈ C, u.oneCell' = true) (c : Nat) : Src P size tx (.slice (some ⟨B, 0, none⟩) n c) n C w := by
  refine Src.ofSlice _ hk _ _ _ _ (by rw [hs, hn, Nat.mul_one]) (fun j u hu => ?_) h1
  have hadd : (⟨B, 0, none⟩ : Addr).add j = ⟨B, j, none⟩ := by unfold Addr.add; split <;> simp_all
  rw [hadd]
  exact h.cell hu
theorem step_own {P : Program} {w : World} {ops : Array Oper} {o : Oper} {a : Act} {K : Act → World → Prop} {Q : Exit → Act → World → Prop} {E : Prop} (hgd : o.guard = none) (s x : Operand) (t tx : TypeId)
    (ho : o.op = .call { callee := .builtin .append, args := #[s, x], argTypes := #[t, tx] })
    (base : Nat) (e : TypeId) (i : TypeInfo) (z : Value) (size bytes : Nat) (ht : P.underlying t = some (.slice e)) (hi : P.info? e = some i) (hz : i.zero = some z)
    (hsize : i.size = size) (hby : i.bytes = bytes) (hzs : z.cells.size = size) (v : Value) (n : Nat) (xs : List Value) (hs : a.eval s = v) (hown : w.ownsRow base e size v n xs)
    (y : Value) (m : Nat) (news : List Value) (hx : a.eval x = y) (hsrc : Src P i.size tx y m news w) (h63 : n + m ≤ maxLen) (hbytes : (n + m) * bytes ≤ 140737488355328) (hbase : base ≤ w.heap.size)
    (h : ∀ v' w', w'.ownsRow base e size v' (n + m) (xs ++ news) → w.grownBy w' v.ownBlock → (v'.ownBlock = v.ownBlock ∨ v'.ownBlock = some w.heap.size) → K (a.put o.dst v') w') :
    if Region.wanted o (yielded ops a.tmps) = true then Oper.wp P o a w K Q else E := by
  rw [if_pos (by simp [Region.wanted, hgd])]
  exact wp_own_src s x t tx ho base e i z size bytes ht hi hz hsize hby hzs v n xs hs hown y m news hx hsrc h63 hbytes hbase h
theorem own_alc {w : World} {base : Nat} {e : TypeId} {size n : Nat} {v : Value} {xs : List Value} (h : w.ownsRow base e size v n xs) (o : Obj) : (w.alloc o).ownsRow base e size v n xs := own_keep h (below_a1 w o)
theorem ret_bool {a b : Bool} (h : a = b) : Ending.returned (.bool a) = .returned (.bool b) := by rw [h]
theorem ret_int {k : IntKind} {a b : Int} (h : a = b) : Ending.returned (.int k a) = .returned (.int k b) := by rw [h]
end Go.Proofs.Ytalladdmedmfeaa
