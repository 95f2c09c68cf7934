/-
  The reference's Spans: the list of the spans that Made makes of pairs of numbers.
-/
import Derived.Test.YtkaaejfochdjcaaDoorCRMade2
import Derived.Test.YtkaaejfochdjcaaDoorCFirst
import Derived.Test.YtkaaejfochdjcaaDoorCRdD
import Derived.Deep.RegionHeld3
import Derived.IntWalk
namespace Go.Proofs.YtkaaejfochdjcaaDoor
open Go.RowKit
open Cal
set_option linter.unusedVariables false
set_option linter.unusedSimpArgs false

theorem made_fun : ∃ f : Int → Int → Int × Int, ∀ a b, inI a → inI b → vaB (f a b).1 (f a b).2 = true ∧ ∀ w, Calls Tryd.prog 27 #[.int .i64 a, .int .i64 b] w fun e w' => e = .returned (.agg #[.int .i64 (f a b).1, .int .i64 (f a b).2]) ∧ Below w.heap.size w w' := by
  have h : ∀ a b : Int, ∃ r : Int × Int, inI a → inI b → vaB r.1 r.2 = true ∧ ∀ w, Calls Tryd.prog 27 #[.int .i64 a, .int .i64 b] w fun e w' => e = .returned (.agg #[.int .i64 r.1, .int .i64 r.2]) ∧ Below w.heap.size w w' := fun a b => by
    by_cases ha : inI a
    · by_cases hb : inI b
      · obtain ⟨p, q, h1, h2⟩ := made_ex a b ha hb
        exact ⟨(p, q), fun _ _ => ⟨h1, h2⟩⟩
      · exact ⟨(0, 0), fun _ h => absurd h hb⟩
    · exact ⟨(0, 0), fun h _ => absurd h ha⟩
  exact ⟨fun a b => (h a b).choose, fun a b ha hb => (h a b).choose_spec ha hb⟩
def spP (f : Int → Int → Int × Int) : Nat → List Int → List (Int × Int)
  | k + 1, a :: b :: t => f a b :: spP f k t
  | _, _ => []
theorem spP_len (f : Int → Int → Int × Int) (k : Nat) (l : List Int) : (spP f k l).length ≤ k := by
  induction k generalizing l with
  | zero => simp [spP]
  | succ k ih =>
    match l with
    | [] => simp [spP]
    | [_] => simp [spP]
    | a :: b :: t => have := ih t; simp only [spP, List.length_cons]; omega
theorem spP_mem (f : Int → Int → Int × Int) (k : Nat) (l : List Int) (hl : ∀ x ∈ l, inI x) : ∀ x ∈ spP f k l, ∃ a b, inI a ∧ inI b ∧ x = f a b := by
  induction k generalizing l with
  | zero => simp [spP]
  | succ k ih =>
    match l with
    | [] => simp [spP]
    | [_] => simp [spP]
    | a :: b :: t =>
      intro x hx
      simp only [spP, List.mem_cons] at hx
      rcases hx with rfl | hx
      · exact ⟨a, b, hl a (by simp), hl b (by simp), rfl⟩
      · exact ih t (fun y hy => hl y (by simp [hy])) x hx
theorem spP_end (f : Int → Int → Int × Int) (k : Nat) (l : List Int) (h : k = 0 ∨ l.length < 2) : spP f k l = [] := by
  cases k with
  | zero => simp [spP]
  | succ k =>
    match l with
    | [] => simp [spP]
    | [_] => simp [spP]
    | a :: b :: t => simp only [List.length_cons] at h; omega
theorem spP_step (f : Int → Int → Int × Int) (k i : Nat) (l : List Int) (h : i + 1 < l.length) : spP f (k + 1) (l.drop i) = f (l.getD i 0) (l.getD (i + 1) 0) :: spP f k (l.drop (i + 2)) := by
  rw [List.drop_eq_getElem_cons (by omega), List.drop_eq_getElem_cons h]
  simp [spP, List.getD, show i < l.length by omega, h]
theorem Cal.step_own {P : Program} {w : World} {ops : Array Oper} {o : Oper} {a : Act} {K : Act → World → Prop} {Q : Exit → Act → World → Prop} {E : Prop} (hgd : o.guard = none) (s x : Operand) (t tx : TypeId)
    (ho : o.op = .call { callee := .builtin .append, args := #[s, x], argTypes := #[t, tx] })
    (base : Nat) (e : TypeId) (i : TypeInfo) (z : Value) (size bytes : Nat) (ht : P.underlying t = some (.slice e)) (hi : P.info? e = some i) (hz : i.zero = some z)
    (hsize : i.size = size) (hby : i.bytes = bytes) (hzs : z.cells.size = size) (v : Value) (n : Nat) (xs : List Value) (hs : a.eval s = v) (hown : w.ownsRow base e size v n xs)
    (y : Value) (m : Nat) (news : List Value) (hx : a.eval x = y) (hsrc : Src P i.size tx y m news w) (h63 : n + m ≤ maxLen) (hbytes : (n + m) * bytes ≤ 140737488355328) (hbase : base ≤ w.heap.size)
    (h : ∀ v' w', w'.ownsRow base e size v' (n + m) (xs ++ news) → w.grownBy w' v.ownBlock → (v'.ownBlock = v.ownBlock ∨ v'.ownBlock = some w.heap.size) → K (a.put o.dst v') w') :
    if Region.wanted o (yielded ops a.tmps) = true then Oper.wp P o a w K Q else E := by
  rw [if_pos (by simp [Region.wanted, hgd])]
  exact wp_own_src s x t tx ho base e i z size bytes ht hi hz hsize hby hzs v n xs hs hown y m news hx hsrc h63 hbytes hbase h
theorem sv_snoc (D : List (Int × Int)) (x : Int × Int) : sv (D ++ [x]) = sv D ++ [.int .i64 x.1, .int .i64 x.2] := by simp [sv]
theorem src_pair {P : Program} {size : Nat} {tx e' : TypeId} (hk : P.underlying tx = some (.slice e')) (hs : size = 2) (w : World) (x y : Value) (t : TypeId) (h1 : x.oneCell' = true) (h2 : y.oneCell' = true) (B : Nat) (hB : B = w.heap.size) :
    Src P size tx (.slice (some ⟨B, 0, none⟩) 1 1) 1 [x, y] (w.alloc (.cells #[x, y] t)) := by
  subst hB
  refine Src.ofSlice _ hk _ _ _ _ (by simp [hs]) (fun j u hu => ?_) (by simpa using ⟨h1, h2⟩)
  have hadd : (⟨w.heap.size, 0, none⟩ : Addr).add j = ⟨w.heap.size, j, none⟩ := by unfold Addr.add; split <;> simp_all
  rw [hadd]
  exact (Blk.at w [x, y] _ t _ rfl rfl).cell hu
theorem Tryd.infoSpan : (Tryd.prog.info? 30).map (fun i => (i.zero, i.size, i.bytes)) = some (some (.agg #[.int .i64 0, .int .i64 0]), 2, 16) := by kernel_rfl
def SpPost (w : World) (S : List (Int × Int)) (e : Ending) (w' : World) : Prop := ∃ (A : Option Addr) (c : Nat), e = .returned (.slice A S.length c) ∧ Rd w' A (sv S) ∧ S.length ≤ c ∧ c ≤ maxLen ∧ Below w.heap.size w w'
theorem sp_out {w w' : World} {S : List (Int × Int)} {e : Ending} (h : SpPost w S e w') : ∃ (A : Option Addr) (c : Nat), e = .returned (.slice A S.length c) ∧ Rd w' A (sv S) ∧ S.length ≤ c ∧ c ≤ maxLen ∧ Below w.heap.size w w' := h
/-- What Spans keeps in its loop. -/
def SpI (w : World) (S : List (Int × Int)) (f : Int → Int → Int × Int) (l : List Int) (j k i : Nat) (v : Value) (D : List (Int × Int)) (wr : World) : Prop :=
  wr.ownsRow w.heap.size 30 2 v D.length (sv D) ∧ Below w.heap.size w wr ∧ D.length = j ∧ i = 2 * j ∧ S = D ++ spP f k (l.drop i)
theorem own_alc {w : World} {base : Nat} {e : TypeId} {size n : Nat} {v : Value} {xs : List Value} (h : w.ownsRow base e size v n xs) (o : Obj) : (w.alloc o).ownsRow base e size v n xs := own_keep h (below_a1 w o)
set_option maxRecDepth 100000 in
set_option maxHeartbeats 4000000 in
theorem spans_nil (M : Nat) (c : Nat) (w : World) (A : Option Addr) : Calls Tryd.prog 31 #[.slice A 0 c, .int .i64 M] w (SpPost w []) := by
  go_enter Tryd.func31, Tryd.ntmps31
  go_wp2_with fail
  go_loopg [5, 6] 0 (fun g s5 s6 wr => s5 = .slice none 0 0 ∧ s6 = .int .i64 0 ∧ wr = w)
  case atStart => exact ⟨rfl, rfl, rfl⟩
  case round =>
    obtain ⟨rfl, rfl, rfl⟩ := hrel
    go_wp2_with fail
    go_ret
    exact ⟨none, 0, rfl, .inl rfl, Nat.le_refl _, Nat.zero_le _, Below.refl _ _⟩
set_option maxRecDepth 100000 in
set_option maxHeartbeats 4000000 in
theorem spans_aux (f : Int → Int → Int × Int) (hf : ∀ a b, inI a → inI b → vaB (f a b).1 (f a b).2 = true ∧ ∀ w, Calls Tryd.prog 27 #[.int .i64 a, .int .i64 b] w fun e w' => e = .returned (.agg #[.int .i64 (f a b).1, .int .i64 (f a b).2]) ∧ Below w.heap.size w w')
    (l : List Int) (hl : ∀ x ∈ l, inI x) (M : Nat) (hM : M ≤ 100) (S : List (Int × Int)) (hS : S = spP f M l) (n : Nat) (hn : n = l.length) (b o c : Nat) (hc : n ≤ c) (hm : c ≤ maxLen) (w : World) (hr : ∀ j v, (iv l)[j]? = some v → w.cell? ⟨b, o + j, none⟩ = some v) :
    Calls Tryd.prog 31 #[.slice (some ⟨b, o, none⟩) n c, .int .i64 M] w (SpPost w S) := by
  have hm' : c ≤ 9223372036854775807 := by unfold maxLen at hm; omega
  obtain ⟨i0, hi0, hz0, hz1, hz2⟩ := info_parts Tryd.infoSpan
  have HR : Hid (∀ k, k < n → w.cell? ⟨b, o + k, none⟩ = some (.int .i64 (l.getD k 0)) ∧ b < w.heap.size ∧ inI (l.getD k 0)) := Lib.hid fun k hk => by
    have h1 := hr k (.int .i64 (l.getD k 0)) (by simp [iv, List.getD, show k < l.length by omega])
    exact ⟨h1, World.block_lt_of_cell? w _ h1, hl _ (by simp [List.getD, show k < l.length by omega])⟩
  have HF := Lib.hid hf
  have HN := Lib.hid hn
  have HS := Lib.hid hS
  clear hr hn hS hf hl
  go_enter Tryd.func31, Tryd.ntmps31
  go_wp2_with fail
  go_loopg [5, 6] M (fun g s5 s6 wr => ∃ (j i : Nat) (D : List (Int × Int)), j + g = M ∧ s6 = .int .i64 (i : Int) ∧ Hid (SpI w S f l j g i s5 D wr))
  case atStart => exact ⟨0, 0, [], by omega, rfl, Lib.hid ⟨⟨rfl, .inl ⟨rfl, rfl⟩⟩, Below.refl _ _, rfl, rfl, HS.out⟩⟩
  case round =>
    obtain ⟨j, i, D, hj, rfl, HI⟩ := hrel
    obtain ⟨A, cp, hv, hrd, hmc, hcm⟩ := Rd.of_own HI.out.1
    subst hv
    obtain ⟨hown, hbel, hDj, hi2, hSE⟩ := HI.out
    clear HI
    rw [hDj] at hown hmc
    rw [hDj]
    have hcp : cp ≤ 9223372036854775807 := by unfold maxLen at hcm; omega
    have HRD := Lib.hid hrd
    have HDJ := Lib.hid hDj
    have HI2 := Lib.hid hi2
    have hib : i ≤ 200 := by omega
    have HSE := Lib.hid hSE
    have HO := Lib.hid hown
    have HB := Lib.hid hbel
    clear hrd hDj hi2 hSE hown hbel
    by_cases h1 : i + 1 < n
    · have h1' : ((i : Int) + 1) < (n : Int) := by omega
      by_cases h2 : j < M
      · obtain ⟨g, rfl⟩ : ∃ g, gk = g + 1 := ⟨gk - 1, by omega⟩
        obtain ⟨x, hx⟩ : ∃ x, x = l.getD i 0 := ⟨_, rfl⟩
        obtain ⟨y, hy⟩ : ∃ y, y = l.getD (i + 1) 0 := ⟨_, rfl⟩
        have hx0 := HR.out i (by omega)
        have hy0 := HR.out (i + 1) h1
        rw [← hx] at hx0
        rw [← hy] at hy0
        have hc0 : wr.cell? ⟨b, o + i, none⟩ = some (.int .i64 x) := (HB.out.cell (p := ⟨b, o + i, none⟩) hx0.2.1).trans hx0.1
        have hc1 : wr.cell? ⟨b, o + (i + 1), none⟩ = some (.int .i64 y) := (HB.out.cell (p := ⟨b, o + (i + 1), none⟩) hx0.2.1).trans hy0.1
        have hst := spP_step f g i l (by rw [← HN.out]; exact h1)
        rw [← hx, ← hy] at hst
        have HP : Hid (∀ W, Below w.heap.size w W → W.cell? ⟨b, o + i, none⟩ = some (.int .i64 x) ∧ W.cell? ⟨b, o + (i + 1), none⟩ = some (.int .i64 y)) := Lib.hid fun W h => ⟨(h.cell (p := ⟨b, o + i, none⟩) hx0.2.1).trans hx0.1, (h.cell (p := ⟨b, o + (i + 1), none⟩) hx0.2.1).trans hy0.1⟩
        have HMD := Lib.hid (HF.out x y hx0.2.2 hy0.2.2).2
        obtain ⟨⟨p, q⟩, hpq⟩ : ∃ r, r = f x y := ⟨_, rfl⟩
        rw [← hpq] at hst HMD
        have HST := Lib.hid hst
        clear hx hy hx0 hy0 hst hpq
        go_wp2_with fail
        have e0 : (i : Int) < (n : Int) := by omega
        have e1 : ((i : Int) + 1).toNat = i + 1 := by omega
        have e2 : (0 : Int) ≤ (i : Int) + 1 := by omega
        have e3 : IntKind.i64.wrap ((i : Int) + 1) = (i : Int) + 1 := IntWalk.i64_in _ (by omega)
        have hs1 : j + 1 ≤ maxLen := by unfold maxLen; omega
        have hs2 : (j + 1) * 16 ≤ 140737488355328 := by omega
        clear hc0 hc1
        go_region_held3 (fun w' => w'.cell? ⟨b, o + i, none⟩ = some (.int .i64 x) ∧ w'.cell? ⟨b, o + (i + 1), none⟩ = some (.int .i64 y)) (first | exact HP.out _ HX4.out.2 | exact HP.out _ (below_al HX1.out.2 _) | exact HP.out _ HX1.out.2 | exact HP.out _ HB.out.drew) (first
          | (go_at_call 27; (with_reducible refine (HMD.out _).mono ?_); rintro e w1 ⟨rfl, hb1⟩; have HX1 : Hid (w1.ownsRow w.heap.size 30 2 (.slice A j cp) j (sv D) ∧ Below w.heap.size w w1) := Lib.hid ⟨own_keep (w := wr.drew) HO.out hb1, below_next HB.out.drew hb1⟩; clear hb1)
          | (refine Cal.step_own rfl (.tmp 20) (.tmp 31) 31 31 rfl w.heap.size 30 i0 _ 2 16 Tryd.underlying31 hi0 hz0 hz1 hz2 rfl _ _ _ rfl (own_alc HX1.out.1 _) _ 1 [.int .i64 p, .int .i64 q] rfl (src_pair Tryd.underlying31 hz1 _ _ _ _ rfl rfl _ rfl) hs1 hs2 (below_al HX1.out.2 _).size ?_; intro v4 w4 hown4 hg4 hat4; have HX4 : Hid (w4.ownsRow w.heap.size 30 2 v4 (j + 1) (sv D ++ [.int .i64 p, .int .i64 q]) ∧ Below w.heap.size w w4) := Lib.hid ⟨hown4, below_own (below_al HX1.out.2 _) hg4 (fun g hg => (HX1.out.1.lt _ hg).1)⟩; clear hown4 hg4 hat4))
        go_wp2_with fail
        go_roundg g
        case rel => exact ⟨j + 1, i + 2, D ++ [(p, q)], by omega, by go_num, Lib.hid ⟨by rw [sv_snoc, List.length_append, HDJ.out]; exact HX4.out.1, HX4.out.2, by simp [HDJ.out], by have := HI2.out; omega, by rw [HSE.out, HST.out]; simp⟩⟩
        case measure => omega
      · have hSD : S = D := by rw [HSE.out, spP_end _ _ _ (.inl (by omega)), List.append_nil]
        have HE : Hid (SpPost w S (.returned (.slice A j cp)) wr) := Lib.hid ⟨A, cp, by rw [hSD, HDJ.out], by rw [hSD]; exact HRD.out, by rw [hSD, HDJ.out]; exact hmc, hcm, HB.out⟩
        clear hSD
        go_wp2_with fail
        go_ret
        exact HE.out
    · have h1' : ¬ ((i : Int) + 1) < (n : Int) := by omega
      have hSD : S = D := by rw [HSE.out, spP_end _ _ _ (.inr (by rw [List.length_drop, ← HN.out]; omega)), List.append_nil]
      have HE : Hid (SpPost w S (.returned (.slice A j cp)) wr) := Lib.hid ⟨A, cp, by rw [hSD, HDJ.out], by rw [hSD]; exact HRD.out, by rw [hSD, HDJ.out]; exact hmc, hcm, HB.out⟩
      clear hSD
      go_wp2_with fail
      go_ret
      exact HE.out
theorem spans_any (f : Int → Int → Int × Int) (hf : ∀ a b, inI a → inI b → vaB (f a b).1 (f a b).2 = true ∧ ∀ w, Calls Tryd.prog 27 #[.int .i64 a, .int .i64 b] w fun e w' => e = .returned (.agg #[.int .i64 (f a b).1, .int .i64 (f a b).2]) ∧ Below w.heap.size w w')
    (l : List Int) (hl : ∀ x ∈ l, inI x) (M : Nat) (hM : M ≤ 100) (A : Option Addr) (c : Nat) (hc : l.length ≤ c) (hm : c ≤ maxLen) (w : World) (hr : Rd w A (iv l)) :
    Calls Tryd.prog 31 #[.slice A l.length c, .int .i64 M] w (SpPost w (spP f M l)) := by
  by_cases h0 : l = []
  · subst h0
    have e : spP f M [] = [] := spP_end f M [] (.inr (by simp))
    rw [e]
    exact spans_nil M c w A
  · obtain ⟨b, o, rfl, hcell⟩ := hr.open (by intro e; have := congrArg List.length e; rw [iv_length, List.length_nil] at this; exact h0 (List.eq_nil_of_length_eq_zero this))
    exact spans_aux f hf l hl M hM _ rfl l.length rfl b o c hc hm w hcell
end Go.Proofs.YtkaaejfochdjcaaDoor
