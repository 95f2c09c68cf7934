/-
  The pure side of the stable sort: the strict order that a comparison and the places make, sorted lists, insertion, merging, rotation, blocks.
-/
import Derived.Test.YtalladdmedmfeaaKPure
namespace Go.Proofs.Ytalladdmedmfeaa
set_option linter.unusedVariables false
set_option linter.unusedSimpArgs false
namespace Col
variable {c : Int → Int → Int}
/-- x stands before y in the stable order. -/
def lt (c : Int → Int → Int) (x y : Int) : Prop := c x y < 0 ∨ (c x y = 0 ∧ x < y)
theorem lt_le {x y : Int} (h : lt c x y) : c x y ≤ 0 := by rcases h with h | h <;> omega
theorem lt_tr (hc : Cmp c) {x y u : Int} (h1 : lt c x y) (h2 : lt c y u) : lt c x u := by
  rcases h1 with h1 | ⟨h1, k1⟩
  · exact .inl (hc.lt_le h1 (lt_le h2))
  · rcases h2 with h2 | ⟨h2, k2⟩
    · exact .inl (hc.le_lt (by omega) h2)
    · have h3 : c x u ≤ 0 := hc.tr (b := y) (by omega) (by omega)
      by_cases e : c x u < 0
      · exact .inl e
      · exact .inr ⟨by omega, by omega⟩
theorem lt_irr (hc : Cmp c) {x : Int} (h : lt c x x) : False := by
  have := hc.refl x
  rcases h with h | h <;> omega
/-- Of two places the first stands before the second unless the second is less. -/
theorem lt_of_idx (hc : Cmp c) {x y : Int} (h : ¬ c y x < 0) (hi : x < y) : lt c x y := by
  have := hc.neg x y
  by_cases e : c x y < 0
  · exact .inl e
  · exact .inr ⟨by omega, hi⟩
abbrev Sd (c : Int → Int → Int) (l : List Int) : Prop := l.Pairwise (lt c)
abbrev Up (l : List Int) : Prop := l.Pairwise (· < ·)
theorem sd_app {a b : List Int} : Sd c (a ++ b) ↔ Sd c a ∧ Sd c b ∧ ∀ x ∈ a, ∀ y ∈ b, lt c x y := List.pairwise_append
theorem sd_nil : Sd c [] := List.Pairwise.nil
theorem sd_one (x : Int) : Sd c [x] := List.pairwise_singleton _ _
/-- If the last of a sorted list stands before the first of another one, all do. -/
theorem sd_join (hc : Cmp c) {a b : List Int} (ha : Sd c a) (hb : Sd c b) (h : ∀ x y, a.getLast? = some x → b.head? = some y → lt c x y) : ∀ x ∈ a, ∀ y ∈ b, lt c x y := by
  intro x hx y hy
  rcases List.eq_nil_or_concat a with rfl | ⟨a', l, rfl⟩
  · cases hx
  · cases b with
    | nil => cases hy
    | cons f b' =>
      have hlf : lt c l f := h l f (by simp) rfl
      have h1 : x = l ∨ lt c x l := by
        rw [List.concat_eq_append] at hx ha
        rcases List.mem_append.1 hx with h | h
        · exact .inr ((sd_app.1 ha).2.2 x h l (by simp))
        · exact .inl (by simpa using h)
      have h2 : y = f ∨ lt c f y := by
        rcases List.mem_cons.1 hy with h | h
        · exact .inl h
        · exact .inr ((List.pairwise_cons.1 hb).1 y h)
      have h3 : lt c x f := by
        rcases h1 with rfl | h1
        · exact hlf
        · exact lt_tr hc h1 hlf
      rcases h2 with rfl | h2
      · exact h3
      · exact lt_tr hc h3 h2
/-- Two sorted lists of the same numbers are the same. -/
theorem sd_unique (hc : Cmp c) : ∀ {a b : List Int}, a.Perm b → Sd c a → Sd c b → a = b := by
  intro a
  induction a with
  | nil => intro b h _ _; exact (List.Perm.nil_eq h)
  | cons x a ih =>
    intro b h ha hb
    cases b with
    | nil => exact absurd h.length_eq (by simp)
    | cons y b =>
      have hxy : x = y := by
        by_cases e : x = y
        · exact e
        · have hx : x ∈ b := by
            have : x ∈ y :: b := h.mem_iff.1 (by simp)
            rcases List.mem_cons.1 this with h | h
            · exact absurd h e
            · exact h
          have hy : y ∈ a := by
            have : y ∈ x :: a := h.mem_iff.2 (by simp)
            rcases List.mem_cons.1 this with h | h
            · exact absurd h.symm e
            · exact h
          exact (lt_irr hc (lt_tr hc ((List.pairwise_cons.1 ha).1 y hy) ((List.pairwise_cons.1 hb).1 x hx))).elim
      subst hxy
      rw [ih ((List.perm_cons x).1 h) (List.pairwise_cons.1 ha).2 (List.pairwise_cons.1 hb).2]

/-! ## places -/
theorem getD_mid (A B : List Int) (x : Int) : (A ++ x :: B).getD A.length 0 = x := by simp [List.getD]
theorem getD_mid' {l A B : List Int} {x : Int} {k : Nat} (h : l = A ++ x :: B) (hk : k = A.length) : l.getD k 0 = x := by subst h hk; exact getD_mid A B x
theorem set_mid {A B : List Int} {x y : Int} {k : Nat} (hk : k = A.length) : (A ++ x :: B).set k y = A ++ y :: B := by subst hk; simp
/-- Two neighbours change places. -/
theorem swap_near {A B : List Int} {x y : Int} {k : Nat} (hk : k = A.length) : ((A ++ x :: y :: B).set (k + 1) x).set k y = A ++ y :: x :: B := by
  rw [show A ++ x :: y :: B = (A ++ [x]) ++ y :: B by simp, set_mid (by simp [hk])]
  rw [show (A ++ [x]) ++ x :: B = A ++ x :: x :: B by simp, set_mid hk]
theorem swap_near' {A B : List Int} {x y : Int} {k : Nat} (hk : k = A.length) : ((A ++ x :: y :: B).set k y).set (k + 1) x = A ++ y :: x :: B := by
  rw [set_mid hk, show A ++ y :: y :: B = (A ++ [y]) ++ y :: B by simp, set_mid (by simp [hk])]
  simp
/-- Two far ones. -/
theorem swap_far {A B C : List Int} {x y : Int} {i j : Nat} (hi : i = A.length) (hj : j = A.length + 1 + B.length) : ((A ++ x :: B ++ y :: C).set i y).set j x = A ++ y :: B ++ x :: C := by
  rw [show A ++ x :: B ++ y :: C = A ++ x :: (B ++ y :: C) by simp, set_mid hi, show A ++ y :: (B ++ y :: C) = (A ++ y :: B) ++ y :: C by simp, set_mid (by simp [hj]; omega)]
theorem app_cases (l : List Int) : l = [] ∨ ∃ a x, l = a ++ [x] := by
  rcases List.eq_nil_or_concat l with h | ⟨a, x, h⟩
  · exact .inl h
  · exact .inr ⟨a, x, by simpa using h⟩
theorem cons_cases (l : List Int) : l = [] ∨ ∃ x a, l = x :: a := by cases l <;> simp
theorem split_at (l : List Int) (k : Nat) (h : k ≤ l.length) : ∃ a b, l = a ++ b ∧ a.length = k := ⟨l.take k, l.drop k, (List.take_append_drop k l).symm, by simp; omega⟩

/-! ## insertion -/
theorem ins_done (hc : Cmp c) {X1 X2 : List Int} {y : Int} (hX : Sd c (X1 ++ X2)) (h2 : ∀ x ∈ X2, lt c y x) (h1 : ∀ x, X1.getLast? = some x → lt c x y) : Sd c (X1 ++ y :: X2) := by
  obtain ⟨ha, hb, hab⟩ := sd_app.1 hX
  refine sd_app.2 ⟨ha, List.pairwise_cons.2 ⟨h2, hb⟩, fun x hx u hu => ?_⟩
  rcases List.mem_cons.1 hu with rfl | hu
  · exact sd_join hc ha (sd_one u) (fun x y hx hy => by
      obtain rfl : u = y := by simpa using hy
      exact h1 x hx) x hx u (by simp)
  · exact hab x hx u hu
theorem perm_ins (X1 X2 : List Int) (y : Int) : (X1 ++ y :: X2).Perm ((X1 ++ X2) ++ [y]) := by
  refine (List.perm_middle).trans ?_
  exact (List.perm_append_singleton y (X1 ++ X2)).symm

/-! ## segments -/
def sg (l : List Int) (o n : Nat) : List Int := (l.drop o).take n
theorem sg_app {P M S : List Int} {o n : Nat} (ho : o = P.length) (hn : n = M.length) : sg (P ++ M ++ S) o n = M := by
  subst ho hn
  unfold sg
  rw [List.append_assoc, List.drop_left, List.take_left]
theorem sg_left {P M M' S : List Int} {o n : Nat} (h : o + n ≤ P.length) : sg (P ++ M ++ S) o n = sg (P ++ M' ++ S) o n := by
  unfold sg
  rw [List.append_assoc, List.append_assoc, List.drop_append_of_le_length (by omega), List.drop_append_of_le_length (by omega), List.take_append_of_le_length (by simp; omega), List.take_append_of_le_length (by simp; omega)]
theorem sg_right {P M M' S : List Int} {o n : Nat} (hM : M.length = M'.length) (h : P.length + M.length ≤ o) : sg (P ++ M ++ S) o n = sg (P ++ M' ++ S) o n := by
  unfold sg
  have e1 : (P ++ M ++ S).drop o = S.drop (o - (P.length + M.length)) := by
    rw [List.drop_append, List.drop_of_length_le (by simp; omega)]; simp
  have e2 : (P ++ M' ++ S).drop o = S.drop (o - (P.length + M.length)) := by
    rw [List.drop_append, List.drop_of_length_le (by simp; omega)]; simp [hM]
  rw [e1, e2]
theorem sg_split (l : List Int) (o n m : Nat) : sg l o (n + m) = sg l o n ++ sg l (o + n) m := by
  unfold sg
  rw [← List.drop_drop]
  exact List.take_add
theorem sg_length (l : List Int) (o n : Nat) : (sg l o n).length = min n (l.length - o) := by simp [sg]
theorem sg_more {l : List Int} {o n m : Nat} (h : l.length ≤ o + n) (hm : n ≤ m) : sg l o m = sg l o n := by
  unfold sg
  rw [List.take_of_length_le (by simp; omega), List.take_of_length_le (by simp; omega)]
theorem sg_open (l : List Int) (o n : Nat) (h : o + n ≤ l.length) : ∃ P S, l = P ++ sg l o n ++ S ∧ P.length = o ∧ (sg l o n).length = n :=
  ⟨l.take o, l.drop (o + n), by unfold sg; rw [List.append_assoc, ← List.drop_drop, List.take_append_drop, List.take_append_drop], by simp; omega, by simp [sg]; omega⟩
/-- From o on n numbers of d are sorted, and those of d0. -/
def Ok (c : Int → Int → Int) (d0 d : List Int) (o n : Nat) : Prop := (sg d o n).Perm (sg d0 o n) ∧ Sd c (sg d o n)
theorem Ok.more {d0 d : List Int} {o n m : Nat} (h : Ok c d0 d o n) (hl : d.length = d0.length) (hn : d.length ≤ o + n) (hm : n ≤ m) : Ok c d0 d o m := by
  unfold Ok
  rw [sg_more hn hm, sg_more (by omega) hm]
  exact h
theorem Ok.none {d0 d : List Int} {o n : Nat} (hl : d.length = d0.length) (h : d.length ≤ o) : Ok c d0 d o n := by
  have e1 : sg d o n = [] := by unfold sg; rw [List.drop_of_length_le h]; simp
  have e2 : sg d0 o n = [] := by unfold sg; rw [List.drop_of_length_le (by omega)]; simp
  unfold Ok
  rw [e1, e2]
  exact ⟨List.Perm.nil, sd_nil⟩
theorem up_seg {d0 : List Int} (h : Up d0) {o n m k : Nat} (hk : o + n ≤ m) : ∀ x ∈ sg d0 o n, ∀ y ∈ sg d0 m k, x < y := by
  intro x hx y hy
  have h1 : x ∈ d0.take (o + n) := by
    unfold sg at hx
    rw [show (d0.drop o).take n = (d0.take (o + n)).drop o by rw [List.drop_take]; congr 1; omega] at hx
    exact List.mem_of_mem_drop hx
  have h2 : y ∈ d0.drop (o + n) := by
    unfold sg at hy
    have := List.mem_of_mem_take hy
    rw [show m = (o + n) + (m - (o + n)) by omega, ← List.drop_drop] at this
    exact List.mem_of_mem_drop this
  have h3 : Up (d0.take (o + n) ++ d0.drop (o + n)) := by rw [List.take_append_drop]; exact h
  exact (List.pairwise_append.1 h3).2.2 x h1 y h2
end Col
end Go.Proofs.Ytalladdmedmfeaa
