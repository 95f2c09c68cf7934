/-
  Ranges: in a sorted list the words that are less than a word come first, then those equal to it.
-/
import Derived.Test.YtalladdmedmfeaaKLaw2
namespace Go.Proofs.Ytalladdmedmfeaa
open Go.RowKit
open Alp
namespace Col
set_option linter.unusedVariables false
set_option linter.unusedSimpArgs false

theorem countP_down {α : Type} (p : α → Bool) (d : α) : ∀ (l : List α), (∀ i j, i < j → j < l.length → p (l.getD j d) = true → p (l.getD i d) = true) → ∀ i, i < l.length → (i < l.countP p ↔ p (l.getD i d) = true)
  | [], _, i, hi => by simp at hi
  | x :: t, h, i, hi => by
    have ht : ∀ i j, i < j → j < t.length → p (t.getD j d) = true → p (t.getD i d) = true := fun i j h1 h2 h3 => by
      have := h (i + 1) (j + 1) (by omega) (by simpa using h2) (by simpa using h3)
      simpa using this
    by_cases hx : p x = true
    · rw [List.countP_cons_of_pos hx]
      cases i with
      | zero => simp [hx]
      | succ i =>
        have := countP_down p d t ht i (by simpa using hi)
        simp only [List.getD_cons_succ]
        rw [← this]
        omega
    · have hall : ∀ j, j < t.length → ¬ p (t.getD j d) = true := fun j hj hp => hx (by simpa using h 0 (j + 1) (by omega) (by simpa using hj) (by simpa using hp))
      have h0 : t.countP p = 0 := List.countP_eq_zero.2 fun y hy => by
        obtain ⟨j, hj, rfl⟩ := List.getElem_of_mem hy
        have := hall j hj
        simpa [List.getD, hj] using this
      rw [List.countP_cons_of_neg hx, h0]
      refine ⟨fun h => by omega, fun hp => ?_⟩
      cases i with
      | zero => exact absurd (by simpa using hp) hx
      | succ i => exact absurd (by simpa using hp) (hall i (by simpa using hi))
theorem less_same (L : List Lt) (ws : List (List Int)) (x : List Int) (n : Nat) : lessN L ws x n + sameN L ws x n = ws.countP fun v => decide (cmpU L v x 0 n ≤ 0) := by
  unfold lessN sameN
  induction ws with
  | nil => rfl
  | cons v t ih =>
    rw [List.countP_cons, List.countP_cons, List.countP_cons, ← ih]
    by_cases h1 : cmpU L v x 0 n < 0
    · simp [h1, show ¬ cmpU L v x 0 n = 0 by omega, show cmpU L v x 0 n ≤ 0 by omega]; omega
    · by_cases h2 : cmpU L v x 0 n = 0
      · simp [h2]; omega
      · simp [h1, h2, show ¬ cmpU L v x 0 n ≤ 0 by omega]
theorem cmp_up (L : List Lt) (v w : List Int) {n : Nat} (h : cmpU L v w 0 n ≠ 0) : ∀ k, cmpU L v w 0 (n + k) = cmpU L v w 0 n
  | 0 => rfl
  | k + 1 => by
    show cmpU L v w 0 ((n + k) + 1) = _
    rw [cmpU_snoc, cmp_up L v w h k, if_neg h]
theorem cmp_up4 (L : List Lt) (v w : List Int) {n : Nat} (hn : n ≤ 4) (h : cmpU L v w 0 n ≠ 0) : cmpU L v w 0 4 = cmpU L v w 0 n := by
  have h1 := cmp_up L v w h (4 - n)
  rwa [show n + (4 - n) = 4 by omega] at h1
theorem cmp_dn (L : List Lt) (v w : List Int) {n : Nat} (hn : n ≤ 4) (h : cmpU L v w 0 4 ≤ 0) : cmpU L v w 0 n ≤ 0 := by
  by_cases h0 : cmpU L v w 0 n = 0
  · omega
  · rw [← cmp_up4 L v w hn h0]; exact h
/-- The order of a list of words. -/
def SsD (L : List Lt) (ss : List (List Int)) : Prop := ∀ i j, i < j → j < ss.length → cmpU L (ss.getD i []) (ss.getD j []) 0 4 ≤ 0
section
variable {L : List Lt} {ss : List (List Int)} {x : List Int} {n : Nat}
theorem less_iff (h : SsD L ss) (hn : n ≤ 4) {i : Nat} (hi : i < ss.length) : i < lessN L ss x n ↔ cmpU L (ss.getD i []) x 0 n < 0 := by
  have h1 := countP_down (fun v => decide (cmpU L v x 0 n < 0)) [] ss (fun i j hij hj hp => by
    have h2 : cmpU L (ss.getD j []) x 0 n < 0 := of_decide_eq_true hp
    exact decide_eq_true ((cmpU_cmp L n 0).le_lt (cmp_dn L _ _ hn (h i j hij hj)) h2)) i hi
  rw [decide_eq_true_iff] at h1
  exact h1
theorem le_iff (h : SsD L ss) (hn : n ≤ 4) {i : Nat} (hi : i < ss.length) : i < lessN L ss x n + sameN L ss x n ↔ cmpU L (ss.getD i []) x 0 n ≤ 0 := by
  rw [less_same]
  have h1 := countP_down (fun v => decide (cmpU L v x 0 n ≤ 0)) [] ss (fun i j hij hj hp => by
    have h2 : cmpU L (ss.getD j []) x 0 n ≤ 0 := of_decide_eq_true hp
    exact decide_eq_true ((cmpU_cmp L n 0).tr (cmp_dn L _ _ hn (h i j hij hj)) h2)) i hi
  rw [decide_eq_true_iff] at h1
  exact h1
theorem same_pos (h : x ∈ ss) : 0 < sameN L ss x n := List.countP_pos_iff.2 ⟨x, h, decide_eq_true ((cmpU_cmp L n 0).refl x)⟩
theorem same_len : lessN L ss x n + sameN L ss x n ≤ ss.length := by rw [less_same]; exact List.countP_le_length
end
theorem sorted_ss {L : List Lt} {ws : List (List Int)} {d : List Int} (h : Sd (cmpW L ws) d) : SsD L (d.map (wordAt ws)) := fun i j hij hj => by
  rw [List.length_map] at hj
  have h1 := sd_step h hij hj
  have e : ∀ k, k < d.length → (d.map (wordAt ws)).getD k [] = wordAt ws (d.getD k 0) := fun k hk => by simp [List.getD, hk]
  rw [e i (by omega), e j hj]
  exact h1
theorem mem_ss {ws : List (List Int)} {d : List Int} {n k : Nat} (h : d.Perm (upL n)) (hk : k < n) : ws.getD k [] ∈ d.map (wordAt ws) := by
  refine List.mem_map.2 ⟨(k : Int), h.mem_iff.2 ?_, wordAt_nat ws k⟩
  unfold upL
  exact List.mem_map.2 ⟨k, List.mem_range.2 hk, rfl⟩
/-- The first i of the list have been seen. -/
def seenL (n : Nat) (d : List Int) (i : Nat) : List Value := (List.range n).map fun k : Nat => .bool (decide ((k : Int) ∈ d.take i))
theorem seen_len (n : Nat) (d : List Int) (i : Nat) : (seenL n d i).length = n := by simp [seenL]
theorem seen_zero (n : Nat) (d : List Int) : seenL n d 0 = List.replicate n (.bool false) := by
  unfold seenL
  apply List.ext_getElem
  · simp
  · intro k h1 h2; simp
theorem take_next {d : List Int} {i : Nat} (hi : i < d.length) : d.take (i + 1) = d.take i ++ [d.getD i 0] := by
  rw [List.take_succ_eq_append_getElem hi]
  simp [List.getD, hi]
theorem seen_step {n : Nat} {d : List Int} {i k : Nat} (hi : i < d.length) (hk : d.getD i 0 = k) : (seenL n d i).set k (.bool true) = seenL n d (i + 1) := by
  unfold seenL
  apply List.ext_getElem
  · simp
  · intro j h1 h2
    rw [List.getElem_set]
    simp only [List.getElem_map, List.getElem_range, take_next hi, hk]
    by_cases e : k = j
    · subst e; simp
    · rw [if_neg e]
      simp [show ¬ (j : Int) = (k : Int) by omega]
theorem seen_no {n : Nat} {d : List Int} {i k : Nat} (hd : d.Perm (upL n)) (hi : i < n) (hk : d.getD i 0 = k) (hkn : k < n) : (seenL n d i)[k]? = some (.bool false) := by
  have hl : d.length = n := by rw [hd.length_eq, upL_length]
  have hnd : d.Nodup := hd.nodup_iff.2 (by
    have h := upL_up n
    exact h.imp (fun h => by omega))
  have hn : ¬ (k : Int) ∈ d.take i := fun hm => by
    obtain ⟨j, hj, e⟩ := List.getElem_of_mem hm
    rw [List.getElem_take] at e
    have hji : j < i := by rw [List.length_take] at hj; omega
    have e2 : d[i]'(by omega) = (k : Int) := by rw [← hk]; simp [List.getD, show i < d.length by omega]
    exact List.pairwise_iff_getElem.1 hnd j i (by omega) (by omega) hji (e.trans e2.symm)
  unfold seenL
  simp [hkn, hn]
end Col
end Go.Proofs.Ytalladdmedmfeaa
