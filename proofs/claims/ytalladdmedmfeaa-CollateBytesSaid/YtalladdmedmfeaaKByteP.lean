/-
  Pure: the order of keys is the order of words; the order of lists of numbers is that of their encodings.
-/
import Derived.Test.YtalladdmedmfeaaKWOrd
import Derived.Test.YtalladdmedmfeaaKPure
namespace Go.Proofs.Ytalladdmedmfeaa
open Go.RowKit
open Alp
set_option linter.unusedVariables false
set_option linter.unusedSimpArgs false
theorem Parts.app {a b : List UInt8} (h : Parts a b) (s t : List UInt8) : Parts (a ++ s) (b ++ t) := by
  obtain ⟨p, x, y, r, s', rfl, rfl, hlt⟩ := h
  exact ⟨p, x, y, r ++ s, s' ++ t, by simp, by simp, hlt⟩
theorem Parts.pre {a b : List UInt8} (h : Parts a b) (q : List UInt8) : Parts (q ++ a) (q ++ b) := by
  obtain ⟨p, x, y, r, s', rfl, rfl, hlt⟩ := h
  exact ⟨q ++ p, x, y, r, s', by simp, by simp, hlt⟩
theorem Parts.ne {a b : List UInt8} (h : Parts a b) : a ≠ b := by
  intro e
  have h1 := h.less
  rw [e, less_self] at h1
  cases h1
theorem less_pre : ∀ (a t : List UInt8), t ≠ [] → Op.bytesLess a (a ++ t) = true ∧ Op.bytesLess (a ++ t) a = false
  | [], [], h => absurd rfl h
  | [], c :: t, _ => ⟨rfl, rfl⟩
  | c :: a, t, h => by
    have ih := less_pre a t h
    rw [List.cons_append, bytesLess_cons, bytesLess_cons, ih.1, ih.2]
    simp
namespace Col
def flat (K : List Int) : List UInt8 := K.flatMap en
theorem flat_cons (x : Int) (K : List Int) : flat (x :: K) = en x ++ flat K := by simp [flat]
theorem flat_snoc (x : Int) (K : List Int) : flat (K ++ [x]) = flat K ++ en x := by simp [flat]
theorem flat_len (K : List Int) : (flat K).length ≤ 9 * K.length := by
  induction K with
  | nil => simp [flat]
  | cons x K ih => rw [flat_cons, List.length_append, List.length_cons]; have := (en_length x).2; omega
theorem flat_ne {x : Int} {K : List Int} : flat (x :: K) ≠ [] := by
  intro e
  have h := congrArg List.length e
  rw [flat_cons, List.length_append, List.length_nil] at h
  have := (en_length x).1
  omega
theorem flat_parts : ∀ (K1 K2 : List Int), (∀ x ∈ K1, inI x) → (∀ x ∈ K2, inI x) → cmpL K1 K2 < 0 → Parts (flat K1) (flat K2) ∨ ∃ t, t ≠ [] ∧ flat K2 = flat K1 ++ t := by
  intro K1
  induction K1 with
  | nil =>
    intro K2 _ _ h
    cases K2 with
    | nil => simp [cmpL] at h
    | cons y K2 => exact .inr ⟨flat (y :: K2), flat_ne, by simp [flat]⟩
  | cons x K1 ih =>
    intro K2 h1 h2 h
    cases K2 with
    | nil => simp [cmpL] at h
    | cons y K2 =>
      simp only [cmpL] at h
      split at h
      · next hxy =>
        left
        rw [flat_cons, flat_cons]
        exact (en_parts (h1 x (by simp)) (h2 y (by simp)) hxy).app _ _
      · split at h
        · omega
        · have e : x = y := by omega
          subst e
          rcases ih K2 (fun u hu => h1 u (by simp [hu])) (fun u hu => h2 u (by simp [hu])) h with h3 | ⟨t, ht, h3⟩
          · left
            rw [flat_cons, flat_cons]
            exact h3.pre _
          · exact .inr ⟨t, ht, by rw [flat_cons, flat_cons, h3, List.append_assoc]⟩
theorem flat_lt {K1 K2 : List Int} (h1 : ∀ x ∈ K1, inI x) (h2 : ∀ x ∈ K2, inI x) (h : cmpL K1 K2 < 0) : Op.bytesLess (flat K1) (flat K2) = true ∧ Op.bytesLess (flat K2) (flat K1) = false ∧ flat K1 ≠ flat K2 := by
  rcases flat_parts K1 K2 h1 h2 h with h3 | ⟨t, ht, h3⟩
  · exact ⟨h3.less, h3.greater, h3.ne⟩
  · rw [h3]
    exact ⟨(less_pre _ t ht).1, (less_pre _ t ht).2, fun e => ht (by simpa using e)⟩
theorem flat_cmp {K1 K2 : List Int} (h1 : ∀ x ∈ K1, inI x) (h2 : ∀ x ∈ K2, inI x) : Op.bytesLess (flat K1) (flat K2) = decide (cmpL K1 K2 < 0) ∧ (flat K1 == flat K2) = decide (cmpL K1 K2 = 0) := by
  rcases cmpL_rng K1 K2 with h | h | h
  · obtain ⟨e1, _, e3⟩ := flat_lt h1 h2 (by omega)
    rw [e1, h]
    exact ⟨rfl, by rw [beq_eq_false_iff_ne.2 e3]; rfl⟩
  · rw [cmpL_eq.1 h, less_self, show cmpL K2 K2 = 0 from cmpL_eq.2 rfl]
    exact ⟨rfl, by simp⟩
  · have hn := cmpL_neg K1 K2
    obtain ⟨_, e2, e3⟩ := flat_lt h2 h1 (by omega)
    rw [e2, h]
    exact ⟨rfl, by rw [beq_eq_false_iff_ne.2 (Ne.symm e3)]; rfl⟩
theorem cmpL_sep : ∀ (a b x y : List Int), (∀ u ∈ a, 0 < u) → (∀ u ∈ b, 0 < u) → cmpL (a ++ 0 :: x) (b ++ 0 :: y) = if cmpL a b = 0 then cmpL x y else cmpL a b := by
  intro a
  induction a with
  | nil =>
    intro b x y _ hb
    cases b with
    | nil => simp [cmpL]
    | cons v b => have := hb v (by simp); simp [cmpL, this]
  | cons u a ih =>
    intro b x y ha hb
    cases b with
    | nil =>
      have := ha u (by simp)
      have h2 : ¬ u < 0 := by omega
      simp [cmpL, this, h2]
    | cons v b =>
      have h := ih b x y (fun z hz => ha z (by simp [hz])) (fun z hz => hb z (by simp [hz]))
      have cc : ∀ p q : List Int, cmpL (u :: p) (v :: q) = if u < v then -1 else if v < u then 1 else cmpL p q := fun _ _ => rfl
      rw [List.cons_append, List.cons_append]
      by_cases h1 : u < v
      · have k1 : ∀ p q, cmpL (u :: p) (v :: q) = -1 := fun p q => by rw [cc, if_pos h1]
        rw [k1, k1]; rfl
      · by_cases h2 : v < u
        · have k1 : ∀ p q, cmpL (u :: p) (v :: q) = 1 := fun p q => by rw [cc, if_neg h1, if_pos h2]
          rw [k1, k1]; rfl
        · have k1 : ∀ p q, cmpL (u :: p) (v :: q) = cmpL p q := fun p q => by rw [cc, if_neg h1, if_neg h2]
          rw [k1, k1]; exact h
theorem cmpL_inc : ∀ (a b : List Int), cmpL (inc a) (inc b) = cmpL a b := by
  intro a
  induction a with
  | nil => intro b; cases b <;> rfl
  | cons u a ih =>
    intro b
    cases b with
    | nil => rfl
    | cons v b =>
      have e1 : inc (u :: a) = (u + 1) :: inc a := rfl
      have e2 : inc (v :: b) = (v + 1) :: inc b := rfl
      rw [e1, e2]
      simp only [cmpL, ih b]
      by_cases h1 : u < v
      · rw [if_pos h1, if_pos (by omega)]
      · rw [if_neg h1, if_neg (by omega)]
        by_cases h2 : v < u
        · rw [if_pos h2, if_pos (by omega)]
        · rw [if_neg h2, if_neg (by omega)]
theorem lev_bd {L : List Lt} (hv : valP L = true) (w : List Int) (j : Nat) {x : Int} (hx : x ∈ lev L j w) (hj : j < 4) : 0 ≤ x ∧ x ≤ 1000 := by
  obtain ⟨y, hy, rfl⟩ := List.mem_map.1 hx
  obtain ⟨y1, y2⟩ := ltr_mem hy
  have h60 := ((valP_iff L).1 hv).2.1
  obtain ⟨_, h1, _, h2, h3, h4, _⟩ := (lok_iff _ _ _).1 (((valP_iff L).1 hv).2.2.1 y.toNat (by omega))
  rcases (show j = 0 ∨ j = 1 ∨ j = 2 ∨ j = 3 by omega) with rfl | rfl | rfl | rfl
  · show 0 ≤ (L.getD y.toNat z).base ∧ (L.getD y.toNat z).base ≤ 1000
    omega
  · show 0 ≤ (L.getD y.toNat z).mark ∧ (L.getD y.toNat z).mark ≤ 1000
    omega
  · show 0 ≤ (L.getD y.toNat z).cas ∧ (L.getD y.toNat z).cas ≤ 1000
    omega
  · show 0 ≤ y ∧ y ≤ 1000
    omega
theorem inc_bd {L : List Lt} (hv : valP L = true) (w : List Int) (j : Nat) (hj : j < 4) : ∀ x ∈ inc (lev L j w), 0 < x ∧ x ≤ 1001 := fun x hx => by
  obtain ⟨y, hy, rfl⟩ := List.mem_map.1 hx
  have := lev_bd hv w j hy hj
  omega
theorem key_form {L : List Lt} (hv : valP L = true) (w : List Int) : keyP L w = inc (lev L 0 w) ++ 0 :: (inc (lev L 1 w) ++ 0 :: (inc (lev L 2 w) ++ 0 :: inc (lev L 3 w))) := by
  unfold keyP
  rw [if_pos hv]
  simp [keyN]
theorem key_in {L : List Lt} (hv : valP L = true) (w : List Int) : ∀ x ∈ keyP L w, inI x := fun x hx => by
  rw [key_form hv] at hx
  have h0 := inc_bd hv w 0 (by omega)
  have h1 := inc_bd hv w 1 (by omega)
  have h2 := inc_bd hv w 2 (by omega)
  have h3 := inc_bd hv w 3 (by omega)
  simp only [List.mem_append, List.mem_cons] at hx
  unfold inI
  rcases hx with h | rfl | h | rfl | h | rfl | h
  · have := h0 x h; omega
  · omega
  · have := h1 x h; omega
  · omega
  · have := h2 x h; omega
  · omega
  · have := h3 x h; omega
theorem key_len {L : List Lt} (hv : valP L = true) (w : List Int) : 3 ≤ (keyP L w).length ∧ (keyP L w).length ≤ 4 * w.length + 3 := by
  rw [key_form hv]
  have := ltr_length L.length w
  simp only [inc, List.length_append, List.length_cons, List.length_map, lev_length]
  omega
theorem key_cmp {L : List Lt} (hv : valP L = true) (v w : List Int) : cmpL (keyP L v) (keyP L w) = cmpU L v w 0 4 := by
  have h := fun (u : List Int) (j : Nat) (hj : j < 4) (x : Int) (hx : x ∈ inc (lev L j u)) => (inc_bd hv u j hj x hx).1
  rw [key_form hv, key_form hv, cmpL_sep _ _ _ _ (h v 0 (by omega)) (h w 0 (by omega)), cmpL_sep _ _ _ _ (h v 1 (by omega)) (h w 1 (by omega)), cmpL_sep _ _ _ _ (h v 2 (by omega)) (h w 2 (by omega)), cmpL_inc, cmpL_inc, cmpL_inc, cmpL_inc]
  rw [cmpU_succ, cmpU_succ, cmpU_succ, cmpU_succ]
  have e : (if cmpL (lev L (0 + 1 + 1 + 1) v) (lev L (0 + 1 + 1 + 1) w) = 0 then cmpU L v w (0 + 1 + 1 + 1 + 1) 0 else cmpL (lev L (0 + 1 + 1 + 1) v) (lev L (0 + 1 + 1 + 1) w)) = cmpL (lev L 3 v) (lev L 3 w) := by
    split
    · next h0 => exact h0.symm
    · rfl
  rw [e]
theorem key_bytes {L : List Lt} (hv : valP L = true) (v w : List Int) : Op.bytesLess (flat (keyP L v)) (flat (keyP L w)) = decide (cmpU L v w 0 4 < 0) ∧ (flat (keyP L v) == flat (keyP L w)) = decide (cmpU L v w 0 4 = 0) := by
  rw [← key_cmp hv]
  exact flat_cmp (key_in hv v) (key_in hv w)
end Col
end Go.Proofs.Ytalladdmedmfeaa
