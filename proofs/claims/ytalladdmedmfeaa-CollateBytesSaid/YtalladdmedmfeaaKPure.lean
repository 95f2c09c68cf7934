/-
  The pure side of layer 6: the letters of a word, its levels, the order of lists of numbers and of words, keys, the sorted list.
-/
import Derived.Test.YtalladdmedmfeaaAPure
namespace Go.Proofs.Ytalladdmedmfeaa
set_option linter.unusedVariables false
set_option linter.unusedSimpArgs false
namespace Col
open Alp

/-! ## letters and levels -/
def isL (q : Nat) (x : Int) : Bool := decide (0 ≤ x ∧ x < (q : Int))
def ltr (q : Nat) (w : List Int) : List Int := w.filter (isL q)
theorem isL_iff (q : Nat) (x : Int) : isL q x = true ↔ 0 ≤ x ∧ x < (q : Int) := by unfold isL; simp
theorem ltr_nil (q : Nat) : ltr q [] = [] := rfl
theorem ltr_snoc_yes {q : Nat} {w : List Int} {x : Int} (h : 0 ≤ x ∧ x < (q : Int)) : ltr q (w ++ [x]) = ltr q w ++ [x] := by
  unfold ltr
  rw [List.filter_append, List.filter_cons_of_pos ((isL_iff q x).2 h)]
  rfl
theorem ltr_snoc_no {q : Nat} {w : List Int} {x : Int} (h : ¬ (0 ≤ x ∧ x < (q : Int))) : ltr q (w ++ [x]) = ltr q w := by
  unfold ltr
  rw [List.filter_append, List.filter_cons_of_neg (fun e => h ((isL_iff q x).1 e))]
  simp
theorem ltr_mem {q : Nat} {w : List Int} {x : Int} (h : x ∈ ltr q w) : 0 ≤ x ∧ x < (q : Int) := (isL_iff q x).1 (List.mem_filter.1 h).2
theorem ltr_length (q : Nat) (w : List Int) : (ltr q w).length ≤ w.length := List.length_filter_le _ _
theorem ltr_ltr (q : Nat) (w : List Int) : ltr q (ltr q w) = ltr q w := by
  unfold ltr
  rw [List.filter_filter]
  simp
theorem ltr_all {q : Nat} {w : List Int} (h : ∀ x ∈ w, 0 ≤ x ∧ x < (q : Int)) : ltr q w = w := List.filter_eq_self.2 fun x hx => (isL_iff q x).2 (h x hx)
/-- The number of a letter at a level (from 0 on). -/
def num (L : List Lt) : Nat → Int → Int
  | 0, x => (L.getD x.toNat z).base
  | 1, x => (L.getD x.toNat z).mark
  | 2, x => (L.getD x.toNat z).cas
  | _, x => x
def lev (L : List Lt) (j : Nat) (w : List Int) : List Int := (ltr L.length w).map (num L j)
theorem lev_length (L : List Lt) (j : Nat) (w : List Int) : (lev L j w).length = (ltr L.length w).length := by simp [lev]
theorem lev_ltr (L : List Lt) (j : Nat) (w : List Int) : lev L j (ltr L.length w) = lev L j w := by unfold lev; rw [ltr_ltr]
theorem lev_eq {L : List Lt} {j : Nat} {w : List Int} (h : ∀ x ∈ w, 0 ≤ x ∧ x < (L.length : Int)) : lev L j w = w.map (num L j) := by unfold lev; rw [ltr_all h]
theorem lev3 (L : List Lt) (w : List Int) : lev L 3 w = ltr L.length w := by
  unfold lev
  have : num L 3 = id := rfl
  rw [this, List.map_id]

/-! ## the order of lists of numbers -/
def cmpL : List Int → List Int → Int
  | [], [] => 0
  | [], _ :: _ => -1
  | _ :: _, [] => 1
  | x :: xs, y :: ys => if x < y then -1 else if y < x then 1 else cmpL xs ys
theorem cmpL_rng (a b : List Int) : cmpL a b = -1 ∨ cmpL a b = 0 ∨ cmpL a b = 1 := by
  induction a generalizing b with
  | nil => cases b <;> simp [cmpL]
  | cons x a ih =>
    cases b with
    | nil => simp [cmpL]
    | cons y b =>
      unfold cmpL
      have := ih b
      split
      · simp
      · split
        · simp
        · exact this
theorem cmpL_neg (a b : List Int) : cmpL b a = - cmpL a b := by
  induction a generalizing b with
  | nil => cases b <;> simp [cmpL]
  | cons x a ih =>
    cases b with
    | nil => simp [cmpL]
    | cons y b =>
      unfold cmpL
      have := ih b
      by_cases h1 : x < y
      · rw [if_pos h1, if_neg (by omega), if_pos h1]; rfl
      · by_cases h2 : y < x
        · rw [if_pos h2, if_neg h1, if_pos h2]
        · rw [if_neg h1, if_neg h2, if_neg h2, if_neg h1, this]
theorem cmpL_eq {a b : List Int} : cmpL a b = 0 ↔ a = b := by
  induction a generalizing b with
  | nil => cases b <;> simp [cmpL]
  | cons x a ih =>
    cases b with
    | nil => simp [cmpL]
    | cons y b =>
      unfold cmpL
      by_cases h1 : x < y
      · rw [if_pos h1]
        constructor
        · intro h; omega
        · intro h
          have := (List.cons.inj h).1
          omega
      · by_cases h2 : y < x
        · rw [if_neg h1, if_pos h2]
          constructor
          · intro h; omega
          · intro h
            have := (List.cons.inj h).1
            omega
        · rw [if_neg h1, if_neg h2, ih]
          have : x = y := by omega
          simp [this]
theorem cmpL_tr {a b c : List Int} (h1 : cmpL a b ≤ 0) (h2 : cmpL b c ≤ 0) : cmpL a c ≤ 0 := by
  induction a generalizing b c with
  | nil => cases c <;> simp [cmpL]
  | cons x a ih =>
    cases b with
    | nil => simp [cmpL] at h1
    | cons y b =>
      cases c with
      | nil => simp [cmpL] at h2
      | cons u c =>
        unfold cmpL at h1 h2 ⊢
        by_cases e1 : x < y
        · by_cases e2 : y < u
          · rw [if_pos (by omega)]; omega
          · by_cases e3 : u < y
            · rw [if_neg e2, if_pos e3] at h2; omega
            · rw [if_pos (by omega)]; omega
        · by_cases e1' : y < x
          · rw [if_neg e1, if_pos e1'] at h1; omega
          · rw [if_neg e1, if_neg e1'] at h1
            by_cases e2 : y < u
            · rw [if_pos (by omega)]; omega
            · by_cases e3 : u < y
              · rw [if_neg e2, if_pos e3] at h2; omega
              · rw [if_neg e2, if_neg e3] at h2
                rw [if_neg (by omega), if_neg (by omega)]
                exact ih h1 h2
/-- A comparison. -/
structure Cmp {α : Type} (c : α → α → Int) : Prop where
  rng : ∀ a b, c a b = -1 ∨ c a b = 0 ∨ c a b = 1
  neg : ∀ a b, c b a = - c a b
  tr : ∀ {a b d}, c a b ≤ 0 → c b d ≤ 0 → c a d ≤ 0
namespace Cmp
variable {α : Type} {c : α → α → Int}
theorem refl (h : Cmp c) (a : α) : c a a = 0 := by have := h.neg a a; omega
theorem lt_le (h : Cmp c) {a b d : α} (h1 : c a b < 0) (h2 : c b d ≤ 0) : c a d < 0 := by
  by_cases e : c a d < 0
  · exact e
  · have h3 : c d a ≤ 0 := by have := h.neg a d; omega
    have h4 := h.tr h2 h3
    have := h.neg a b
    omega
theorem le_lt (h : Cmp c) {a b d : α} (h1 : c a b ≤ 0) (h2 : c b d < 0) : c a d < 0 := by
  by_cases e : c a d < 0
  · exact e
  · have h3 : c d a ≤ 0 := by have := h.neg a d; omega
    have h4 := h.tr h3 h1
    have := h.neg b d
    omega
end Cmp
theorem cmpL_cmp : Cmp cmpL := ⟨cmpL_rng, cmpL_neg, cmpL_tr⟩

/-! ## the order of words -/
/-- Compares at the n levels from level j on. -/
def cmpU (L : List Lt) (v w : List Int) : Nat → Nat → Int
  | _, 0 => 0
  | j, n + 1 => if cmpL (lev L j v) (lev L j w) = 0 then cmpU L v w (j + 1) n else cmpL (lev L j v) (lev L j w)
theorem cmpU_succ (L : List Lt) (v w : List Int) (j n : Nat) : cmpU L v w j (n + 1) = if cmpL (lev L j v) (lev L j w) = 0 then cmpU L v w (j + 1) n else cmpL (lev L j v) (lev L j w) := rfl
theorem cmpU_cmp (L : List Lt) (n j : Nat) : Cmp fun v w => cmpU L v w j n := by
  induction n generalizing j with
  | zero => exact ⟨fun _ _ => .inr (.inl rfl), fun _ _ => rfl, fun _ _ => Int.le_refl _⟩
  | succ n ih =>
    have hc := ih (j + 1)
    refine ⟨fun a b => ?_, fun a b => ?_, fun {a b d} h1 h2 => ?_⟩
    · have := cmpL_rng (lev L j a) (lev L j b)
      have := hc.rng a b
      simp only [cmpU_succ]
      split <;> assumption
    · have e1 := cmpL_neg (lev L j a) (lev L j b)
      have e2 := hc.neg a b
      simp only [cmpU_succ]
      split <;> split <;> omega
    · simp only [cmpU_succ] at h1 h2 ⊢
      by_cases k1 : cmpL (lev L j a) (lev L j b) = 0
      · have e := cmpL_eq.1 k1
        rw [if_pos k1] at h1
        rw [e]
        by_cases k2 : cmpL (lev L j b) (lev L j d) = 0
        · rw [if_pos k2] at h2 ⊢
          exact hc.tr h1 h2
        · rw [if_neg k2] at h2 ⊢
          exact h2
      · rw [if_neg k1] at h1
        have h2' : cmpL (lev L j b) (lev L j d) ≤ 0 := by
          by_cases k2 : cmpL (lev L j b) (lev L j d) = 0
          · omega
          · rw [if_neg k2] at h2; exact h2
        have := cmpL_cmp.lt_le (a := lev L j a) (by omega) h2'
        rw [if_neg (by omega)]
        omega
theorem cmpU_zero {L : List Lt} {v w : List Int} {j n : Nat} : cmpU L v w j n = 0 ↔ ∀ i, i < n → lev L (j + i) v = lev L (j + i) w := by
  induction n generalizing j with
  | zero => simp [cmpU]
  | succ n ih =>
    rw [cmpU_succ]
    by_cases k1 : cmpL (lev L j v) (lev L j w) = 0
    · rw [if_pos k1, ih]
      constructor
      · intro h i hi
        cases i with
        | zero => exact cmpL_eq.1 k1
        | succ i => have := h i (by omega); rwa [show j + 1 + i = j + (i + 1) by omega] at this
      · intro h i hi
        have := h (i + 1) (by omega)
        rwa [show j + (i + 1) = j + 1 + i by omega] at this
    · rw [if_neg k1]
      constructor
      · intro h; exact absurd h k1
      · intro h; exact absurd (cmpL_eq.2 (h 0 (by omega))) k1
theorem cmpU_snoc (L : List Lt) (v w : List Int) (j n : Nat) : cmpU L v w j (n + 1) = if cmpU L v w j n = 0 then cmpL (lev L (j + n) v) (lev L (j + n) w) else cmpU L v w j n := by
  induction n generalizing j with
  | zero =>
    show (if cmpL (lev L j v) (lev L j w) = 0 then (0 : Int) else _) = _
    rw [show cmpU L v w j 0 = 0 from rfl, if_pos rfl, Nat.add_zero]
    split
    · omega
    · rfl
  | succ n ih =>
    rw [cmpU_succ L v w j (n + 1), cmpU_succ L v w j n]
    by_cases k1 : cmpL (lev L j v) (lev L j w) = 0
    · rw [if_pos k1, if_pos k1, ih, show j + 1 + n = j + (n + 1) by omega]
    · rw [if_neg k1, if_neg k1, if_neg k1]
/-- Words with the same letters compare alike. -/
theorem cmpU_ltr (L : List Lt) (v w : List Int) (j n : Nat) : cmpU L (ltr L.length v) (ltr L.length w) j n = cmpU L v w j n := by
  induction n generalizing j with
  | zero => rfl
  | succ n ih => rw [cmpU_succ, cmpU_succ, lev_ltr, lev_ltr, ih]
def cmpP (L : List Lt) (v w : List Int) : Int := if valP L = true then cmpU L v w 0 4 else 0
def sameP (L : List Lt) (v w : List Int) (n : Int) : Bool := decide (valP L = true ∧ (1 ≤ n ∧ n ≤ 4) ∧ cmpU L v w 0 n.toNat = 0)
theorem cmpP_yes {L : List Lt} (h : valP L = true) (v w : List Int) : cmpP L v w = cmpU L v w 0 4 := if_pos h
theorem cmpP_no {L : List Lt} (h : valP L = false) (v w : List Int) : cmpP L v w = 0 := by unfold cmpP; rw [h]; rfl

/-! ## keys -/
def inc (l : List Int) : List Int := l.map (· + 1)
/-- The first n + 1 levels of a word's key. -/
def keyN (L : List Lt) (w : List Int) : Nat → List Int
  | 0 => inc (lev L 0 w)
  | n + 1 => keyN L w n ++ 0 :: inc (lev L (n + 1) w)
def keyP (L : List Lt) (w : List Int) : List Int := if valP L = true then keyN L w 3 else []

/-! ## sections -/
def secL (L : List Lt) (w : List Int) : Int := (lev L 0 w).headD (-1)
def secP (L : List Lt) (w : List Int) : Int := if valP L = true then secL L w else -1

/-! ## ranges -/
def lessN (L : List Lt) (ws : List (List Int)) (w : List Int) (n : Nat) : Nat := ws.countP fun v => decide (cmpU L v w 0 n < 0)
def sameN (L : List Lt) (ws : List (List Int)) (w : List Int) (n : Nat) : Nat := ws.countP fun v => decide (cmpU L v w 0 n = 0)
def okN (L : List Lt) (n : Int) : Bool := decide (valP L = true ∧ 1 ≤ n ∧ n ≤ 4)
def findP (L : List Lt) (ws : List (List Int)) (w : List Int) (n : Int) : Nat × Nat :=
  if okN L n = true then (lessN L ws w n.toNat, lessN L ws w n.toNat + sameN L ws w n.toNat) else (0, 0)
end Col
end Go.Proofs.Ytalladdmedmfeaa
