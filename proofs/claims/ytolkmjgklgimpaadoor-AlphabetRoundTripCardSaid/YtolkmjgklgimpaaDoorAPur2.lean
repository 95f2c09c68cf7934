/-
  The pure side of descriptions: parts of a string between a byte, numbers, lines, bases.
-/
import Derived.Test.YtolkmjgklgimpaaDoorAPure
import Derived.Lib.SplitLaws
namespace Go.Proofs.YtolkmjgklgimpaaDoor
set_option linter.unusedVariables false
set_option linter.unusedSimpArgs false
namespace Alp

/-! ## parts -/
def splitC (c : UInt8) : B → List B
  | [] => [[]]
  | x :: t => if x = c then [] :: splitC c t else match splitC c t with | [] => [[x]] | h :: r => (x :: h) :: r
theorem splitC_ne (c : UInt8) (s : B) : splitC c s ≠ [] := by
  cases s with
  | nil => simp [splitC]
  | cons x t =>
    unfold splitC
    split
    · simp
    · split <;> simp
theorem splitC_none {c : UInt8} {s : B} (h : ∀ x ∈ s, x ≠ c) : splitC c s = [s] := by
  induction s with
  | nil => rfl
  | cons x t ih =>
    rw [splitC, if_neg (h x (by simp)), ih fun y hy => h y (by simp [hy])]
theorem splitC_at {c : UInt8} {h r : B} (hh : ∀ x ∈ h, x ≠ c) : splitC c (h ++ c :: r) = h :: splitC c r := by
  induction h with
  | nil => simp [splitC]
  | cons x t ih =>
    rw [List.cons_append, splitC, if_neg (hh x (by simp)), ih fun y hy => hh y (by simp [hy])]
theorem cut_mem (c : UInt8) (s : B) : (∀ x ∈ s, x ≠ c) ∨ ∃ h r, s = h ++ c :: r ∧ ∀ x ∈ h, x ≠ c := by
  induction s with
  | nil => exact .inl (by simp)
  | cons x t ih =>
    by_cases hx : x = c
    · subst hx
      exact .inr ⟨[], t, rfl, by simp⟩
    · rcases ih with h | ⟨h, r, e, hh⟩
      · exact .inl fun y hy => by
          rcases List.mem_cons.1 hy with e | e
          · subst e; exact hx
          · exact h y e
      · exact .inr ⟨x :: h, r, by rw [e]; rfl, fun y hy => by
          rcases List.mem_cons.1 hy with e | e
          · subst e; exact hx
          · exact hh y e⟩
theorem index_no {c : UInt8} {s : B} (h : ∀ x ∈ s, x ≠ c) : Lib.index s [c] = -1 := by
  induction s with
  | nil => rfl
  | cons x t ih =>
    have h1 : ¬ ([c].isPrefixOf (x :: t) = true) := by
      simp [List.isPrefixOf]
      exact fun e => h x (by simp) e.symm
    rw [Lib.index, if_neg h1, ih fun y hy => h y (by simp [hy])]
    rfl
theorem index_yes {c : UInt8} {h r : B} (hh : ∀ x ∈ h, x ≠ c) : Lib.index (h ++ c :: r) [c] = h.length := by
  induction h with
  | nil =>
    have h1 : [c].isPrefixOf (c :: r) = true := by simp [List.isPrefixOf]
    rw [List.nil_append, Lib.index, if_pos h1]
    rfl
  | cons x t ih =>
    have h1 : ¬ ([c].isPrefixOf (x :: (t ++ c :: r)) = true) := by
      simp [List.isPrefixOf]
      exact fun e => hh x (by simp) e.symm
    rw [List.cons_append, Lib.index, if_neg h1, ih fun y hy => hh y (by simp [hy])]
    have : ¬ (((t.length : Int) == -1) = true) := by simp <;> omega
    rw [if_neg this]
    simp
theorem count_no {c : UInt8} {s : B} (h : ∀ x ∈ s, x ≠ c) : Lib.count s [c] = 0 := Lib.count_miss (index_no h)
theorem count_yes {c : UInt8} {h r : B} (hh : ∀ x ∈ h, x ≠ c) : Lib.count (h ++ c :: r) [c] = Lib.count r [c] + 1 := by
  rw [Lib.count_hit (by simp) (index_yes hh), List.length_singleton, ← List.drop_drop, List.drop_left, List.drop_one, List.tail_cons]
  omega
theorem splitK_eq (c : UInt8) : ∀ (n : Nat) (s : B), s.length ≤ n → Lib.splitK [c] 0 (Lib.count s [c]) s = splitC c s := by
  intro n
  induction n with
  | zero =>
    intro s hs
    obtain rfl : s = [] := List.eq_nil_of_length_eq_zero (by omega)
    rfl
  | succ n ih =>
    intro s hs
    rcases cut_mem c s with h | ⟨h, r, e, hh⟩
    · rw [count_no h, splitC_none h]; rfl
    · subst e
      have hlen : r.length ≤ n := by simp at hs; omega
      have hm : ¬ ((Lib.index (h ++ c :: r) [c] == -1) = true) := by rw [index_yes hh]; simp <;> omega
      rw [count_yes hh, splitC_at hh, Lib.splitK, if_neg hm, index_yes hh, ← ih r hlen]
      congr 1
      · simp
      · congr 1
        rw [Int.toNat_natCast, List.length_singleton, ← List.drop_drop, List.drop_left]; rfl
theorem cut_no {c : UInt8} {s : B} (h : ∀ x ∈ s, x ≠ c) : Lib.cut s [c] = (s, [], false) := by
  unfold Lib.cut
  rw [index_no h]
  rfl
theorem cut_yes {c : UInt8} {h r : B} (hh : ∀ x ∈ h, x ≠ c) : Lib.cut (h ++ c :: r) [c] = (h, r, true) := by
  unfold Lib.cut
  rw [index_yes hh, if_pos (by omega), Int.toNat_natCast, List.length_singleton, ← List.drop_drop, List.drop_left, List.take_left]
  rfl
theorem splitC_len (c : UInt8) (s : B) : (splitC c s).length ≤ s.length + 1 := by
  induction s with
  | nil => simp [splitC]
  | cons x t ih =>
    unfold splitC
    split
    · simp; exact ih
    · split
      · simp
      · rename_i h r e
        rw [e] at ih
        simp at ih ⊢
        omega
theorem splitC_part (c : UInt8) (s : B) : ∀ p ∈ splitC c s, p.length ≤ s.length := by
  induction s with
  | nil => simp [splitC]
  | cons x t ih =>
    unfold splitC
    split
    · intro p hp
      rcases List.mem_cons.1 hp with e | e
      · subst e; simp
      · have := ih p e; simp; omega
    · split
      · intro p hp
        simp at hp
        subst hp
        simp
      · rename_i h r e
        rw [e] at ih
        intro p hp
        rcases List.mem_cons.1 hp with q | q
        · subst q; have := ih h (by simp); simp; omega
        · have := ih p (by simp [q]); simp; omega

/-! ## numbers -/
def numV (t : B) : Int := t.foldl (fun n c => 10 * n + ((c.toNat : Int) - 48)) 0
def numOK (t : B) : Bool := decide (1 ≤ t.length) && (decide (t.length ≤ 6) && ((decide (t.getD 0 0 ≠ 48) || decide (t.length = 1)) && t.all isD))
def numR (t : B) : Int := if numOK t then numV t else 0
theorem numV_nil : numV [] = 0 := rfl
theorem numV_snoc (t : B) (c : UInt8) : numV (t ++ [c]) = 10 * numV t + ((c.toNat : Int) - 48) := by simp [numV]
theorem isD_bd {c : UInt8} (h : isD c = true) : 48 ≤ c.toNat ∧ c.toNat ≤ 57 := by unfold isD at h; simpa using h
theorem numV_bd {t : B} (h : ∀ c ∈ t, isD c = true) : 0 ≤ numV t ∧ numV t + 1 ≤ 10 ^ t.length := by
  induction hn : t.length generalizing t with
  | zero =>
    obtain rfl := List.eq_nil_of_length_eq_zero hn
    simp [numV]
  | succ n ih =>
    obtain ⟨u, c, rfl⟩ : ∃ u c, t = u ++ [c] := ⟨t.dropLast, t.getLast (by intro e; subst e; simp at hn), (List.dropLast_concat_getLast _).symm⟩
    have hu : u.length = n := by simpa using hn
    obtain ⟨h1, h2⟩ := ih (t := u) (fun x hx => h x (by simp [hx])) hu
    obtain ⟨h3, h4⟩ := isD_bd (h c (by simp))
    rw [numV_snoc, Int.pow_succ]
    omega
theorem numV_small {t : B} (h : ∀ c ∈ t, isD c = true) (hl : t.length ≤ 6) : 0 ≤ numV t ∧ numV t ≤ 999999 := by
  obtain ⟨h1, h2⟩ := numV_bd h
  refine ⟨h1, ?_⟩
  have : (10 : Int) ^ t.length ≤ 10 ^ 6 := by
    have := Nat.pow_le_pow_right (n := 10) (by decide) hl
    exact_mod_cast this
  omega
theorem numOK_iff (t : B) : numOK t = true ↔ 1 ≤ t.length ∧ t.length ≤ 6 ∧ (t.getD 0 0 ≠ 48 ∨ t.length = 1) ∧ ∀ c ∈ t, isD c = true := by
  unfold numOK
  simp
theorem numOK_no {t : B} (h : ¬ (1 ≤ t.length ∧ t.length ≤ 6 ∧ (t.getD 0 0 ≠ 48 ∨ t.length = 1) ∧ ∀ c ∈ t, isD c = true)) : numOK t = false := by
  rw [Bool.eq_false_iff]
  exact fun e => h ((numOK_iff t).1 e)
theorem numR_no {t : B} (h : numOK t = false) : numR t = 0 := by unfold numR; rw [h]; rfl
theorem numR_yes {t : B} (h : numOK t = true) : numR t = numV t := by unfold numR; rw [if_pos h]
theorem numR_bd (t : B) : 0 ≤ numR t ∧ numR t ≤ 999999 := by
  cases h : numOK t
  · rw [numR_no h]; omega
  · rw [numR_yes h]
    obtain ⟨_, h2, _, h4⟩ := (numOK_iff t).1 h
    exact numV_small h4 h2

/-! ## lines -/
def lineOf (p : List B) : Option (Lt × B) := match p with
  | [a, b, c, d, e] => if a ≠ [] ∧ b ≠ [] ∧ numOK c = true ∧ numOK d = true ∧ numOK e = true then some (⟨a, 0, numV c, numV d, numV e⟩, b) else none
  | _ => none
def lineP (s : B) : Option (Lt × B) := lineOf (splitC 32 s)
theorem lineOf_len {p : List B} (h : p.length ≠ 5) : lineOf p = none := by
  unfold lineOf
  split
  · exact absurd rfl h
  · rfl
theorem lineOf_some {p : List B} {x : Lt × B} (h : lineOf p = some x) : ∃ a b c d e, p = [a, b, c, d, e] ∧ a ≠ [] ∧ b ≠ [] ∧ numOK c = true ∧ numOK d = true ∧ numOK e = true ∧ x = (⟨a, 0, numV c, numV d, numV e⟩, b) := by
  unfold lineOf at h
  split at h
  · rename_i a b c d e
    split at h
    · rename_i hc
      obtain ⟨h1, h2, h3, h4, h5⟩ := hc
      exact ⟨a, b, c, d, e, rfl, h1, h2, h3, h4, h5, (Option.some.inj h).symm⟩
    · cases h
  · cases h
theorem lineP_len {s : B} {x : Lt × B} (h : lineP s = some x) : x.1.text.length ≤ s.length ∧ x.2.length ≤ s.length := by
  obtain ⟨a, b, c, d, e, hp, _, _, _, _, _, rfl⟩ := lineOf_some h
  have := splitC_part 32 s
  rw [hp] at this
  exact ⟨this a (by simp), this b (by simp)⟩
abbrev Rows := List (Lt × B)
def addL {α : Type} (D : List α) : Sum (List α) Nat → Sum (List α) Nat
  | .inl R => .inl (D ++ R)
  | .inr e => .inr e
theorem addL_nil {α : Type} (x : Sum (List α) Nat) : addL [] x = x := by cases x <;> simp [addL]
theorem addL_addL {α : Type} (D E : List α) (x : Sum (List α) Nat) : addL D (addL E x) = addL (D ++ E) x := by cases x <;> simp [addL]
def linesG : List B → Nat → Sum Rows Nat
  | [], k => .inr (k + 1)
  | [l], k => if l = [] then .inl [] else .inr (k + 1)
  | l :: m :: t, k => match lineP l with | none => .inr (k + 1) | some r => addL [r] (linesG (m :: t) (k + 1))
theorem linesG_cons (l : B) {t : List B} (ht : t ≠ []) (k : Nat) : linesG (l :: t) k = match lineP l with | none => .inr (k + 1) | some r => addL [r] (linesG t (k + 1)) := by
  cases t with
  | nil => exact absurd rfl ht
  | cons m t => rfl
/-- The rest of the lines, from a string on. -/
def restG (s : B) (k : Nat) : Sum Rows Nat := linesG (splitC 10 s) k
theorem restG_nil (k : Nat) : restG [] k = .inl [] := rfl
theorem restG_no {s : B} (h : ∀ x ∈ s, x ≠ 10) (hs : s ≠ []) (k : Nat) : restG s k = .inr (k + 1) := by
  unfold restG
  rw [splitC_none h, linesG, if_neg hs]
theorem restG_bad {h r : B} (hh : ∀ x ∈ h, x ≠ 10) (hl : lineP h = none) (k : Nat) : restG (h ++ 10 :: r) k = .inr (k + 1) := by
  unfold restG
  rw [splitC_at hh, linesG_cons h (splitC_ne 10 r), hl]
theorem restG_line {h r : B} (hh : ∀ x ∈ h, x ≠ 10) {x : Lt × B} (hl : lineP h = some x) (k : Nat) : restG (h ++ 10 :: r) k = addL [x] (restG r (k + 1)) := by
  unfold restG
  rw [splitC_at hh, linesG_cons h (splitC_ne 10 r), hl]

/-! ## bases -/
def setB (l : Lt) (n : Int) : Lt := ⟨l.text, n, l.mark, l.cas, l.width⟩
def baseG (L0 : List Lt) : Rows → Nat → Sum (List Lt) Nat
  | [], _ => .inl []
  | x :: t, k => match idx L0 x.2 with | none => .inr (k + 1) | some n => addL [setB x.1 n] (baseG L0 t (k + 1))
def firsts (R : Rows) : List Lt := R.map (·.1)
def seconds (R : Rows) : List B := R.map (·.2)
abbrev PR := List Lt × Int × Int
def basesP (R : Rows) : PR := match baseG (firsts R) R 0 with
  | .inr k => ([], (k : Int), 6)
  | .inl L => if valP L = true then (L, 0, 0) else ([], 0, 1)
def parseP (s : B) : PR := if 65536 < s.length then ([], 0, 4) else match restG s 0 with
  | .inr k => ([], (k : Int), 2)
  | .inl R => basesP R
theorem firsts_len (R : Rows) : (firsts R).length = R.length := by simp [firsts]
theorem seconds_len (R : Rows) : (seconds R).length = R.length := by simp [seconds]
theorem parseP_val {s : B} : ∀ l ∈ (parseP s).1, l.text.length ≤ 4 := by
  intro l hl
  unfold parseP at hl
  split at hl
  · simp at hl
  · split at hl
    · simp at hl
    · unfold basesP at hl
      split at hl
      · simp at hl
      · split at hl
        · rename_i h
          exact (val_plain h hl).2.1
        · simp at hl
theorem parseP_len (s : B) : (parseP s).1.length ≤ 60 := by
  unfold parseP
  split
  · simp
  · split
    · simp
    · unfold basesP
      split
      · simp
      · split
        · rename_i h
          exact ((valP_iff _).1 h).2.1
        · simp
end Alp
end Go.Proofs.YtolkmjgklgimpaaDoor
