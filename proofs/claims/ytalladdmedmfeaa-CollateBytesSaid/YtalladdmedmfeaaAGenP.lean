/-
  The pure side of the reference's generators: letters, words, texts.
-/
import Derived.Test.YtalladdmedmfeaaARef
namespace Go.Proofs.Ytalladdmedmfeaa
open Go.RowKit
set_option linter.unusedVariables false
set_option linter.unusedSimpArgs false
namespace Alp
def genL (l : List Int) (st : Nat) (D : List Lt) : Lt :=
  if 0 < D.length ∧ atP l ((10 + D.length : Nat) : Int) 3 = 1 then
    ⟨poolT ((st + D.length) % 16), (D.getD (atP l ((20 + D.length : Nat) : Int) (D.length : Int)).toNat z).base, atP l ((30 + D.length : Nat) : Int) 4, atP l ((40 + D.length : Nat) : Int) 2, 1 + atP l ((2 + D.length : Nat) : Int) 9⟩
  else ⟨poolT ((st + D.length) % 16), (D.length : Int), 0, 0, 1 + atP l ((2 + D.length : Nat) : Int) 9⟩
def genG (l : List Int) (st : Nat) : Nat → List Lt
  | 0 => []
  | k + 1 => genG l st k ++ [genL l st (genG l st k)]
def genN (l : List Int) : Nat := (3 + atP l ((0 : Nat) : Int) 6).toNat
def genS (l : List Int) : Nat := (atP l ((1 : Nat) : Int) 16).toNat
def lettersP (l : List Int) : List Lt := genG l (genS l) (genN l)
theorem genG_len (l : List Int) (st k : Nat) : (genG l st k).length = k := by
  induction k with
  | zero => rfl
  | succ k ih => simp [genG, ih]
theorem genN_bd (l : List Int) : 3 ≤ genN l ∧ genN l ≤ 8 := by
  have := atP_bd l ((0 : Nat) : Int) (m := 6) (by omega)
  unfold genN
  omega
theorem genS_bd (l : List Int) : genS l < 16 := by
  have := atP_bd l ((1 : Nat) : Int) (m := 16) (by omega)
  unfold genS
  omega
theorem letters_len (l : List Int) : (lettersP l).length = genN l := genG_len _ _ _
structure Good (st : Nat) (D : List Lt) : Prop where
  at_ : ∀ i, i < D.length → (D.getD i z).text = poolT ((st + i) % 16) ∧ (0 ≤ (D.getD i z).base ∧ (D.getD i z).base ≤ i) ∧ (D.getD (D.getD i z).base.toNat z).base = (D.getD i z).base ∧ (0 ≤ (D.getD i z).mark ∧ (D.getD i z).mark ≤ 15) ∧ (0 ≤ (D.getD i z).cas ∧ (D.getD i z).cas ≤ 1) ∧ (1 ≤ (D.getD i z).width ∧ (D.getD i z).width ≤ 1000) ∧ ((D.getD i z).base ≠ i ∨ ((D.getD i z).mark = 0 ∧ (D.getD i z).cas = 0))
theorem getD_left {D E : List Lt} {i : Nat} (h : i < D.length) : (D ++ E).getD i z = D.getD i z := by simp [List.getD, List.getElem?_append_left h]
theorem getD_last (D : List Lt) (x : Lt) : (D ++ [x]).getD D.length z = x := by simp [List.getD]
theorem good_step (l : List Int) (st : Nat) (D : List Lt) (hg : Good st D) : Good st (D ++ [genL l st D]) := by
  constructor
  intro i hi
  rw [List.length_append, List.length_singleton] at hi
  rcases Nat.lt_or_ge i D.length with h | h
  · obtain ⟨h1, h2, h3, h4, h5, h6, h7⟩ := hg.at_ i h
    rw [getD_left h]
    refine ⟨h1, h2, ?_, h4, h5, h6, h7⟩
    rw [getD_left (by omega)]
    exact h3
  · obtain rfl : i = D.length := by omega
    rw [getD_last]
    have hw := atP_bd l ((2 + D.length : Nat) : Int) (m := 9) (by omega)
    have hm := atP_bd l ((30 + D.length : Nat) : Int) (m := 4) (by omega)
    have hc := atP_bd l ((40 + D.length : Nat) : Int) (m := 2) (by omega)
    unfold genL
    by_cases hcond : 0 < D.length ∧ atP l ((10 + D.length : Nat) : Int) 3 = 1
    · rw [if_pos hcond]
      have hb := atP_bd l ((20 + D.length : Nat) : Int) (m := (D.length : Int)) (by omega)
      obtain ⟨j, hj⟩ : ∃ j : Nat, atP l ((20 + D.length : Nat) : Int) (D.length : Int) = j := ⟨_, (Int.toNat_of_nonneg hb.1).symm⟩
      rw [hj, Int.toNat_natCast]
      have hjl : j < D.length := by omega
      obtain ⟨h1, h2, h3, h4, h5, h6, h7⟩ := hg.at_ j hjl
      refine ⟨rfl, ⟨h2.1, by simp only; omega⟩, ?_, by simp only; omega, by simp only; omega, by simp only; omega, .inl (by simp only; omega)⟩
      simp only
      rw [getD_left (by omega)]
      exact h3
    · rw [if_neg hcond]
      refine ⟨rfl, by simp only; omega, ?_, by simp, by simp, by simp only; omega, .inr ⟨rfl, rfl⟩⟩
      simp only [Int.toNat_natCast]
      rw [getD_last]
theorem good_gen (l : List Int) (st k : Nat) : Good st (genG l st k) := by
  induction k with
  | zero => exact ⟨fun i h => by simp [genG] at h⟩
  | succ k ih => exact good_step l st _ ih
theorem pool_plain : ∀ k : Fin 16, plain (poolT k.val) = true := by decide +kernel
theorem pool_inj : ∀ i j : Fin 16, poolT i.val = poolT j.val → i = j := by decide +kernel
theorem letters_val (l : List Int) : valP (lettersP l) = true := by
  have hg : Good (genS l) (lettersP l) := good_gen l (genS l) (genN l)
  have hl := letters_len l
  have hn := genN_bd l
  refine (valP_iff _).2 ⟨by omega, by omega, fun i hi => ?_, ?_⟩
  · obtain ⟨h1, h2, h3, h4, h5, h6, h7⟩ := hg.at_ i hi
    unfold lOK
    refine (lok_iff _ _ _).2 ⟨?_, ⟨h2.1, by omega⟩, h3, h4, h5, h6, h7⟩
    rw [h1]
    exact pool_plain ⟨(genS l + i) % 16, Nat.mod_lt _ (by omega)⟩
  · unfold texts
    refine List.pairwise_iff_getElem.2 fun i j hi hj hij => ?_
    have h1 : i < (lettersP l).length := by simpa using hi
    have h2 : j < (lettersP l).length := by simpa using hj
    have e1 := (hg.at_ i h1).1
    have e2 := (hg.at_ j h2).1
    rw [getD_get h1] at e1
    rw [getD_get h2] at e2
    simp only [List.getElem_map]
    rw [e1, e2]
    intro e
    have := pool_inj ⟨(genS l + i) % 16, Nat.mod_lt _ (by omega)⟩ ⟨(genS l + j) % 16, Nat.mod_lt _ (by omega)⟩ e
    simp at this
    omega
theorem val_small {L : List Lt} (h : valP L = true) : ∀ l ∈ L, l.text.length ≤ 9223372036854775807 := fun l hl => by have := (val_plain h hl).2.1; omega

/-! ## words and texts -/
def wordP (L : List Lt) (l : List Int) : List Int := (l.take 12).map fun x => arP x (L.length : Int)
theorem wordP_len (L : List Lt) (l : List Int) : (wordP L l).length ≤ 12 := by unfold wordP; rw [List.length_map, List.length_take]; omega
theorem wordP_in {L : List Lt} (hL : 1 ≤ L.length) (l : List Int) : ∀ x ∈ wordP L l, 0 ≤ x ∧ x < L.length := by
  intro x hx
  obtain ⟨y, _, rfl⟩ := List.mem_map.1 hx
  exact arP_bd y (by omega)
def extras : List B := [[32], [45], [49], [122], [115, 115], [99], [195], [10]]
def extraT (k : Nat) : B := extras.getD k []
def pieceN (L : List Lt) (x : Int) : Int := if (L.length : Int) + 2 ≤ arP x ((L.length : Int) + 14) then (arP x ((L.length : Int) + 14) - L.length - 2) % (L.length : Int) else arP x ((L.length : Int) + 14)
def pieceP (L : List Lt) (x : Int) : B := if pieceN L x < L.length then (L.getD (pieceN L x).toNat z).text else extraT (arP (x.tdiv 64) 8).toNat
def textP (L : List Lt) (l : List Int) : B := (l.take 40).flatMap (pieceP L)
theorem extra_len : ∀ k : Fin 8, (extraT k.val).length ≤ 2 := by decide +kernel
theorem extraT_len (k : Nat) : (extraT k).length ≤ 2 := by
  rcases Nat.lt_or_ge k 8 with h | h
  · exact extra_len ⟨k, h⟩
  · unfold extraT
    have : extras[k]? = none := List.getElem?_eq_none h
    simp [List.getD, this]
theorem pieceN_nn {L : List Lt} (hL : 1 ≤ L.length) (x : Int) : 0 ≤ pieceN L x := by
  have := arP_bd x (m := (L.length : Int) + 14) (by omega)
  unfold pieceN
  split
  · exact Int.emod_nonneg _ (by omega)
  · exact this.1
theorem pieceP_len {L : List Lt} (hv : valP L = true) (x : Int) : (pieceP L x).length ≤ 4 := by
  have hL := ((valP_iff L).1 hv).1
  have h0 := pieceN_nn hL x
  unfold pieceP
  split
  · exact (val_plain hv (getD_mem (by omega))).2.1
  · have := extraT_len (arP (x.tdiv 64) 8).toNat
    omega
theorem flat_len {f : Int → B} (hf : ∀ x, (f x).length ≤ 4) (l : List Int) : (l.flatMap f).length ≤ 4 * l.length := by
  induction l with
  | nil => simp
  | cons x t ih => rw [List.flatMap_cons, List.length_append, List.length_cons]; have := hf x; omega
theorem textP_len {L : List Lt} (hv : valP L = true) (l : List Int) : (textP L l).length ≤ 160 := by
  have := flat_len (pieceP_len hv) (l.take 40)
  unfold textP
  rw [List.length_take] at this
  omega
end Alp
end Go.Proofs.Ytalladdmedmfeaa
