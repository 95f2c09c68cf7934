/-
  The pure side of layer 5: letters, valid alphabets, the longest letter at the beginning of a string, what is read and written, descriptions read and printed.
-/
import Derived.WalkKit
namespace Go.Proofs.Ytalladdmedmfeaa
set_option linter.unusedVariables false
set_option linter.unusedSimpArgs false
namespace Alp

abbrev B := List UInt8
structure Lt where
  text : B
  base : Int
  mark : Int
  cas : Int
  width : Int
def z : Lt := ⟨[], 0, 0, 0, 0⟩
theorem lt_ext {a b : Lt} (h1 : a.text = b.text) (h2 : a.base = b.base) (h3 : a.mark = b.mark) (h4 : a.cas = b.cas) (h5 : a.width = b.width) : a = b := by
  cases a; cases b; simp_all
instance : DecidableEq Lt := fun a b => decidable_of_iff (a.text = b.text ∧ a.base = b.base ∧ a.mark = b.mark ∧ a.cas = b.cas ∧ a.width = b.width)
  ⟨fun h => lt_ext h.1 h.2.1 h.2.2.1 h.2.2.2.1 h.2.2.2.2, fun h => by subst h; exact ⟨rfl, rfl, rfl, rfl, rfl⟩⟩

/-! ## bytes -/
def marks : B := [45, 35, 46, 124, 40, 41, 42, 63, 123, 125, 62, 47, 95, 126, 59, 58, 44, 61, 34, 64]
def isD (c : UInt8) : Bool := decide (48 ≤ c.toNat) && decide (c.toNat ≤ 57)
def resv (c : UInt8) : Bool := decide (c.toNat < 33) || (isD c || marks.contains c)
def plain (t : B) : Bool := decide (1 ≤ t.length) && (decide (t.length ≤ 4) && t.all fun c => !resv c)
theorem plain_iff (t : B) : plain t = true ↔ 1 ≤ t.length ∧ t.length ≤ 4 ∧ ∀ c ∈ t, resv c = false := by
  unfold plain
  simp
theorem resv_32 : resv 32 = true := by decide
theorem resv_10 : resv 10 = true := by decide

/-! ## the number of a text -/
def idx : List Lt → B → Option Nat
  | [], _ => none
  | l :: L, t => if l.text = t then some 0 else (idx L t).map (· + 1)
theorem idx_none {L : List Lt} {t : B} : idx L t = none ↔ ∀ l ∈ L, l.text ≠ t := by
  induction L with
  | nil => simp [idx]
  | cons l L ih =>
    unfold idx
    by_cases h : l.text = t
    · simp [h]
    · simp [h, ih]
theorem idx_some {L : List Lt} {t : B} {i : Nat} (h : idx L t = some i) : i < L.length ∧ (L.getD i z).text = t ∧ ∀ j, j < i → (L.getD j z).text ≠ t := by
  induction L generalizing i with
  | nil => simp [idx] at h
  | cons l L ih =>
    unfold idx at h
    by_cases he : l.text = t
    · rw [if_pos he] at h
      obtain rfl := Option.some.inj h
      exact ⟨by simp, by simpa using he, fun j hj => by omega⟩
    · rw [if_neg he] at h
      cases hi : idx L t with
      | none => rw [hi] at h; cases h
      | some k =>
        rw [hi] at h
        obtain rfl : k + 1 = i := by simpa using h
        obtain ⟨h1, h2, h3⟩ := ih hi
        refine ⟨by simp; omega, by simpa using h2, fun j hj => ?_⟩
        cases j with
        | zero => simpa using he
        | succ j => simpa using h3 j (by omega)
theorem idx_snoc (L : List Lt) (l : Lt) (t : B) : idx (L ++ [l]) t = match idx L t with | some i => some i | none => if l.text = t then some L.length else none := by
  induction L with
  | nil => simp [idx]
  | cons a L ih =>
    simp only [List.cons_append, idx]
    by_cases he : a.text = t
    · simp [he]
    · rw [if_neg he, if_neg he, ih]
      cases hi : idx L t with
      | some k => simp
      | none =>
        by_cases hl : l.text = t <;> simp [hl]
def texts (L : List Lt) : List B := L.map (·.text)
theorem getD_get {L : List Lt} {i : Nat} (h : i < L.length) : L.getD i z = L[i] := by simp [List.getD, h]
theorem getD_mem {L : List Lt} {i : Nat} (h : i < L.length) : L.getD i z ∈ L := by rw [getD_get h]; exact List.getElem_mem h
theorem mem_getD {L : List Lt} {l : Lt} (h : l ∈ L) : ∃ i, i < L.length ∧ L.getD i z = l := by
  obtain ⟨i, hi, e⟩ := List.getElem_of_mem h
  exact ⟨i, hi, by rw [getD_get hi, e]⟩
theorem texts_inj {L : List Lt} (hn : (texts L).Nodup) {i j : Nat} (hi : i < L.length) (hj : j < L.length) (h : (L.getD i z).text = (L.getD j z).text) : i = j := by
  rw [getD_get hi, getD_get hj] at h
  have key : ∀ i j (hi : i < L.length) (hj : j < L.length), i < j → L[i].text ≠ L[j].text := fun i j hi hj hij => by
    have := List.pairwise_iff_getElem.1 hn i j (by simpa [texts] using hi) (by simpa [texts] using hj) hij
    simpa [texts] using this
  rcases Nat.lt_trichotomy i j with c | c | c
  · exact absurd h (key i j hi hj c)
  · exact c
  · exact absurd h.symm (key j i hj hi c)
theorem idx_of {L : List Lt} (hn : (texts L).Nodup) {i : Nat} (hi : i < L.length) {t : B} (h : (L.getD i z).text = t) : idx L t = some i := by
  cases hx : idx L t with
  | none => exact absurd h (idx_none.1 hx _ (getD_mem hi))
  | some j =>
    obtain ⟨h1, h2, _⟩ := idx_some hx
    rw [texts_inj hn h1 hi (h2.trans h.symm)]
theorem nodup_snoc (L : List Lt) (l : Lt) : (texts (L ++ [l])).Nodup ↔ (texts L).Nodup ∧ idx L l.text = none := by
  have e : texts (L ++ [l]) = texts L ++ [l.text] := by simp [texts]
  rw [e, List.nodup_append, idx_none]
  simp only [texts, List.mem_map, List.mem_singleton]
  constructor
  · rintro ⟨h1, _, h3⟩
    exact ⟨h1, fun a ha => h3 a.text ⟨a, ha, rfl⟩ l.text rfl⟩
  · rintro ⟨h1, h2⟩
    refine ⟨h1, by simp, ?_⟩
    rintro a ⟨x, hx, rfl⟩ b rfl
    exact h2 x hx

/-! ## valid alphabets -/
def lok (L : List Lt) (n : Nat) (l : Lt) : Bool :=
  plain l.text && (decide (0 ≤ l.base ∧ l.base < L.length) && (decide ((L.getD l.base.toNat z).base = l.base) && (decide (0 ≤ l.mark ∧ l.mark ≤ 15) && (decide (0 ≤ l.cas ∧ l.cas ≤ 1) &&
  (decide (1 ≤ l.width ∧ l.width ≤ 1000) && decide (l.base ≠ n ∨ (l.mark = 0 ∧ l.cas = 0)))))))
def lOK (L : List Lt) (n : Nat) : Bool := lok L n (L.getD n z)
def valP (L : List Lt) : Bool := decide (1 ≤ L.length) && (decide (L.length ≤ 60) && ((List.range L.length).all (lOK L) && decide (texts L).Nodup))
theorem valP_iff (L : List Lt) : valP L = true ↔ 1 ≤ L.length ∧ L.length ≤ 60 ∧ (∀ n, n < L.length → lOK L n = true) ∧ (texts L).Nodup := by
  unfold valP
  simp
theorem lok_iff (L : List Lt) (n : Nat) (l : Lt) : lok L n l = true ↔ plain l.text = true ∧ (0 ≤ l.base ∧ l.base < L.length) ∧ (L.getD l.base.toNat z).base = l.base ∧ (0 ≤ l.mark ∧ l.mark ≤ 15) ∧ (0 ≤ l.cas ∧ l.cas ≤ 1) ∧ (1 ≤ l.width ∧ l.width ≤ 1000) ∧ (l.base ≠ n ∨ (l.mark = 0 ∧ l.cas = 0)) := by
  unfold lok
  simp [and_assoc]
theorem val_plain {L : List Lt} (h : valP L = true) {l : Lt} (hl : l ∈ L) : 1 ≤ l.text.length ∧ l.text.length ≤ 4 ∧ ∀ c ∈ l.text, resv c = false := by
  obtain ⟨i, hi, rfl⟩ := mem_getD hl
  have := ((valP_iff L).1 h).2.2.1 i hi
  exact (plain_iff _).1 ((lok_iff _ _ _).1 this).1

/-! ## the longest letter at the beginning -/
def tr (L : List Lt) (s : B) : Nat → Option (Nat × Nat)
  | 0 => none
  | k + 1 => match idx L (s.take (k + 1)) with | some n => some (n, k + 1) | none => tr L s k
def stepP (L : List Lt) (s : B) : Option (Nat × Nat) := tr L s (min 4 s.length)
theorem tr_none {L : List Lt} {s : B} {m : Nat} (h : tr L s m = none) : ∀ k, 1 ≤ k → k ≤ m → idx L (s.take k) = none := by
  induction m with
  | zero => intro k h1 h2; omega
  | succ m ih =>
    intro k h1 h2
    unfold tr at h
    cases hi : idx L (s.take (m + 1)) with
    | some n => rw [hi] at h; cases h
    | none =>
      rw [hi] at h
      rcases Nat.lt_or_ge k (m + 1) with hk | hk
      · exact ih h k h1 (by omega)
      · obtain rfl : k = m + 1 := by omega
        exact hi
theorem tr_some {L : List Lt} {s : B} {m n k : Nat} (h : tr L s m = some (n, k)) : 1 ≤ k ∧ k ≤ m ∧ idx L (s.take k) = some n ∧ ∀ j, k < j → j ≤ m → idx L (s.take j) = none := by
  induction m with
  | zero => simp [tr] at h
  | succ m ih =>
    unfold tr at h
    cases hi : idx L (s.take (m + 1)) with
    | some x =>
      rw [hi] at h
      obtain ⟨rfl, rfl⟩ : x = n ∧ m + 1 = k := by simpa using h
      exact ⟨by omega, by omega, hi, fun j h1 h2 => by omega⟩
    | none =>
      rw [hi] at h
      obtain ⟨h1, h2, h3, h4⟩ := ih h
      refine ⟨h1, by omega, h3, fun j h5 h6 => ?_⟩
      rcases Nat.lt_or_ge j (m + 1) with hk | hk
      · exact h4 j h5 (by omega)
      · obtain rfl : j = m + 1 := by omega
        exact hi
theorem prefix_take {t s : B} (h : t <+: s) : s.take t.length = t := (List.prefix_iff_eq_take.1 h).symm
theorem take_pre (s : B) (k : Nat) : s.take k <+: s := List.take_prefix k s
/-- What a letter that begins is, of a valid alphabet. -/
theorem step_none {L : List Lt} (hv : valP L = true) {s : B} (h : stepP L s = none) : ∀ l ∈ L, ¬ l.text <+: s := by
  intro l hl hp
  obtain ⟨h1, h2, _⟩ := val_plain hv hl
  have hlen := hp.length_le
  have := tr_none h l.text.length h1 (by omega)
  rw [prefix_take hp] at this
  exact idx_none.1 this l hl rfl
theorem step_some {L : List Lt} (hv : valP L = true) {s : B} {n k : Nat} (h : stepP L s = some (n, k)) :
    n < L.length ∧ (L.getD n z).text = s.take k ∧ (L.getD n z).text.length = k ∧ 1 ≤ k ∧ k ≤ s.length ∧ k ≤ 4 ∧ ∀ l ∈ L, l.text <+: s → l.text.length ≤ k := by
  obtain ⟨h1, h2, h3, h4⟩ := tr_some h
  obtain ⟨h5, h6, _⟩ := idx_some h3
  have hk : (s.take k).length = k := by simp; omega
  refine ⟨h5, h6, by rw [h6, hk], h1, by omega, by omega, fun l hl hp => ?_⟩
  obtain ⟨g1, g2, _⟩ := val_plain hv hl
  have hlen := hp.length_le
  rcases Nat.lt_or_ge k l.text.length with hc | hc
  · have := h4 l.text.length hc (by omega)
    rw [prefix_take hp] at this
    exact absurd rfl (idx_none.1 this l hl)
  · exact hc

/-! ## reading -/
def readG : Nat → List Lt → B → Nat → List Int × Int
  | 0, _, _, p => ([], p)
  | f + 1, L, s, p => if s = [] then ([], -1) else match stepP L s with
    | none => ([], p)
    | some (n, k) => ((n : Int) :: (readG f L (s.drop k) (p + k)).1, (readG f L (s.drop k) (p + k)).2)
def readP (L : List Lt) (s : B) : List Int × Int := if valP L then readG (s.length + 1) L s 0 else ([], 0)
theorem readG_nil (f : Nat) (L : List Lt) (p : Nat) : readG (f + 1) L [] p = ([], -1) := by simp [readG]
theorem readG_none {f : Nat} {L : List Lt} {s : B} {p : Nat} (hs : s ≠ []) (h : stepP L s = none) : readG (f + 1) L s p = ([], (p : Int)) := by
  rw [readG, if_neg hs, h]
theorem readG_some {f : Nat} {L : List Lt} {s : B} {p n k : Nat} (hs : s ≠ []) (h : stepP L s = some (n, k)) : readG (f + 1) L s p = ((n : Int) :: (readG f L (s.drop k) (p + k)).1, (readG f L (s.drop k) (p + k)).2) := by
  rw [readG, if_neg hs, h]

/-! ## the reference's longest letter -/
def nxt (L : List Lt) (s : B) (i : Nat) : Option Nat → Option Nat
  | none => if (L.getD i z).text <+: s then some i else none
  | some b => if (L.getD i z).text <+: s ∧ (L.getD b z).text.length < (L.getD i z).text.length then some i else some b
def longG (L : List Lt) (s : B) : Nat → Option Nat
  | 0 => none
  | i + 1 => nxt L s i (longG L s i)
theorem longG_spec (L : List Lt) (s : B) (i : Nat) : (longG L s i = none ∧ ∀ j, j < i → ¬ (L.getD j z).text <+: s) ∨
    ∃ b, longG L s i = some b ∧ b < i ∧ (L.getD b z).text <+: s ∧ ∀ j, j < i → (L.getD j z).text <+: s → (L.getD j z).text.length ≤ (L.getD b z).text.length := by
  induction i with
  | zero => exact .inl ⟨rfl, fun j hj => by omega⟩
  | succ i ih =>
    unfold longG
    rcases ih with ⟨h1, h2⟩ | ⟨b, h1, h2, h3, h4⟩
    · rw [h1]
      by_cases hp : (L.getD i z).text <+: s
      · refine .inr ⟨i, if_pos hp, by omega, hp, fun j hj hpj => ?_⟩
        rcases Nat.lt_or_ge j i with hk | hk
        · exact absurd hpj (h2 j hk)
        · obtain rfl : j = i := by omega
          exact Nat.le_refl _
      · refine .inl ⟨if_neg hp, fun j hj => ?_⟩
        rcases Nat.lt_or_ge j i with hk | hk
        · exact h2 j hk
        · obtain rfl : j = i := by omega
          exact hp
    · rw [h1]
      by_cases hp : (L.getD i z).text <+: s ∧ (L.getD b z).text.length < (L.getD i z).text.length
      · refine .inr ⟨i, if_pos hp, by omega, hp.1, fun j hj hpj => ?_⟩
        rcases Nat.lt_or_ge j i with hk | hk
        · have h5 := h4 j hk hpj
          have h6 := hp.2
          omega
        · obtain rfl : j = i := by omega
          exact Nat.le_refl _
      · refine .inr ⟨b, if_neg hp, by omega, h3, fun j hj hpj => ?_⟩
        rcases Nat.lt_or_ge j i with hk | hk
        · exact h4 j hk hpj
        · obtain rfl : j = i := by omega
          exact Nat.le_of_not_lt fun h => hp ⟨hpj, h⟩
def longP (L : List Lt) (s : B) : Option Nat := longG L s L.length
/-- In a valid alphabet the reference's longest letter is the one that is read. -/
theorem long_eq {L : List Lt} (hv : valP L = true) (s : B) : longP L s = (stepP L s).map (·.1) := by
  have hn := ((valP_iff L).1 hv).2.2.2
  cases hs : stepP L s with
  | none =>
    have := step_none hv hs
    rcases longG_spec L s L.length with ⟨h1, _⟩ | ⟨b, h1, h2, h3, _⟩
    · exact h1
    · exact absurd h3 (this _ (getD_mem h2))
  | some q =>
    obtain ⟨n, k⟩ := q
    obtain ⟨h1, h2, h3, h4, h5, h6, h7⟩ := step_some hv hs
    have hp : (L.getD n z).text <+: s := by rw [h2]; exact take_pre s k
    rcases longG_spec L s L.length with ⟨g1, g2⟩ | ⟨b, g1, g2, g3, g4⟩
    · exact absurd hp (g2 n h1)
    · have e1 := g4 n h1 hp
      have e2 := h7 _ (getD_mem g2) g3
      have e3 : (L.getD b z).text.length = k := by omega
      have e4 : (L.getD b z).text = s.take k := by rw [← e3]; exact (prefix_take g3).symm
      have : b = n := texts_inj hn g2 h1 (e4.trans h2.symm)
      subst this
      exact g1

/-! ## writing -/
def wrG (L : List Lt) : List Int → Option B
  | [] => some []
  | x :: t => if 0 ≤ x ∧ x < L.length then (wrG L t).map ((L.getD x.toNat z).text ++ ·) else none
def writeP (L : List Lt) (w : List Int) : B × Int := if valP L then (match wrG L w with | some s => (s, 0) | none => ([], 5)) else ([], 1)
def safeP (L : List Lt) (w : List Int) : Bool := decide ((writeP L w).2 = 0) && decide (readP L (writeP L w).1 = (w, -1))
def foldP (L : List Lt) (w : List Int) : List Int := if valP L then w.map (fun (x : Int) => if 0 ≤ x ∧ x < L.length then (L.getD x.toNat z).base else x) else w
theorem wrG_ok {L : List Lt} {w : List Int} (h : ∀ x ∈ w, 0 ≤ x ∧ x < L.length) : wrG L w = some (w.flatMap fun x => (L.getD x.toNat z).text) := by
  induction w with
  | nil => rfl
  | cons x t ih =>
    rw [wrG, if_pos (h x (by simp)), ih (fun y hy => h y (by simp [hy]))]
    simp
theorem writeP_val {L : List Lt} (hv : valP L = true) (w : List Int) : writeP L w = match wrG L w with | some s => (s, 0) | none => ([], 5) := by
  unfold writeP; rw [if_pos hv]
theorem readP_val {L : List Lt} (hv : valP L = true) (s : B) : readP L s = readG (s.length + 1) L s 0 := by unfold readP; rw [if_pos hv]

/-! ## the longest letters are read -/
/-- At each place of s the longest letter is the one of w; at the end no letter begins. -/
def lng (L : List Lt) : B → List Int → Prop
  | s, [] => ∀ l ∈ L, ¬ l.text <+: s
  | s, x :: t => (0 ≤ x ∧ x < L.length ∧ (L.getD x.toNat z).text <+: s ∧ ∀ l ∈ L, l.text <+: s → l.text.length ≤ (L.getD x.toNat z).text.length) ∧ lng L (s.drop (L.getD x.toNat z).text.length) t
theorem no_pre_nil {L : List Lt} (hv : valP L = true) : ∀ l ∈ L, ¬ l.text <+: [] := by
  intro l hl hp
  have h1 := (val_plain hv hl).1
  rw [List.prefix_nil.1 hp] at h1
  simp at h1
theorem readG_long {L : List Lt} (hv : valP L = true) (f : Nat) (s : B) (p : Nat) (hf : s.length < f) :
    lng L s (readG f L s p).1 ∧ ∃ c, c ≤ s.length ∧ wrG L (readG f L s p).1 = some (s.take c) ∧ (readG f L s p).1.length ≤ c ∧ (((readG f L s p).2 = -1 ∧ c = s.length) ∨ ((readG f L s p).2 = (p : Int) + c ∧ c < s.length)) := by
  induction f generalizing s p with
  | zero => omega
  | succ f ih =>
    by_cases hs : s = []
    · subst hs
      rw [readG_nil]
      exact ⟨no_pre_nil hv, 0, Nat.le_refl _, rfl, Nat.le_refl _, .inl ⟨rfl, rfl⟩⟩
    · have hpos : 0 < s.length := List.length_pos_iff.2 hs
      cases hp : stepP L s with
      | none =>
        rw [readG_none hs hp]
        exact ⟨step_none hv hp, 0, Nat.zero_le _, rfl, Nat.le_refl _, .inr ⟨by simp, hpos⟩⟩
      | some q =>
        obtain ⟨n, k⟩ := q
        rw [readG_some hs hp]
        obtain ⟨h1, h2, h3, h4, h5, h6, h7⟩ := step_some hv hp
        obtain ⟨g1, c, g2, g3, g4, g5⟩ := ih (s.drop k) (p + k) (by rw [List.length_drop]; omega)
        have en : ((n : Int)).toNat = n := Int.toNat_natCast n
        simp only [List.length_drop] at g2 g5
        refine ⟨⟨⟨by omega, by omega, by rw [en, h2]; exact take_pre s k, by rw [en, h3]; exact h7⟩, by rw [en, h3]; exact g1⟩, k + c, by omega, ?_, by simp only [List.length_cons]; omega, ?_⟩
        · show wrG L ((n : Int) :: _) = _
          rw [wrG, if_pos ⟨by omega, by omega⟩, g3, en, h2]
          simp only [Option.map_some, Option.some.injEq]
          rw [← List.take_add]
        · rcases g5 with ⟨e1, e2⟩ | ⟨e1, e2⟩
          · exact .inl ⟨e1, by omega⟩
          · refine .inr ⟨?_, by omega⟩
            show (readG f L (s.drop k) (p + k)).2 = _
            rw [e1]
            omega
/-- A word that is written so that at each place only its own letter fits is read again. -/
theorem readG_step {L : List Lt} (hv : valP L = true) {s : B} {x : Nat} (hx : x < L.length) (hp : (L.getD x z).text <+: s) (hl : ∀ l ∈ L, l.text <+: s → l.text.length ≤ (L.getD x z).text.length) : stepP L s = some (x, (L.getD x z).text.length) := by
  have hn := ((valP_iff L).1 hv).2.2.2
  cases hs : stepP L s with
  | none => exact absurd hp (step_none hv hs _ (getD_mem hx))
  | some q =>
    obtain ⟨n, k⟩ := q
    obtain ⟨h1, h2, h3, h4, h5, h6, h7⟩ := step_some hv hs
    have e1 := hl _ (getD_mem h1) (by rw [h2]; exact take_pre s k)
    have e2 := h7 _ (getD_mem hx) hp
    have e3 : (L.getD x z).text.length = k := by omega
    have e4 : (L.getD x z).text = s.take k := by rw [← e3]; exact (prefix_take hp).symm
    have : n = x := texts_inj hn h1 hx (h2.trans e4.symm)
    subst this
    rw [e3]
theorem readG_lng {L : List Lt} (hv : valP L = true) (f : Nat) (w : List Int) (s : B) (p : Nat) (hf : s.length < f) (h : lng L s w) (hw : wrG L w = some s) : readG f L s p = (w, -1) := by
  induction w generalizing f s p with
  | nil =>
    obtain rfl : [] = s := by simpa [wrG] using hw
    obtain ⟨f, rfl⟩ : ∃ g, f = g + 1 := ⟨f - 1, by simp at hf; omega⟩
    exact readG_nil f L p
  | cons x t ih =>
    obtain ⟨⟨h1, h2, h3, h4⟩, h5⟩ := h
    obtain ⟨f, rfl⟩ : ∃ g, f = g + 1 := ⟨f - 1, by omega⟩
    obtain ⟨n, rfl⟩ : ∃ n : Nat, x = n := ⟨x.toNat, by omega⟩
    have hn : n < L.length := by omega
    rw [Int.toNat_natCast] at h3 h4 h5
    rw [wrG, if_pos ⟨h1, h2⟩, Int.toNat_natCast] at hw
    cases ht : wrG L t with
    | none => rw [ht] at hw; cases hw
    | some s' =>
      rw [ht] at hw
      obtain rfl : (L.getD n z).text ++ s' = s := by simpa using hw
      have hpl := (val_plain hv (getD_mem hn)).1
      have hst := readG_step hv hn h3 h4
      rw [List.drop_left] at h5
      have := ih f s' (p + (L.getD n z).text.length) (by simp only [List.length_append] at hf; omega) h5 ht
      rw [readG_some (by intro e; have := congrArg List.length e; simp only [List.length_append, List.length_nil] at this; omega) hst, List.drop_left, this]
/-- No text is the beginning of another one's. -/
def free (L : List Lt) : Prop := ∀ i j, i < L.length → j < L.length → i ≠ j → ¬ (L.getD i z).text <+: (L.getD j z).text
theorem free_lng {L : List Lt} (hv : valP L = true) (hfr : free L) (w : List Int) (s : B) (hw : wrG L w = some s) : lng L s w := by
  induction w generalizing s with
  | nil =>
    obtain rfl : [] = s := by simpa [wrG] using hw
    exact no_pre_nil hv
  | cons x t ih =>
    rw [wrG] at hw
    by_cases hx : 0 ≤ x ∧ x < L.length
    · rw [if_pos hx] at hw
      cases ht : wrG L t with
      | none => rw [ht] at hw; cases hw
      | some s' =>
        rw [ht] at hw
        obtain rfl : (L.getD x.toNat z).text ++ s' = s := by simpa using hw
        refine ⟨⟨hx.1, hx.2, List.prefix_append _ _, fun l hl hp => ?_⟩, by rw [List.drop_left]; exact ih s' ht⟩
        obtain ⟨i, hi, rfl⟩ := mem_getD hl
        have hxn : x.toNat < L.length := by omega
        by_cases e : i = x.toNat
        · rw [e]; exact Nat.le_refl _
        · rcases List.prefix_or_prefix_of_prefix hp (List.prefix_append (L.getD x.toNat z).text s') with h | h
          · exact absurd h (hfr _ _ hi hxn e)
          · exact absurd h (hfr _ _ hxn hi (Ne.symm e))
    · rw [if_neg hx] at hw
      cases hw
theorem safe_of {L : List Lt} (hv : valP L = true) {w : List Int} {s : B} (hw : wrG L w = some s) (h : lng L s w) : safeP L w = true := by
  unfold safeP
  rw [writeP_val hv, hw]
  simp only [decide_true, Bool.true_and, decide_eq_true_eq]
  rw [readP_val hv]
  exact readG_lng hv _ w s 0 (by omega) h hw
theorem safe_one {L : List Lt} (hv : valP L = true) {i : Nat} (hi : i < L.length) : safeP L [(i : Int)] = true := by
  have hw : wrG L [(i : Int)] = some (L.getD i z).text := by rw [wrG, if_pos ⟨by omega, by omega⟩]; simp [wrG]
  refine safe_of hv hw ⟨⟨by omega, by omega, by rw [Int.toNat_natCast]; exact List.prefix_refl _, fun l hl hp => by rw [Int.toNat_natCast]; exact hp.length_le⟩, ?_⟩
  rw [Int.toNat_natCast, List.drop_length]
  exact no_pre_nil hv
end Alp
end Go.Proofs.Ytalladdmedmfeaa
