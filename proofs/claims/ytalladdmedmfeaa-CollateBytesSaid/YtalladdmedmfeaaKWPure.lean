/-
  Plain mathematics of the encodings of layer 1 (bytes, integers, lists): no program, no walk.
-/
import Derived.Test.YtalladdmedmfeaaABase
namespace Go.Proofs.Ytalladdmedmfeaa

/-! ## bytes of a number -/

/-- The bytes of m in base 256, most significant first, no leading zero; k: fuel. -/
def be : Nat → Nat → List UInt8
  | 0, _ => []
  | k + 1, m => if m = 0 then [] else be k (m / 256) ++ [UInt8.ofNat (m % 256)]

def val (l : List UInt8) : Nat := l.foldl (fun a c => 256 * a + c.toNat) 0

theorem val_nil : val [] = 0 := rfl
theorem val_snoc (l : List UInt8) (c : UInt8) : val (l ++ [c]) = 256 * val l + c.toNat := by simp [val, List.foldl_append]
theorem be_zero (k : Nat) : be k 0 = [] := by cases k <;> simp [be]
theorem be_pos {k m : Nat} (h : 0 < m) : be (k + 1) m = be k (m / 256) ++ [UInt8.ofNat (m % 256)] := by simp [be, Nat.ne_of_gt h]
theorem be_len (k : Nat) : ∀ m, (be k m).length ≤ k := by
  induction k with
  | zero => intro m; simp [be]
  | succ k ih => intro m; unfold be; split
                 · simp
                 · have := ih (m / 256); simp; omega
theorem val_be (k : Nat) : ∀ m, m < 256 ^ k → val (be k m) = m := by
  induction k with
  | zero => intro m h; simp at h; subst h; rfl
  | succ k ih =>
    intro m h
    by_cases h0 : m = 0
    · subst h0; simp [be_zero, val]
    · rw [be_pos (by omega), val_snoc, ih (m / 256) (by rw [Nat.pow_succ] at h; omega)]
      have : (UInt8.ofNat (m % 256)).toNat = m % 256 := by simp
      omega
theorem val_lt (l : List UInt8) : val l < 256 ^ l.length := by
  have H : ∀ (k : Nat) (l : List UInt8), l.length = k → val l < 256 ^ k := by
    intro k
    induction k with
    | zero => intro l h; rw [List.eq_nil_of_length_eq_zero h]; simp [val]
    | succ k ih =>
      intro l h
      obtain ⟨l', c, rfl⟩ : ∃ l' c, l = l' ++ [c] := ⟨l.dropLast, l.getLast (by rintro rfl; simp at h), (List.dropLast_concat_getLast _).symm⟩
      have h1 : l'.length = k := by simp at h; omega
      have := ih l' h1
      have hc : c.toNat < 256 := c.toNat_lt
      rw [val_snoc, Nat.pow_succ]
      omega
  exact H _ l rfl
/-- The first byte of a written number is not zero. -/
theorem be_head (k : Nat) : ∀ m, m < 256 ^ k → (be k m).head? ≠ some 0 := by
  induction k with
  | zero => intro m _; simp [be]
  | succ k ih =>
    intro m h
    by_cases h0 : m = 0
    · subst h0; simp [be_zero]
    · rw [be_pos (by omega)]
      have hk := ih (m / 256) (by rw [Nat.pow_succ] at h; omega)
      by_cases h1 : m / 256 = 0
      · rw [h1, be_zero]
        have h2 : m % 256 = m := by omega
        rw [h2]
        intro hx
        simp only [List.nil_append, List.head?_cons, Option.some.injEq] at hx
        have := congrArg UInt8.toNat hx
        simp at this
        omega
      · have hne : be k (m / 256) ≠ [] := by
          intro e
          have := val_be k (m / 256) (by rw [Nat.pow_succ] at h; omega)
          rw [e] at this
          simp [val] at this
          omega
        rw [List.head?_append]
        cases hb : be k (m / 256) with
        | nil => exact absurd hb hne
        | cons a r => rw [hb] at hk; simpa using hk
/-- A list with no leading zero is what is written of its value. -/
theorem be_val (k : Nat) : ∀ l : List UInt8, l.length ≤ k → l.head? ≠ some 0 → be k (val l) = l := by
  induction k with
  | zero => intro l h _; obtain rfl : l = [] := List.eq_nil_of_length_eq_zero (by omega)
            rfl
  | succ k ih =>
    intro l h hh
    by_cases hl : l = []
    · subst hl; simp [val, be]
    · obtain ⟨l', c, rfl⟩ : ∃ l' c, l = l' ++ [c] := ⟨l.dropLast, l.getLast hl, (List.dropLast_concat_getLast hl).symm⟩
      have hc : c.toNat < 256 := c.toNat_lt
      have h1 : l'.length ≤ k := by simp at h; omega
      have h2 : l'.head? ≠ some 0 := by
        intro e
        apply hh
        rw [List.head?_append, e]; rfl
      have hv := ih l' h1 h2
      rw [val_snoc]
      have hpos : 0 < 256 * val l' + c.toNat := by
        rcases Nat.eq_zero_or_pos (val l') with hz | hz
        · rw [hz] at hv ⊢
          rw [be_zero] at hv
          subst hv
          have hc0 : c ≠ 0 := by intro e; apply hh; subst e; rfl
          have : c.toNat ≠ 0 := fun e => hc0 (UInt8.toNat_inj.1 (by simpa using e))
          omega
        · omega
      rw [be_pos hpos]
      have e1 : (256 * val l' + c.toNat) / 256 = val l' := by omega
      have e2 : (256 * val l' + c.toNat) % 256 = c.toNat := by omega
      rw [e1, e2, hv]
      simp

/-! ## integers -/

def flip (neg : Bool) (c : UInt8) : UInt8 := if neg then 255 - c else c
theorem flip_toNat (neg : Bool) (c : UInt8) : (flip neg c).toNat = if neg then 255 - c.toNat else c.toNat := by
  unfold flip
  have : c.toNat < 256 := c.toNat_lt
  cases neg
  · rfl
  · simp only [if_true]
    rw [UInt8.toNat_sub_of_le]
    · rfl
    · rw [UInt8.le_iff_toNat_le]; show c.toNat ≤ 255; omega
theorem flip_flip (neg : Bool) (c : UInt8) : flip neg (flip neg c) = c := by
  apply UInt8.toNat_inj.1
  rw [flip_toNat, flip_toNat]
  have : c.toNat < 256 := c.toNat_lt
  cases neg <;> simp <;> omega
theorem map_flip_flip (neg : Bool) (l : List UInt8) : (l.map (flip neg)).map (flip neg) = l := by
  rw [List.map_map]
  conv => rhs; rw [← List.map_id l]
  apply List.map_congr_left
  intro c _
  exact flip_flip neg c

/-- What is written of a number: the magnitude's bytes behind the first byte. -/
def enS (neg : Bool) (m : Nat) : List UInt8 := flip neg (UInt8.ofNat (128 + (be 8 m).length)) :: (be 8 m).map (flip neg)
def en (n : Int) : List UInt8 := if n < 0 then enS true (-1 - n).toNat else enS false n.toNat

/-- Behind the first byte: k bytes are wanted. The number, how many bytes it took, the error. -/
def gB (neg : Bool) (k : Nat) (t : List UInt8) : Int × Nat × Int :=
  if 8 < k then (0, 0, 2) else if t.length < k then (0, 0, 3)
  else if ((t.take k).map (flip neg)).head? = some 0 then (0, 0, 2)
  else if 9223372036854775808 ≤ val ((t.take k).map (flip neg)) then (0, 0, 2)
  else (if neg then -1 - (val ((t.take k).map (flip neg)) : Int) else (val ((t.take k).map (flip neg)) : Int), 1 + k, 0)
def gI : List UInt8 → Int × Nat × Int
  | [] => (0, 0, 3)
  | h :: t => if h.toNat < 128 then gB true (127 - h.toNat) t else gB false (h.toNat - 128) t
theorem gI_cons (h : UInt8) (t : List UInt8) : gI (h :: t) = if h.toNat < 128 then gB true (127 - h.toNat) t else gB false (h.toNat - 128) t := rfl

theorem enS_length (neg : Bool) (m : Nat) : (enS neg m).length = 1 + (be 8 m).length := by simp [enS]; omega
theorem en_length (n : Int) : 1 ≤ (en n).length ∧ (en n).length ≤ 9 := by
  unfold en
  split <;> (rw [enS_length]; have := be_len 8 ((-1 - n).toNat); have := be_len 8 n.toNat; omega)
theorem gB_ok (neg : Bool) (m : Nat) (hm : m < 9223372036854775808) (t : List UInt8) :
    gB neg (be 8 m).length ((be 8 m).map (flip neg) ++ t) = (if neg then -1 - (m : Int) else (m : Int), 1 + (be 8 m).length, 0) := by
  have hl := be_len 8 m
  have hlt : m < 256 ^ 8 := by omega
  have ht : (((be 8 m).map (flip neg) ++ t).take (be 8 m).length).map (flip neg) = be 8 m := by
    rw [List.take_append_of_le_length (by simp), List.take_of_length_le (by simp), map_flip_flip]
  unfold gB
  rw [ht, val_be 8 m hlt, if_neg (by omega), if_neg (by simp), if_neg (be_head 8 m hlt), if_neg (by omega)]
theorem gI_enS (neg : Bool) (m : Nat) (hm : m < 9223372036854775808) (t : List UInt8) :
    gI (enS neg m ++ t) = (if neg then -1 - (m : Int) else (m : Int), (enS neg m).length, 0) := by
  have hl := be_len 8 m
  have h1 : (flip neg (UInt8.ofNat (128 + (be 8 m).length))).toNat = if neg then 127 - (be 8 m).length else 128 + (be 8 m).length := by
    rw [flip_toNat]
    have : (UInt8.ofNat (128 + (be 8 m).length)).toNat = 128 + (be 8 m).length := by simp; omega
    rw [this]
    cases neg <;> simp; omega
  rw [enS_length]
  unfold enS
  rw [List.cons_append]
  rw [gI_cons, h1]
  cases neg
  · have e : 128 + (be 8 m).length - 128 = (be 8 m).length := by omega
    rw [if_neg (by simp)]
    have := gB_ok false m hm t
    simp only [Bool.false_eq_true, if_false, e] at this ⊢
    exact this
  · have e : 127 - (127 - (be 8 m).length) = (be 8 m).length := by omega
    rw [if_pos (by simp; omega)]
    have := gB_ok true m hm t
    simp only [if_true, e] at this ⊢
    exact this
theorem gI_en (n : Int) (hn : inI n) (t : List UInt8) : gI (en n ++ t) = (n, (en n).length, 0) := by
  unfold inI at hn
  unfold en
  split
  · rw [gI_enS true _ (by omega)]; simp; omega
  · rw [gI_enS false _ (by omega)]; simp; omega

/-- What gB answers without an error. -/
theorem gB_inv {neg : Bool} {k : Nat} {t : List UInt8} (h : (gB neg k t).2.2 = 0) :
    k ≤ 8 ∧ k ≤ t.length ∧ ((t.take k).map (flip neg)).head? ≠ some 0 ∧ val ((t.take k).map (flip neg)) < 9223372036854775808 ∧
    gB neg k t = (if neg then -1 - (val ((t.take k).map (flip neg)) : Int) else (val ((t.take k).map (flip neg)) : Int), 1 + k, 0) := by
  unfold gB at h ⊢
  by_cases h1 : 8 < k
  · rw [if_pos h1] at h; simp at h
  · rw [if_neg h1] at h ⊢
    by_cases h2 : t.length < k
    · rw [if_pos h2] at h; simp at h
    · rw [if_neg h2] at h ⊢
      by_cases h3 : ((t.take k).map (flip neg)).head? = some 0
      · rw [if_pos h3] at h; simp at h
      · rw [if_neg h3] at h ⊢
        by_cases h4 : 9223372036854775808 ≤ val ((t.take k).map (flip neg))
        · rw [if_pos h4] at h; simp at h
        · rw [if_neg h4]
          exact ⟨by omega, by omega, h3, by omega, rfl⟩
theorem gI_ok {l : List UInt8} (h : (gI l).2.2 = 0) : inI (gI l).1 ∧ (gI l).2.1 ≤ l.length ∧ 1 ≤ (gI l).2.1 ∧ (gI l).2.1 ≤ 9 ∧ l.take (gI l).2.1 = en (gI l).1 := by
  cases l with
  | nil => simp [gI] at h
  | cons c t =>
    have hc : c.toNat < 256 := c.toNat_lt
    have key : ∀ (neg : Bool) (k : Nat), (gB neg k t).2.2 = 0 → (c.toNat = if neg then 127 - k else 128 + k) → (neg = true → k ≤ 127) →
        inI (gB neg k t).1 ∧ (gB neg k t).2.1 ≤ (c :: t).length ∧ 1 ≤ (gB neg k t).2.1 ∧ (gB neg k t).2.1 ≤ 9 ∧ (c :: t).take (gB neg k t).2.1 = en (gB neg k t).1 := by
      intro neg k hg hck hneg
      obtain ⟨h1, h2, h3, h4, h5⟩ := gB_inv hg
      have hbe : be 8 (val ((t.take k).map (flip neg))) = (t.take k).map (flip neg) := be_val 8 _ (by simp; omega) h3
      have hlen : ((t.take k).map (flip neg)).length = k := by simp; omega
      rw [h5]
      refine ⟨?_, by simp; omega, by simp, by simp; omega, ?_⟩
      · unfold inI; generalize val ((t.take k).map (flip neg)) = V at h4; cases neg <;> simp <;> omega
      · have e1 : (c :: t).take (1 + k) = c :: t.take k := by rw [Nat.add_comm]; rfl
        have hb : (be 8 (val ((t.take k).map (flip neg)))).map (flip neg) = t.take k := by rw [hbe, map_flip_flip]
        have e2 : enS neg (val ((t.take k).map (flip neg))) = c :: t.take k := by
          unfold enS
          rw [hb]
          congr 1
          apply UInt8.toNat_inj.1
          rw [flip_toNat, hbe, hlen, hck]
          have : (UInt8.ofNat (128 + k)).toNat = 128 + k := by simp; omega
          rw [this]
          cases neg <;> simp; omega
        show (c :: t).take (1 + k) = _
        rw [e1, ← e2]
        unfold en
        generalize val ((t.take k).map (flip neg)) = V
        cases neg
        · simp; omega
        · simp only [if_true]
          rw [if_pos (by omega)]
          congr 1
          omega
    rw [gI_cons] at h ⊢
    by_cases hlt : c.toNat < 128
    · rw [if_pos hlt] at h ⊢
      exact key true _ h (by simp; omega) (by omega)
    · rw [if_neg hlt] at h ⊢
      exact key false _ h (by simp; omega) (by simp)

end Go.Proofs.Ytalladdmedmfeaa
