/-
  Plain mathematics: the order of integers is that of their encodings.
-/
import Derived.Test.YtalladdmedmfeaaKWPure
import GoSem.Op.String
import Derived.Laws.StructEq
namespace Go.Proofs.Ytalladdmedmfeaa

/-- the first place where two lists part -/
def Parts (a b : List UInt8) : Prop := ∃ p x y r s, a = p ++ x :: r ∧ b = p ++ y :: s ∧ x.toNat < y.toNat

theorem bytesLess_cons (x y : UInt8) (r s : List UInt8) : Op.bytesLess (x :: r) (y :: s) = (decide (x < y) || (x == y && Op.bytesLess r s)) := rfl
theorem Parts.less {a b : List UInt8} (h : Parts a b) : Op.bytesLess a b = true := by
  obtain ⟨p, x, y, r, s, rfl, rfl, hlt⟩ := h
  induction p with
  | nil => rw [List.nil_append, List.nil_append, bytesLess_cons]; simp [UInt8.lt_iff_toNat_lt, hlt]
  | cons c p ih => rw [List.cons_append, List.cons_append, bytesLess_cons, ih]; simp
theorem Parts.greater {a b : List UInt8} (h : Parts a b) : Op.bytesLess b a = false := by
  obtain ⟨p, x, y, r, s, rfl, rfl, hlt⟩ := h
  induction p with
  | nil =>
    rw [List.nil_append, List.nil_append, bytesLess_cons]
    have h1 : decide (y < x) = false := by simp [UInt8.lt_iff_toNat_lt]; omega
    have h2 : (y == x) = false := by rw [beq_eq_false_iff_ne]; rintro rfl; omega
    rw [h1, h2]; rfl
  | cons c p ih =>
    rw [List.cons_append, List.cons_append, bytesLess_cons, ih]
    have h1 : decide (c < c) = false := by simp
    rw [h1]; simp
theorem Parts.take_ne {a b : List UInt8} (h : Parts a b) (k : Nat) (hk : k = min a.length b.length) : a.take k ≠ b.take k := by
  obtain ⟨p, x, y, r, s, rfl, rfl, hlt⟩ := h
  intro e
  have hlt' : p.length < k := by rw [hk]; simp
  have e1 : ((p ++ x :: r).take k)[p.length]? = some x := by rw [List.getElem?_take_of_lt hlt']; simp
  have e2 : ((p ++ y :: s).take k)[p.length]? = some y := by rw [List.getElem?_take_of_lt hlt']; simp
  rw [e, e2] at e1
  have : y = x := by simpa using e1
  subst this
  omega
theorem less_self (a : List UInt8) : Op.bytesLess a a = false := by
  induction a with
  | nil => rfl
  | cons c p ih => rw [bytesLess_cons, ih]; simp

theorem val_cons (c : UInt8) (t : List UInt8) : val (c :: t) = c.toNat * 256 ^ t.length + val t := by
  have H : ∀ (t : List UInt8) (a : Nat), t.foldl (fun a c => 256 * a + c.toNat) a = a * 256 ^ t.length + val t := by
    intro t
    induction t with
    | nil => intro a; simp [val]
    | cons d t ih =>
      intro a
      rw [List.foldl_cons, ih, List.length_cons, Nat.pow_succ]
      have h2 : val (d :: t) = d.toNat * 256 ^ t.length + val t := by
        show (d :: t).foldl (fun a c => 256 * a + c.toNat) 0 = _
        rw [List.foldl_cons, ih]; simp
      rw [h2, Nat.add_mul]
      have : 256 * a * 256 ^ t.length = a * (256 ^ t.length * 256) := by rw [Nat.mul_comm 256 a, Nat.mul_assoc, Nat.mul_comm 256]
      omega
  show (c :: t).foldl (fun a c => 256 * a + c.toNat) 0 = _
  rw [List.foldl_cons, H]; simp

theorem parts_of_val : ∀ (l l' : List UInt8), l.length = l'.length → val l < val l' → Parts l l' := by
  intro l
  induction l with
  | nil => intro l' h hv; have := List.eq_nil_of_length_eq_zero h.symm; subst this; simp [val] at hv
  | cons c t ih =>
    intro l' h hv
    cases l' with
    | nil => simp at h
    | cons d t' =>
      have hl : t.length = t'.length := by simpa using h
      rw [val_cons, val_cons, hl] at hv
      have h1 := val_lt t
      have h2 := val_lt t'
      rw [hl] at h1
      generalize 256 ^ t'.length = q at *
      by_cases hcd : c = d
      · subst hcd
        obtain ⟨p, x, y, r, s, e1, e2, e3⟩ := ih t' hl (by omega)
        exact ⟨c :: p, x, y, r, s, by rw [e1]; rfl, by rw [e2]; rfl, e3⟩
      · have hne : c.toNat ≠ d.toNat := fun e => hcd (UInt8.toNat_inj.1 e)
        have hlt : c.toNat < d.toNat := by
          rcases Nat.lt_or_ge c.toNat d.toNat with h | h
          · exact h
          · exfalso
            have h3 : d.toNat + 1 ≤ c.toNat := by omega
            have h4 : (d.toNat + 1) * q ≤ c.toNat * q := Nat.mul_le_mul_right q h3
            rw [Nat.add_mul] at h4
            omega
        exact ⟨[], c, d, t, t', rfl, rfl, hlt⟩

theorem be_mono (k : Nat) : ∀ a b, a ≤ b → (be k a).length ≤ (be k b).length := by
  induction k with
  | zero => intro a b _; simp [be]
  | succ k ih =>
    intro a b h
    by_cases ha : a = 0
    · subst ha; rw [be_zero]; simp
    · rw [be_pos (by omega), be_pos (by omega)]
      have := ih (a / 256) (b / 256) (Nat.div_le_div_right h)
      simp; omega

theorem Parts.map_flip {a b : List UInt8} (h : Parts a b) : Parts (b.map (flip true)) (a.map (flip true)) := by
  obtain ⟨p, x, y, r, s, rfl, rfl, hlt⟩ := h
  refine ⟨p.map (flip true), flip true y, flip true x, s.map (flip true), r.map (flip true), by simp, by simp, ?_⟩
  rw [flip_toNat, flip_toNat]
  have := y.toNat_lt
  simp; omega
theorem Parts.cons {a b : List UInt8} (c : UInt8) (h : Parts a b) : Parts (c :: a) (c :: b) := by
  obtain ⟨p, x, y, r, s, rfl, rfl, hlt⟩ := h
  exact ⟨c :: p, x, y, r, s, rfl, rfl, hlt⟩

theorem enS_parts (a b : Nat) (ha : a < 9223372036854775808) (hb : b < 9223372036854775808) (h : a < b) : Parts (enS false a) (enS false b) ∧ Parts (enS true b) (enS true a) := by
  have hmono := be_mono 8 a b (by omega)
  have la := be_len 8 a
  have lb := be_len 8 b
  have hoa : (UInt8.ofNat (128 + (be 8 a).length)).toNat = 128 + (be 8 a).length := by simp; omega
  have hob : (UInt8.ofNat (128 + (be 8 b).length)).toNat = 128 + (be 8 b).length := by simp; omega
  have key : (be 8 a).length = (be 8 b).length → Parts (be 8 a) (be 8 b) := fun hl => parts_of_val _ _ hl (by rw [val_be 8 a (by omega), val_be 8 b (by omega)]; exact h)
  constructor
  · by_cases hl : (be 8 a).length = (be 8 b).length
    · have hp := key hl
      unfold enS
      rw [hl]
      have hm : ∀ l : List UInt8, l.map (flip false) = l := fun l => by
        conv => rhs; rw [← List.map_id l]
        rfl
      rw [hm, hm]
      exact hp.cons _
    · exact ⟨[], flip false (UInt8.ofNat (128 + (be 8 a).length)), flip false (UInt8.ofNat (128 + (be 8 b).length)), _, _, rfl, rfl, by rw [flip_toNat, flip_toNat, hoa, hob]; simp; omega⟩
  · by_cases hl : (be 8 a).length = (be 8 b).length
    · have hp := key hl
      unfold enS
      rw [hl]
      exact hp.map_flip.cons _
    · exact ⟨[], flip true (UInt8.ofNat (128 + (be 8 b).length)), flip true (UInt8.ofNat (128 + (be 8 a).length)), _, _, rfl, rfl, by rw [flip_toNat, flip_toNat, hoa, hob]; simp; omega⟩

theorem en_parts {m n : Int} (hm : inI m) (hn : inI n) (h : m < n) : Parts (en m) (en n) := by
  unfold inI at hm hn
  unfold en
  by_cases h1 : m < 0
  · rw [if_pos h1]
    by_cases h2 : n < 0
    · rw [if_pos h2]
      exact (enS_parts (-1 - n).toNat (-1 - m).toNat (by omega) (by omega) (by omega)).2
    · rw [if_neg h2]
      have la := be_len 8 (-1 - m).toNat
      have lb := be_len 8 n.toNat
      have hoa : (UInt8.ofNat (128 + (be 8 (-1 - m).toNat).length)).toNat = 128 + (be 8 (-1 - m).toNat).length := by simp; omega
      have hob : (UInt8.ofNat (128 + (be 8 n.toNat).length)).toNat = 128 + (be 8 n.toNat).length := by simp; omega
      exact ⟨[], _, _, _, _, rfl, rfl, by rw [flip_toNat, flip_toNat, hoa, hob]; simp; omega⟩
  · rw [if_neg h1, if_neg (by omega)]
    exact (enS_parts m.toNat n.toNat (by omega) (by omega) (by omega)).1

end Go.Proofs.Ytalladdmedmfeaa
