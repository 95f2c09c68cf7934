/-
  The pure side of layer 4: leap years, months, the number of a date and the date of a number; texts of dates and spans, read and written; the text of a span is the shortest one that is read as it, and the only one of its length; the reference reads and prints the same.
-/
import Derived.WalkKit
namespace Go.Proofs.YtkaaejfochdjcaaDoor
set_option linter.unusedVariables false
set_option linter.unusedSimpArgs false
namespace Cal

def lp (y : Int) : Int := if (y % 4 = 0 ∧ y % 100 ≠ 0) ∨ y % 400 = 0 then 1 else 0
def ml (y m : Int) : Int := if m = 2 then 28 + lp y else if m = 4 ∨ m = 6 ∨ m = 9 ∨ m = 11 then 30 else 31
def dby (y : Int) : Int := 365 * (y - 1) + (y - 1) / 4 - (y - 1) / 100 + (y - 1) / 400
def cum (y m : Int) : Int :=
  if m ≤ 1 then 0 else if m ≤ 2 then 31 else if m ≤ 3 then 59 + lp y else if m ≤ 4 then 90 + lp y else if m ≤ 5 then 120 + lp y else if m ≤ 6 then 151 + lp y else
  if m ≤ 7 then 181 + lp y else if m ≤ 8 then 212 + lp y else if m ≤ 9 then 243 + lp y else if m ≤ 10 then 273 + lp y else if m ≤ 11 then 304 + lp y else if m ≤ 12 then 334 + lp y else 365 + lp y
def num (y m d : Int) : Int := dby y + cum y m + d
def Ex (y m d : Int) : Prop := 1 ≤ y ∧ y ≤ 2800 ∧ 1 ≤ m ∧ m ≤ 12 ∧ 1 ≤ d ∧ d ≤ ml y m
instance (y m d : Int) : Decidable (Ex y m d) := by unfold Ex; infer_instance
def exB (y m d : Int) : Bool := decide (Ex y m d)

theorem lp_01 (y : Int) : lp y = 0 ∨ lp y = 1 := by unfold lp; split <;> simp
theorem lp_bd (y : Int) : 0 ≤ lp y ∧ lp y ≤ 1 := by rcases lp_01 y with h | h <;> rw [h] <;> decide
theorem ml_bd (y m : Int) : 28 ≤ ml y m ∧ ml y m ≤ 31 := by
  have := lp_bd y
  unfold ml
  split
  · omega
  · split <;> omega
theorem dby_succ (y : Int) : dby (y + 1) = dby y + 365 + lp y := by
  unfold dby lp
  rw [show y + 1 - 1 = y by omega]
  split <;> omega
theorem dby_mono {a b : Int} (h : a ≤ b) : dby a ≤ dby b := by unfold dby; omega
theorem dby_far {a b : Int} (h : a ≤ b) : dby a + 365 * (b - a) ≤ dby b := by unfold dby; omega
theorem dby_one : dby 1 = 0 := by decide
theorem dby_last : dby 2801 = 1022679 := by decide
theorem dby_bd {y : Int} (h1 : 1 ≤ y) (h2 : y ≤ 2801) : 0 ≤ dby y ∧ dby y ≤ 1022679 := by
  have a := dby_mono h1
  have b := dby_mono h2
  rw [dby_one] at a
  rw [dby_last] at b
  exact ⟨a, b⟩
theorem dby_400 (y : Int) : dby (y + 400) = dby y + 146097 := by unfold dby; omega
theorem lp_400 (y : Int) : lp (y + 400) = lp y := by
  unfold lp
  have e1 : (y + 400) % 4 = y % 4 := by omega
  have e2 : (y + 400) % 100 = y % 100 := by omega
  have e3 : (y + 400) % 400 = y % 400 := by omega
  rw [e1, e2, e3]
theorem ml_400 (y m : Int) : ml (y + 400) m = ml y m := by unfold ml; rw [lp_400]
theorem cum_400 (y m : Int) : cum (y + 400) m = cum y m := by unfold cum; rw [lp_400]
theorem m_cases {m : Int} (h1 : 1 ≤ m) (h2 : m ≤ 12) : m = 1 ∨ m = 2 ∨ m = 3 ∨ m = 4 ∨ m = 5 ∨ m = 6 ∨ m = 7 ∨ m = 8 ∨ m = 9 ∨ m = 10 ∨ m = 11 ∨ m = 12 := by omega
theorem cum_succ (y : Int) {m : Int} (h1 : 1 ≤ m) (h2 : m ≤ 12) : cum y (m + 1) = cum y m + ml y m := by
  rcases m_cases h1 h2 with h | h | h | h | h | h | h | h | h | h | h | h <;> subst h <;> simp [cum, ml] <;> omega
theorem cum_one (y : Int) : cum y 1 = 0 := rfl
theorem cum_13 (y : Int) : cum y 13 = 365 + lp y := rfl
theorem cum_step (y : Int) {m : Int} (h1 : 1 ≤ m) (h2 : m ≤ 12) : cum y m + 28 ≤ cum y (m + 1) := by
  have := cum_succ y h1 h2
  have := ml_bd y m
  omega
theorem cum_mono (y : Int) {a b : Int} (ha : 1 ≤ a) (h : a < b) (hb : b ≤ 13) : cum y a + ml y a ≤ cum y b := by
  rw [← cum_succ y ha (by omega)]
  obtain ⟨k, hk⟩ : ∃ k : Nat, b = a + 1 + k := ⟨(b - (a + 1)).toNat, by omega⟩
  subst hk
  clear h
  induction k with
  | zero => simp
  | succ k ih =>
    have h := cum_step y (m := a + 1 + k) (by omega) (by omega)
    have := ih (by omega)
    have e : a + 1 + ((k + 1 : Nat) : Int) = a + 1 + k + 1 := by omega
    rw [e]
    omega
theorem cum_bd (y : Int) {m : Int} (h1 : 1 ≤ m) (h2 : m ≤ 12) : 0 ≤ cum y m ∧ cum y m ≤ 335 := by
  have := lp_bd y
  rcases m_cases h1 h2 with h | h | h | h | h | h | h | h | h | h | h | h <;> subst h <;> simp [cum] <;> omega
/-- A date lies in its year. -/
theorem num_year {y m d : Int} (h : Ex y m d) : dby y < num y m d ∧ num y m d ≤ dby (y + 1) := by
  obtain ⟨_, _, h3, h4, h5, h6⟩ := h
  have h7 := cum_bd y h3 h4
  rw [dby_succ]
  unfold num
  rcases Int.lt_or_le m 12 with hm | hm
  · have := cum_mono y h3 (b := 13) (by omega) (by omega)
    rw [cum_13] at this
    omega
  · obtain rfl : m = 12 := by omega
    have := cum_succ y (m := 12) (by omega) (by omega)
    rw [show (12 : Int) + 1 = 13 from rfl, cum_13] at this
    omega
theorem num_bd {y m d : Int} (h : Ex y m d) : 1 ≤ num y m d ∧ num y m d ≤ 1022679 := by
  have h1 := num_year h
  have h2 := dby_bd (y := y) h.1 (by have := h.2.1; omega)
  have h3 := dby_bd (y := y + 1) (by have := h.1; omega) (by have := h.2.1; omega)
  omega
theorem num_inj {y m d y' m' d' : Int} (h : Ex y m d) (h' : Ex y' m' d') (e : num y m d = num y' m' d') : y = y' ∧ m = m' ∧ d = d' := by
  have a := num_year h
  have b := num_year h'
  have hy : y = y' := by
    rcases Int.lt_trichotomy y y' with c | c | c
    · have := dby_mono (a := y + 1) (b := y') (by omega); omega
    · exact c
    · have := dby_mono (a := y' + 1) (b := y) (by omega); omega
  subst hy
  obtain ⟨_, _, h3, h4, h5, h6⟩ := h
  obtain ⟨_, _, k3, k4, k5, k6⟩ := h'
  unfold num at e
  have hm : m = m' := by
    rcases Int.lt_trichotomy m m' with c | c | c
    · have := cum_mono y h3 c (by omega); omega
    · exact c
    · have := cum_mono y k3 c (by omega); omega
  subst hm
  exact ⟨rfl, rfl, by omega⟩

/-! ## the date of a number -/
def yGo : Nat → Int → Int → Int
  | 0, y, _ => y
  | k + 1, y, n => if n ≤ dby (y + 1) then y else yGo k (y + 1) n
def mGo : Nat → Int → Int → Int → Int
  | 0, _, m, _ => m
  | k + 1, y, m, r => if r ≤ cum y (m + 1) then m else mGo k y (m + 1) r
def yOf (n : Int) : Int := yGo 2800 1 n
def mOf (n : Int) : Int := mGo 12 (yOf n) 1 (n - dby (yOf n))
def dOf (n : Int) : Int := n - dby (yOf n) - cum (yOf n) (mOf n)
theorem yGo_spec (k : Nat) (y n : Int) (h1 : dby y < n) (h2 : n ≤ dby (y + k)) : y ≤ yGo k y n ∧ yGo k y n < y + k ∧ dby (yGo k y n) < n ∧ n ≤ dby (yGo k y n + 1) := by
  induction k generalizing y with
  | zero => simp at h2; omega
  | succ k ih =>
    unfold yGo
    split
    · rename_i h; exact ⟨by omega, by omega, h1, h⟩
    · rename_i h
      have := ih (y + 1) (by omega) (by rw [show y + 1 + (k : Int) = y + ((k + 1 : Nat) : Int) by omega]; exact h2)
      exact ⟨by omega, by omega, this.2.2⟩
theorem mGo_spec (k : Nat) (y m r : Int) (h1 : cum y m < r) (h2 : r ≤ cum y (m + k)) : m ≤ mGo k y m r ∧ mGo k y m r < m + k ∧ cum y (mGo k y m r) < r ∧ r ≤ cum y (mGo k y m r + 1) := by
  induction k generalizing m with
  | zero => simp at h2; omega
  | succ k ih =>
    unfold mGo
    split
    · rename_i h; exact ⟨by omega, by omega, h1, h⟩
    · rename_i h
      have := ih (m + 1) (by omega) (by rw [show m + 1 + (k : Int) = m + ((k + 1 : Nat) : Int) by omega]; exact h2)
      exact ⟨by omega, by omega, this.2.2⟩
theorem date_ex {n : Int} (h1 : 1 ≤ n) (h2 : n ≤ 1022679) : Ex (yOf n) (mOf n) (dOf n) ∧ num (yOf n) (mOf n) (dOf n) = n := by
  have hy := yGo_spec 2800 1 n (by rw [dby_one]; omega) (by rw [show (1 : Int) + (2800 : Nat) = 2801 from rfl, dby_last]; exact h2)
  rw [show yGo 2800 1 n = yOf n from rfl] at hy
  obtain ⟨a1, a2, a3, a4⟩ := hy
  have hm := mGo_spec 12 (yOf n) 1 (n - dby (yOf n)) (by rw [cum_one]; omega) (by rw [show (1 : Int) + (12 : Nat) = 13 from rfl, cum_13]; have := dby_succ (yOf n); omega)
  rw [show mGo 12 (yOf n) 1 (n - dby (yOf n)) = mOf n from rfl] at hm
  obtain ⟨b1, b2, b3, b4⟩ := hm
  have hs := cum_succ (yOf n) (m := mOf n) (by omega) (by omega)
  refine ⟨⟨a1, by omega, b1, by omega, ?_, ?_⟩, ?_⟩
  · unfold dOf; omega
  · unfold dOf; omega
  · unfold num dOf; omega
theorem date_eq {y m d n : Int} (h : Ex y m d) (hn : num y m d = n) : yOf n = y ∧ mOf n = m ∧ dOf n = d := by
  have hb := num_bd h
  have := date_ex (n := n) (by omega) (by omega)
  exact num_inj this.1 h (by rw [this.2, hn])
attribute [irreducible] yOf mOf

abbrev B := List UInt8

/-! ## digits -/
def isD (c : UInt8) : Bool := decide (48 ≤ c.toNat) && decide (c.toNat ≤ 57)
def dgt (n : Int) : UInt8 := UInt8.ofNat (48 + (n % 10).toNat)
def pad2 (n : Int) : B := [dgt (n / 10), dgt n]
def pad4 (n : Int) : B := [dgt (n / 1000), dgt (n / 100), dgt (n / 10), dgt n]
theorem dgt_nat (n : Int) : (dgt n).toNat = 48 + (n % 10).toNat := by
  unfold dgt
  have : (n % 10).toNat < 10 := by omega
  rw [UInt8.toNat_ofNat']
  omega
theorem dgt_int (n : Int) : ((dgt n).toNat : Int) = 48 + n % 10 := by rw [dgt_nat]; omega
theorem dgt_isD (n : Int) : isD (dgt n) = true := by
  unfold isD
  rw [dgt_nat]
  have : (n % 10).toNat < 10 := by omega
  simp; omega
theorem isD_iff (c : UInt8) : isD c = true ↔ 48 ≤ c.toNat ∧ c.toNat ≤ 57 := by unfold isD; simp
theorem u8_eq {a b : UInt8} (h : a.toNat = b.toNat) : a = b := UInt8.toNat_inj.1 h
theorem dgt_of {c : UInt8} (h : isD c = true) {n : Int} (hn : n % 10 = (c.toNat : Int) - 48) : dgt n = c := by
  rw [isD_iff] at h
  exact u8_eq (by rw [dgt_nat]; omega)
/-- The first k bytes as a number. -/
def nk : Nat → Int → B → Option (Int × B)
  | 0, n, l => some (n, l)
  | _ + 1, _, [] => none
  | k + 1, n, c :: t => if isD c then nk k (10 * n + ((c.toNat : Int) - 48)) t else none
theorem nk2_pad (n : Int) (h0 : 0 ≤ n) (h1 : n ≤ 99) (r : B) : nk 2 0 (pad2 n ++ r) = some (n, r) := by
  simp only [pad2, List.cons_append, List.nil_append, nk, dgt_isD, if_true, dgt_int]
  congr 2
  omega
theorem nk4_pad (n : Int) (h0 : 0 ≤ n) (h1 : n ≤ 9999) (r : B) : nk 4 0 (pad4 n ++ r) = some (n, r) := by
  simp only [pad4, List.cons_append, List.nil_append, nk, dgt_isD, if_true, dgt_int]
  congr 2
  omega
theorem nk2_inv {l r : B} {n : Int} (h : nk 2 0 l = some (n, r)) : l = pad2 n ++ r ∧ 0 ≤ n ∧ n ≤ 99 := by
  match l, h with
  | [], h => simp [nk] at h
  | [a], h => simp [nk] at h
  | a :: b :: t, h =>
    simp only [nk] at h
    split at h
    · rename_i ha
      split at h
      · rename_i hb
        simp only [Option.some.injEq, Prod.mk.injEq] at h
        obtain ⟨rfl, rfl⟩ := h
        have h1 := (isD_iff a).1 ha
        have h2 := (isD_iff b).1 hb
        refine ⟨?_, by omega, by omega⟩
        simp only [pad2, List.cons_append, List.nil_append]
        rw [dgt_of ha (by omega), dgt_of hb (by omega)]
      · cases h
    · cases h
theorem nk4_inv {l r : B} {n : Int} (h : nk 4 0 l = some (n, r)) : l = pad4 n ++ r ∧ 0 ≤ n ∧ n ≤ 9999 := by
  match l, h with
  | [], h => simp [nk] at h
  | [a], h => simp [nk] at h
  | [a, b], h => simp [nk] at h
  | [a, b, c], h => simp [nk] at h
  | a :: b :: c :: d :: t, h =>
    simp only [nk] at h
    split at h
    · rename_i ha
      split at h
      · rename_i hb
        split at h
        · rename_i hc
          split at h
          · rename_i hd
            simp only [Option.some.injEq, Prod.mk.injEq] at h
            obtain ⟨rfl, rfl⟩ := h
            have h1 := (isD_iff a).1 ha
            have h2 := (isD_iff b).1 hb
            have h3 := (isD_iff c).1 hc
            have h4 := (isD_iff d).1 hd
            refine ⟨?_, by omega, by omega⟩
            simp only [pad4, List.cons_append, List.nil_append]
            rw [dgt_of ha (by omega), dgt_of hb (by omega), dgt_of hc (by omega), dgt_of hd (by omega)]
          · cases h
        · cases h
      · cases h
    · cases h

/-! ## texts of dates -/
def txt : List Int → B
  | [] => []
  | y :: l => pad4 y ++ l.flatMap fun n => 45 :: pad2 n
def rdGo : Nat → List Int → B → Option (List Int × B)
  | 0, p, l => some (p, l)
  | j + 1, p, l => if l.head? = some 45 then (match nk 2 0 l.tail with | none => none | some (n, r) => rdGo j (p ++ [n]) r) else some (p, l)
def rd (l : B) : Option (List Int × B) := match nk 4 0 l with | none => none | some (y, r) => rdGo 2 [y] r
/-- What is read as a date: its parts are numbers of four and two digits. -/
def Part : List Int → Prop
  | [y] => 0 ≤ y ∧ y ≤ 9999
  | [y, m] => 0 ≤ y ∧ y ≤ 9999 ∧ 0 ≤ m ∧ m ≤ 99
  | [y, m, d] => 0 ≤ y ∧ y ≤ 9999 ∧ 0 ≤ m ∧ m ≤ 99 ∧ 0 ≤ d ∧ d ≤ 99
  | _ => False
theorem part_cases {p : List Int} (h : Part p) : (∃ y, p = [y]) ∨ (∃ y m, p = [y, m]) ∨ ∃ y m d, p = [y, m, d] := by
  match p, h with
  | [y], _ => exact .inl ⟨y, rfl⟩
  | [y, m], _ => exact .inr (.inl ⟨y, m, rfl⟩)
  | [y, m, d], _ => exact .inr (.inr ⟨y, m, d, rfl⟩)
theorem rd_inv {l r : B} {p : List Int} (h : rd l = some (p, r)) : l = txt p ++ r ∧ Part p := by
  unfold rd at h
  cases h4 : nk 4 0 l with
  | none => rw [h4] at h; cases h
  | some x =>
    obtain ⟨y, r1⟩ := x
    rw [h4] at h
    obtain ⟨rfl, hy0, hy1⟩ := nk4_inv h4
    simp only [rdGo] at h
    split at h
    · rename_i hd
      obtain ⟨t1, rfl⟩ : ∃ t, r1 = 45 :: t := by cases r1 <;> simp at hd; subst hd; exact ⟨_, rfl⟩
      simp only [List.tail_cons] at h
      cases h2 : nk 2 0 t1 with
      | none => rw [h2] at h; cases h
      | some x2 =>
        obtain ⟨m, r2⟩ := x2
        rw [h2] at h
        obtain ⟨rfl, hm0, hm1⟩ := nk2_inv h2
        simp only at h
        split at h
        · rename_i hd2
          obtain ⟨t2, rfl⟩ : ∃ t, r2 = 45 :: t := by cases r2 <;> simp at hd2; subst hd2; exact ⟨_, rfl⟩
          simp only [List.tail_cons] at h
          cases h3 : nk 2 0 t2 with
          | none => rw [h3] at h; cases h
          | some x3 =>
            obtain ⟨d, r3⟩ := x3
            rw [h3] at h
            obtain ⟨rfl, hd0, hd1⟩ := nk2_inv h3
            simp only [Option.some.injEq, Prod.mk.injEq] at h
            obtain ⟨rfl, rfl⟩ := h
            exact ⟨by simp [txt], ⟨hy0, hy1, hm0, hm1, hd0, hd1⟩⟩
        · simp only [Option.some.injEq, Prod.mk.injEq] at h
          obtain ⟨rfl, rfl⟩ := h
          exact ⟨by simp [txt], ⟨hy0, hy1, hm0, hm1⟩⟩
    · simp only [Option.some.injEq, Prod.mk.injEq] at h
      obtain ⟨rfl, rfl⟩ := h
      exact ⟨by simp [txt], hy0, hy1⟩
theorem rd_txt {p : List Int} (hp : Part p) {r : B} (hr : r.head? ≠ some 45) : rd (txt p ++ r) = some (p, r) := by
  match p, hp with
  | [y], hp =>
    obtain ⟨a, b⟩ := hp
    show rd (pad4 y ++ [] ++ r) = _
    rw [List.append_nil]
    unfold rd
    rw [nk4_pad y a b]
    simp [rdGo, hr]
  | [y, m], hp =>
    obtain ⟨a, b, c, d⟩ := hp
    show rd (pad4 y ++ (45 :: pad2 m ++ []) ++ r) = _
    rw [List.append_nil, List.append_assoc]
    unfold rd
    rw [nk4_pad y a b]
    simp [rdGo, hr, nk2_pad m c d]
  | [y, m, d], hp =>
    obtain ⟨a, b, c, d', e, f⟩ := hp
    show rd (pad4 y ++ (45 :: pad2 m ++ (45 :: pad2 d ++ [])) ++ r) = _
    rw [List.append_nil, List.append_assoc]
    unfold rd
    rw [nk4_pad y a b]
    simp [rdGo, nk2_pad m c d', nk2_pad d e f]
theorem pad4_length (n : Int) : (pad4 n).length = 4 := rfl
theorem pad2_length (n : Int) : (pad2 n).length = 2 := rfl
theorem txt_length {p : List Int} (hp : Part p) : (txt p).length = 1 + 3 * p.length := by
  rcases part_cases hp with ⟨y, rfl⟩ | ⟨y, m, rfl⟩ | ⟨y, m, d, rfl⟩ <;> rfl

/-! ## what a text stands for: from, to, error -/
abbrev R := Int × Int × Int
def eForm : R := (0, 0, 2)
def eRange : R := (0, 0, 5)
def per : List Int → R
  | [y] => if exB y 1 1 then (num y 1 1, num y 12 31, 0) else eRange
  | [y, m] => if exB y m 1 then (num y m 1, num y m (ml y m), 0) else eRange
  | [y, m, d] => if exB y m d then (num y m d, num y m d, 0) else eRange
  | _ => eRange
def btwR (a b : R) : R := if a.2.2 = 0 ∧ b.2.2 = 0 ∧ a.1 ≤ b.2.1 then (a.1, b.2.1, 0) else eRange
def btw (p q : List Int) : R := btwR (per p) (per q)
def aro (y : Int) : R := if 1 ≤ y ∧ y ≤ 2800 then (num (max 1 (y - 5)) 1 1, num (min 2800 (y + 4)) 12 31, 0) else eRange
def pars (l : B) : R :=
  if l.head? = some 99 then (match rd l.tail with | some ([y], []) => aro y | _ => eForm)
  else match rd l with
    | none => eForm
    | some (p, r) => if r.head? = some 47 then (match rd r.tail with | some (q, []) => btw p q | _ => eForm) else if r = [] then btw p p else eForm

/-- A date that exists. -/
def ExP : List Int → Prop
  | [y] => Ex y 1 1
  | [y, m] => Ex y m 1
  | [y, m, d] => Ex y m d
  | _ => False
theorem ExP.part {p : List Int} (h : ExP p) : Part p := by
  match p, h with
  | [y], h => exact ⟨by have := h.1; omega, by have := h.2.1; omega⟩
  | [y, m], h => exact ⟨by have := h.1; omega, by have := h.2.1; omega, by have := h.2.2.1; omega, by have := h.2.2.2.1; omega⟩
  | [y, m, d], h => exact ⟨by have := h.1; omega, by have := h.2.1; omega, by have := h.2.2.1; omega, by have := h.2.2.2.1; omega, by have := h.2.2.2.2.1; omega, by have := h.2.2.2.2.2; have := ml_bd y m; omega⟩
def fst (p : List Int) : Int := (per p).1
def lst (p : List Int) : Int := (per p).2.1
theorem per_ok {p : List Int} (h : ExP p) : per p = (fst p, lst p, 0) := by
  match p, h with
  | [y], h => have e : exB y 1 1 = true := decide_eq_true (p := Ex y 1 1) h; simp [fst, lst, per, e]
  | [y, m], h => have e : exB y m 1 = true := decide_eq_true (p := Ex y m 1) h; simp [fst, lst, per, e]
  | [y, m, d], h => have e : exB y m d = true := decide_eq_true (p := Ex y m d) h; simp [fst, lst, per, e]
theorem per_no {p : List Int} (h : (per p).2.2 = 0) : ExP p := by
  match p, h with
  | [], h => simp [per, eRange] at h
  | [y], h =>
    cases e : exB y 1 1 with
    | true => exact of_decide_eq_true (p := Ex y 1 1) e
    | false => simp [per, e, eRange] at h
  | [y, m], h =>
    cases e : exB y m 1 with
    | true => exact of_decide_eq_true (p := Ex y m 1) e
    | false => simp [per, e, eRange] at h
  | [y, m, d], h =>
    cases e : exB y m d with
    | true => exact of_decide_eq_true (p := Ex y m d) e
    | false => simp [per, e, eRange] at h
  | _ :: _ :: _ :: _ :: _, h => simp [per, eRange] at h
theorem fst1 {y : Int} (h : ExP [y]) : fst [y] = num y 1 1 ∧ lst [y] = num y 12 31 := by have e : exB y 1 1 = true := decide_eq_true (p := Ex y 1 1) h; simp [fst, lst, per, e]
theorem fst2 {y m : Int} (h : ExP [y, m]) : fst [y, m] = num y m 1 ∧ lst [y, m] = num y m (ml y m) := by have e : exB y m 1 = true := decide_eq_true (p := Ex y m 1) h; simp [fst, lst, per, e]
theorem fst3 {y m d : Int} (h : ExP [y, m, d]) : fst [y, m, d] = num y m d ∧ lst [y, m, d] = num y m d := by have e : exB y m d = true := decide_eq_true (p := Ex y m d) h; simp [fst, lst, per, e]
theorem ml_12 (y : Int) : ml y 12 = 31 := rfl
theorem ml_1 (y : Int) : ml y 1 = 31 := rfl
theorem ex_first {y : Int} (h1 : 1 ≤ y) (h2 : y ≤ 2800) : Ex y 1 1 := ⟨h1, h2, by omega, by omega, by omega, by rw [ml_1]; omega⟩
theorem ex_last {y : Int} (h1 : 1 ≤ y) (h2 : y ≤ 2800) : Ex y 12 31 := ⟨h1, h2, by omega, by omega, by omega, by rw [ml_12]; omega⟩
theorem num_first (y : Int) : num y 1 1 = dby y + 1 := by unfold num; rw [cum_one]; omega
theorem num_last (y : Int) : num y 12 31 = dby (y + 1) := by
  rw [dby_succ]
  unfold num
  have := cum_succ y (m := 12) (by omega) (by omega)
  rw [show (12 : Int) + 1 = 13 from rfl, cum_13, ml_12] at this
  omega
/-- How long the days of a date are. -/
theorem per_len {p : List Int} (h : ExP p) : 1 ≤ fst p ∧ lst p ≤ 1022679 ∧ fst p ≤ lst p ∧ (p.length = 1 → 364 ≤ lst p - fst p) ∧ (p.length = 2 → 27 ≤ lst p - fst p ∧ lst p - fst p ≤ 30) ∧ (p.length = 3 → lst p = fst p) := by
  match p, h with
  | [y], h =>
    obtain ⟨e1, e2⟩ := fst1 h
    have h1 := num_bd (ex_first h.1 h.2.1)
    have h2 := num_bd (ex_last h.1 h.2.1)
    have h3 := dby_far (a := y) (b := y + 1) (by omega)
    rw [num_first] at e1
    rw [num_last] at e2
    rw [num_first] at h1
    rw [num_last] at h2
    rw [e1, e2]
    exact ⟨by omega, by omega, by omega, fun _ => by omega, fun h => (by cases h), fun h => (by cases h)⟩
  | [y, m], h =>
    obtain ⟨e1, e2⟩ := fst2 h
    have hm := ml_bd y m
    have h1 := num_bd h
    have h2 := num_bd (y := y) (m := m) (d := ml y m) ⟨h.1, h.2.1, h.2.2.1, h.2.2.2.1, by omega, by omega⟩
    rw [e1, e2]
    unfold num at *
    exact ⟨by omega, by omega, by omega, fun h => (by cases h), fun _ => ⟨by omega, by omega⟩, fun h => (by cases h)⟩
  | [y, m, d], h =>
    obtain ⟨e1, e2⟩ := fst3 h
    have h1 := num_bd h
    rw [e1, e2]
    exact ⟨by omega, by omega, by omega, fun h => (by cases h), fun h => (by cases h), fun _ => rfl⟩
/-- The date of the first day of a date begins with it, and so does that of its last day. -/
def dateL (n : Int) : List Int := [yOf n, mOf n, dOf n]
theorem fst_pre {p : List Int} (h : ExP p) : (dateL (fst p)).take p.length = p := by
  match p, h with
  | [y], h => obtain ⟨a, b, c⟩ := date_eq (n := fst [y]) h (fst1 h).1.symm; simp [dateL, a]
  | [y, m], h => obtain ⟨a, b, c⟩ := date_eq (n := fst [y, m]) h (fst2 h).1.symm; simp [dateL, a, b]
  | [y, m, d], h => obtain ⟨a, b, c⟩ := date_eq (n := fst [y, m, d]) h (fst3 h).1.symm; simp [dateL, a, b, c]
theorem lst_pre {p : List Int} (h : ExP p) : (dateL (lst p)).take p.length = p := by
  match p, h with
  | [y], h => obtain ⟨a, b, c⟩ := date_eq (n := lst [y]) (ex_last h.1 h.2.1) (fst1 h).2.symm; simp [dateL, a]
  | [y, m], h => have hm := ml_bd y m; obtain ⟨a, b, c⟩ := date_eq (n := lst [y, m]) (y := y) (m := m) (d := ml y m) ⟨h.1, h.2.1, h.2.2.1, h.2.2.2.1, by omega, by omega⟩ (fst2 h).2.symm; simp [dateL, a, b]
  | [y, m, d], h => obtain ⟨a, b, c⟩ := date_eq (n := lst [y, m, d]) h (fst3 h).2.symm; simp [dateL, a, b, c]
theorem ExP.len {p : List Int} (h : ExP p) : p.length = 1 ∨ p.length = 2 ∨ p.length = 3 := by
  match p, h with
  | [y], h => exact .inl rfl
  | [y, m], h => exact .inr (.inl rfl)
  | [y, m, d], h => exact .inr (.inr rfl)
theorem ex_date {n : Int} (h1 : 1 ≤ n) (h2 : n ≤ 1022679) (k : Nat) (hk : 1 ≤ k) (hk3 : k ≤ 3) : ExP ((dateL n).take k) := by
  obtain ⟨h, _⟩ := date_ex h1 h2
  have hk' : k = 1 ∨ k = 2 ∨ k = 3 := by omega
  rcases hk' with rfl | rfl | rfl
  · exact ex_first h.1 h.2.1
  · exact ⟨h.1, h.2.1, h.2.2.1, h.2.2.2.1, by omega, by have := ml_bd (yOf n) (mOf n); omega⟩
  · exact h
theorem date_day {n : Int} (h1 : 1 ≤ n) (h2 : n ≤ 1022679) : fst (dateL n) = n ∧ lst (dateL n) = n := by
  obtain ⟨h, e⟩ := date_ex h1 h2
  obtain ⟨a, b⟩ := fst3 (y := yOf n) (m := mOf n) (d := dOf n) h
  exact ⟨a.trans e, b.trans e⟩

/-! ## the text of a span -/
def okS (a b : Int) : Prop := 1 ≤ a ∧ a ≤ b ∧ b ≤ 1022679
instance (a b : Int) : Decidable (okS a b) := by unfold okS; infer_instance
def vaB (a b : Int) : Bool := decide (okS a b)
/-- The first one of the year, the month and the day of n that is wanted. -/
def shP (n : Int) (f : R → Bool) : Option (List Int) :=
  if f (per ((dateL n).take 1)) then some ((dateL n).take 1) else if f (per ((dateL n).take 2)) then some ((dateL n).take 2) else if f (per (dateL n)) then some (dateL n) else none
def midP (a b : Int) : Option Int :=
  if aro (yOf a + 5) = (a, b, 0) then some (yOf a + 5) else if aro (yOf b - 4) = (a, b, 0) then some (yOf b - 4) else none
def isP (a b : Int) (x : R) : Bool := decide (x.1 = a ∧ x.2.1 = b)
def isF (a : Int) (x : R) : Bool := decide (x.1 = a)
def isL (b : Int) (x : R) : Bool := decide (x.2.1 = b)
def prt (a b : Int) : B :=
  if vaB a b then
    match shP a (isP a b) with
    | some p => txt p
    | none => match midP a b with
      | some y => 99 :: pad4 y
      | none => txt ((shP a (isF a)).getD []) ++ 47 :: txt ((shP b (isL b)).getD [])
  else []
theorem shP_spec {n : Int} (h1 : 1 ≤ n) (h2 : n ≤ 1022679) {f : R → Bool} {p : List Int} (h : shP n f = some p) : ExP p ∧ f (per p) = true ∧ p = (dateL n).take p.length ∧ ∀ k, 1 ≤ k → k < p.length → f (per ((dateL n).take k)) = false := by
  unfold shP at h
  split at h
  · rename_i hf
    obtain rfl := Option.some.inj h
    exact ⟨ex_date h1 h2 1 (by omega) (by omega), hf, rfl, fun k a b => by simp [dateL] at b; omega⟩
  · rename_i hn1
    split at h
    · rename_i hf
      obtain rfl := Option.some.inj h
      refine ⟨ex_date h1 h2 2 (by omega) (by omega), hf, rfl, fun k a b => ?_⟩
      simp [dateL] at b
      obtain rfl : k = 1 := by omega
      simpa using hn1
    · rename_i hn2
      split at h
      · rename_i hf
        obtain rfl := Option.some.inj h
        refine ⟨ex_date h1 h2 3 (by omega) (by omega), hf, rfl, fun k a b => ?_⟩
        simp [dateL] at b
        have : k = 1 ∨ k = 2 := by omega
        rcases this with rfl | rfl
        · simpa using hn1
        · simpa using hn2
      · cases h
theorem shP_none {n : Int} {f : R → Bool} (h : shP n f = none) (k : Nat) (hk : 1 ≤ k) (hk3 : k ≤ 3) : f (per ((dateL n).take k)) = false := by
  unfold shP at h
  split at h
  · cases h
  · rename_i a
    split at h
    · cases h
    · rename_i b
      split at h
      · cases h
      · rename_i c
        have hk' : k = 1 ∨ k = 2 ∨ k = 3 := by omega
        rcases hk' with rfl | rfl | rfl
        · simpa using a
        · simpa using b
        · simpa [dateL] using c
/-- If a beginning of the date of n is wanted, one is found that is not longer. -/
theorem shP_le {n : Int} (h1 : 1 ≤ n) (h2 : n ≤ 1022679) {f : R → Bool} {p : List Int} (hp : ExP p) (hd : p = (dateL n).take p.length) (hf : f (per p) = true) : ∃ r, shP n f = some r ∧ r.length ≤ p.length ∧ (r.length = p.length → r = p) := by
  have hl := hp.len
  cases hs : shP n f with
  | none =>
    have := shP_none hs p.length (by omega) (by omega)
    rw [← hd] at this
    rw [hf] at this
    cases this
  | some r =>
    refine ⟨r, rfl, ?_, fun e => ?_⟩
    · obtain ⟨a, b, c, d⟩ := shP_spec h1 h2 hs
      rcases Nat.lt_or_ge p.length r.length with h | h
      · have := d p.length (by omega) h
        rw [← hd, hf] at this
        cases this
      · exact h
    · obtain ⟨a, b, c, d⟩ := shP_spec h1 h2 hs
      rw [c, e, ← hd]
theorem aro_ok {y a b : Int} (h : aro y = (a, b, 0)) : 1 ≤ y ∧ y ≤ 2800 ∧ a = dby (max 1 (y - 5)) + 1 ∧ b = dby (min 2800 (y + 4) + 1) := by
  unfold aro at h
  split at h
  · rename_i hy
    simp only [Prod.mk.injEq] at h
    rw [num_first, num_last] at h
    exact ⟨hy.1, hy.2, h.1.symm, h.2.1.symm⟩
  · simp [eRange] at h
theorem dby_inj {a b : Int} (h : dby a = dby b) : a = b := by
  rcases Int.lt_trichotomy a b with c | c | c
  · have := dby_far (a := a) (b := b) (by omega); omega
  · exact c
  · have := dby_far (a := b) (b := a) (by omega); omega
theorem aro_inj {y y' a b : Int} (h : aro y = (a, b, 0)) (h' : aro y' = (a, b, 0)) : y = y' := by
  obtain ⟨h1, h2, h3, h4⟩ := aro_ok h
  obtain ⟨k1, k2, k3, k4⟩ := aro_ok h'
  have e1 : max 1 (y - 5) = max 1 (y' - 5) := dby_inj (by omega)
  have e2 : min 2800 (y + 4) + 1 = min 2800 (y' + 4) + 1 := dby_inj (by omega)
  omega
theorem aro_mid {y a b : Int} (h : aro y = (a, b, 0)) : midP a b = some y ∧ 1 ≤ a ∧ b ≤ 1022679 ∧ a + 1824 ≤ b ∧ yOf a ≤ y ∧ y ≤ yOf a + 5 := by
  obtain ⟨h1, h2, h3, h4⟩ := aro_ok h
  have hf := dby_far (a := max 1 (y - 5)) (b := min 2800 (y + 4) + 1) (by omega)
  have hb1 := dby_bd (y := max 1 (y - 5)) (by omega) (by omega)
  have hb2 := dby_bd (y := min 2800 (y + 4) + 1) (by omega) (by omega)
  have ea := (date_eq (n := a) (y := max 1 (y - 5)) (m := 1) (d := 1) (ex_first (by omega) (by omega)) (by rw [num_first]; omega)).1
  have eb := (date_eq (n := b) (y := min 2800 (y + 4)) (m := 12) (d := 31) (ex_last (by omega) (by omega)) (by rw [num_last]; omega)).1
  refine ⟨?_, by omega, by omega, by omega, by omega, by omega⟩
  unfold midP
  split
  · rename_i h'
    rw [aro_inj h' h]
  · rename_i hn
    split
    · rename_i h'
      rw [aro_inj h' h]
    · rename_i hn2
      exfalso
      rcases Int.lt_or_le y 6 with c | c
      · apply hn2
        rw [eb, show min 2800 (y + 4) - 4 = y by omega]
        exact h
      · apply hn
        rw [ea, show max 1 (y - 5) + 5 = y by omega]
        exact h
theorem isP_iff {a b : Int} {x : R} : isP a b x = true ↔ x.1 = a ∧ x.2.1 = b := by unfold isP; simp
theorem isF_iff {a : Int} {x : R} : isF a x = true ↔ x.1 = a := by unfold isF; simp
theorem isL_iff {b : Int} {x : R} : isL b x = true ↔ x.2.1 = b := by unfold isL; simp
theorem shF {a : Int} (h1 : 1 ≤ a) (h2 : a ≤ 1022679) : ∃ r, shP a (isF a) = some r ∧ ExP r ∧ fst r = a := by
  obtain ⟨r, hr, _, _⟩ := shP_le (f := isF a) h1 h2 (ex_date h1 h2 3 (by omega) (by omega)) (by simp [dateL]) (by rw [isF_iff]; exact (date_day h1 h2).1)
  obtain ⟨hx, hf, _⟩ := shP_spec h1 h2 hr
  exact ⟨r, hr, hx, by rw [isF_iff] at hf; exact hf⟩
theorem shL {b : Int} (h1 : 1 ≤ b) (h2 : b ≤ 1022679) : ∃ r, shP b (isL b) = some r ∧ ExP r ∧ lst r = b := by
  obtain ⟨r, hr, _, _⟩ := shP_le (f := isL b) h1 h2 (ex_date h1 h2 3 (by omega) (by omega)) (by simp [dateL]) (by rw [isL_iff]; exact (date_day h1 h2).2)
  obtain ⟨hx, hf, _⟩ := shP_spec h1 h2 hr
  exact ⟨r, hr, hx, by rw [isL_iff] at hf; exact hf⟩

/-! ## what is read -/
theorem txt_head {p : List Int} (h : Part p) (r : B) : ∃ n t, txt p ++ r = dgt n :: t := by
  rcases part_cases h with ⟨y, rfl⟩ | ⟨y, m, rfl⟩ | ⟨y, m, d, rfl⟩ <;> exact ⟨y / 1000, _, rfl⟩
theorem dgt_ne (n : Int) : dgt n ≠ 99 ∧ dgt n ≠ 47 ∧ dgt n ≠ 45 := by
  have h := dgt_nat n
  have : (n % 10).toNat < 10 := by omega
  refine ⟨fun e => ?_, fun e => ?_, fun e => ?_⟩ <;> (rw [e] at h; simp at h; omega)
theorem pars_date {p : List Int} (h : Part p) : pars (txt p) = btw p p := by
  obtain ⟨n, t, e⟩ := txt_head h []
  rw [List.append_nil] at e
  have hr := rd_txt h (r := []) (by simp)
  rw [List.append_nil] at hr
  unfold pars
  rw [hr]
  rw [e]
  simp [(dgt_ne n).1]
theorem pars_two {p q : List Int} (hp : Part p) (hq : Part q) : pars (txt p ++ 47 :: txt q) = btw p q := by
  obtain ⟨n, t, e⟩ := txt_head hp (47 :: txt q)
  have hr := rd_txt hp (r := 47 :: txt q) (by simp)
  have hr2 := rd_txt hq (r := []) (by simp)
  rw [List.append_nil] at hr2
  unfold pars
  rw [hr]
  rw [e]
  simp [(dgt_ne n).1, hr2]
theorem pars_c {y : Int} (h0 : 0 ≤ y) (h1 : y ≤ 9999) : pars (99 :: pad4 y) = aro y := by
  have hr := rd_txt (p := [y]) ⟨h0, h1⟩ (r := []) (by simp)
  have e : txt [y] ++ [] = pad4 y := by simp [txt]
  rw [e] at hr
  simp [pars, hr]
theorem btw_ok {p q : List Int} {a b : Int} (h : btw p q = (a, b, 0)) : ExP p ∧ ExP q ∧ fst p = a ∧ lst q = b ∧ a ≤ b := by
  unfold btw btwR at h
  split at h
  · rename_i hc
    simp only [Prod.mk.injEq] at h
    exact ⟨per_no hc.1, per_no hc.2.1, h.1, h.2.1, by rw [← h.1, ← h.2.1]; exact hc.2.2⟩
  · simp [eRange] at h
theorem btw_mk {p q : List Int} {a b : Int} (hp : ExP p) (hq : ExP q) (h1 : fst p = a) (h2 : lst q = b) (h : a ≤ b) : btw p q = (a, b, 0) := by
  unfold btw btwR
  rw [per_ok hp, per_ok hq]
  simp only
  rw [if_pos ⟨trivial, trivial, by omega⟩, h1, h2]
/-- What is read is the text of a date, of the years about one, or of two dates. -/
theorem pars_inv {l : B} {a b : Int} (h : pars l = (a, b, 0)) : (∃ p, l = txt p ∧ ExP p ∧ fst p = a ∧ lst p = b) ∨ (∃ y, l = 99 :: pad4 y ∧ aro y = (a, b, 0)) ∨ ∃ p q, l = txt p ++ 47 :: txt q ∧ ExP p ∧ ExP q ∧ fst p = a ∧ lst q = b ∧ a ≤ b := by
  unfold pars at h
  split at h
  · rename_i hc
    obtain ⟨t, rfl⟩ : ∃ t, l = 99 :: t := by cases l <;> simp at hc; subst hc; exact ⟨_, rfl⟩
    simp only [List.tail_cons] at h
    split at h
    · rename_i y hr
      obtain ⟨rfl, _⟩ := rd_inv hr
      exact .inr (.inl ⟨y, by simp [txt], h⟩)
    · simp [eForm] at h
  · split at h
    · simp [eForm] at h
    · rename_i p r hr
      obtain ⟨rfl, hp⟩ := rd_inv hr
      split at h
      · rename_i hs
        obtain ⟨t, rfl⟩ : ∃ t, r = 47 :: t := by cases r <;> simp at hs; subst hs; exact ⟨_, rfl⟩
        simp only [List.tail_cons] at h
        split at h
        · rename_i q hr2
          obtain ⟨rfl, hq⟩ := rd_inv hr2
          obtain ⟨x1, x2, x3, x4, x5⟩ := btw_ok h
          exact .inr (.inr ⟨p, q, by simp, x1, x2, x3, x4, x5⟩)
        · simp [eForm] at h
      · split at h
        · rename_i hz
          subst hz
          obtain ⟨x1, x2, x3, x4, x5⟩ := btw_ok h
          exact .inl ⟨p, by simp, x1, x3, x4⟩
        · simp [eForm] at h
theorem prt_valid {a b : Int} (h : vaB a b = true) : prt a b = match shP a (isP a b) with
    | some p => txt p
    | none => match midP a b with
      | some y => 99 :: pad4 y
      | none => txt ((shP a (isF a)).getD []) ++ 47 :: txt ((shP b (isL b)).getD []) := by unfold prt; rw [if_pos h]
theorem midP_ok {a b y : Int} (h : midP a b = some y) : aro y = (a, b, 0) := by
  unfold midP at h
  split at h
  · rename_i h'; obtain rfl := Option.some.inj h; exact h'
  · split at h
    · rename_i h'; obtain rfl := Option.some.inj h; exact h'
    · cases h
/-- The text of a span is read as the span. -/
theorem pars_prt {a b : Int} (h : vaB a b = true) : pars (prt a b) = (a, b, 0) := by
  obtain ⟨h1, h2, h3⟩ : okS a b := of_decide_eq_true h
  rw [prt_valid h]
  cases hs : shP a (isP a b) with
  | some p =>
    obtain ⟨hx, hf, _⟩ := shP_spec h1 (by omega) hs
    rw [isP_iff] at hf
    simp only
    rw [pars_date hx.part]
    exact btw_mk hx hx hf.1 hf.2 h2
  | none =>
    simp only
    cases hm : midP a b with
    | some y =>
      have ha := midP_ok hm
      obtain ⟨k1, k2, _⟩ := aro_ok ha
      simp only
      rw [pars_c (by omega) (by omega), ha]
    | none =>
      obtain ⟨r, hr, hrx, hrf⟩ := shF (a := a) h1 (by omega)
      obtain ⟨q, hq, hqx, hql⟩ := shL (b := b) (by omega) h3
      simp only [hr, hq, Option.getD_some]
      rw [pars_two hrx.part hqx.part]
      exact btw_mk hrx hqx hrf hql h2
/-- Another text that is read as the span is longer. -/
theorem prt_least {l : B} {a b : Int} (h : pars l = (a, b, 0)) : vaB a b = true ∧ (l = prt a b ∨ (prt a b).length < l.length) := by
  have hv : okS a b := by
    rcases pars_inv h with ⟨p, rfl, hx, rfl, rfl⟩ | ⟨y, rfl, hy⟩ | ⟨p, q, rfl, hp, hq, rfl, rfl, hab⟩
    · have := per_len hx
      exact ⟨this.1, this.2.2.1, this.2.1⟩
    · obtain ⟨_, k1, k2, k3, _⟩ := aro_mid hy
      exact ⟨k1, by omega, k2⟩
    · have k1 := per_len hp
      have k2 := per_len hq
      exact ⟨k1.1, hab, k2.2.1⟩
  have hvb : vaB a b = true := decide_eq_true hv
  refine ⟨hvb, ?_⟩
  obtain ⟨v1, v2, v3⟩ := hv
  rw [prt_valid hvb]
  rcases pars_inv h with ⟨p, rfl, hx, hp1, hp2⟩ | ⟨y, rfl, hy⟩ | ⟨p, q, rfl, hp, hq, hp1, hq2, hab⟩
  · obtain ⟨r, hr, hle, heq⟩ := shP_le (n := a) v1 (by omega) (f := isP a b) hx (by rw [← hp1]; exact (fst_pre hx).symm) (by rw [isP_iff]; exact ⟨hp1, hp2⟩)
    obtain ⟨hrx, _⟩ := shP_spec v1 (by omega) hr
    simp only [hr]
    rw [txt_length hrx.part, txt_length hx.part]
    rcases Nat.lt_or_ge r.length p.length with c | c
    · exact .inr (by omega)
    · exact .inl (by rw [heq (by omega)])
  · obtain ⟨km, _, _, kl, _⟩ := aro_mid hy
    cases hs : shP a (isP a b) with
    | some r =>
      obtain ⟨hrx, hf, _⟩ := shP_spec v1 (by omega) hs
      rw [isP_iff] at hf
      have hl := per_len hrx
      have e1 : fst r = a := hf.1
      have e2 : lst r = b := hf.2
      simp only
      right
      rw [txt_length hrx.part, List.length_cons, pad4_length]
      rcases hrx.len with c | c | c
      · omega
      · have := hl.2.2.2.2.1 c; omega
      · have := hl.2.2.2.2.2 c; omega
    | none =>
      simp only [km]
      exact .inl trivial
  · have hpl := txt_length hp.part
    have hql := txt_length hq.part
    have hpn := hp.len
    have hqn := hq.len
    have hlen : (txt p ++ 47 :: txt q).length = 3 + 3 * p.length + 3 * q.length := by rw [List.length_append, List.length_cons, hpl, hql]; omega
    rw [hlen]
    cases hs : shP a (isP a b) with
    | some r =>
      obtain ⟨hrx, hf, _⟩ := shP_spec v1 (by omega) hs
      rw [isP_iff] at hf
      have hl := per_len hrx
      have e1 : fst r = a := hf.1
      have e2 : lst r = b := hf.2
      simp only
      right
      rw [txt_length hrx.part]
      rcases hrx.len with c | c | c
      · omega
      · omega
      · have h1 := hl.2.2.2.2.2 c
        rcases Nat.lt_or_ge 2 (p.length + q.length) with d | d
        · omega
        · exfalso
          have hp1' : p.length = 1 := by omega
          have hq1' : q.length = 1 := by omega
          have g1 := (per_len hp).2.2.2.1 hp1'
          have g2 := (per_len hq).2.2.2.1 hq1'
          have ep := fst_pre hp
          have eq := lst_pre hq
          rw [hp1'] at ep
          rw [hq1'] at eq
          obtain ⟨y, rfl⟩ : ∃ y, p = [y] := List.length_eq_one_iff.1 hp1'
          obtain ⟨z, rfl⟩ : ∃ z, q = [z] := List.length_eq_one_iff.1 hq1'
          obtain ⟨i1, i2⟩ := fst1 hp
          obtain ⟨j1, j2⟩ := fst1 hq
          rw [num_first] at i1
          rw [num_last] at j2
          have hyz : y ≤ z := by
            rcases Int.lt_or_le z y with u | u
            · have := dby_mono (a := z + 1) (b := y) (by omega); omega
            · exact u
          have := dby_far (a := y) (b := z + 1) (by omega)
          omega
    | none =>
      simp only
      cases hm : midP a b with
      | some y =>
        simp only
        right
        rw [List.length_cons, pad4_length]
        omega
      | none =>
        obtain ⟨r, hr, hrl, hre⟩ := shP_le (n := a) v1 (by omega) (f := isF a) hp (by rw [← hp1]; exact (fst_pre hp).symm) (by rw [isF_iff]; exact hp1)
        obtain ⟨s, hs', hsl, hse⟩ := shP_le (n := b) (by omega) v3 (f := isL b) hq (by rw [← hq2]; exact (lst_pre hq).symm) (by rw [isL_iff]; exact hq2)
        obtain ⟨hrx, _⟩ := shP_spec v1 (by omega) hr
        obtain ⟨hsx, _⟩ := shP_spec (by omega) v3 hs'
        simp only [hr, hs', Option.getD_some]
        rw [List.length_append, List.length_cons, txt_length hrx.part, txt_length hsx.part]
        rcases Nat.lt_or_ge (r.length + s.length) (p.length + q.length) with c | c
        · right; omega
        · left; rw [hre (by omega), hse (by omega)]

/-! ## the reference's reading -/
/-- The number that digits stand for. -/
def nmGo : Int → B → Option Int
  | n, [] => some n
  | n, c :: t => if isD c then nmGo (10 * n + ((c.toNat : Int) - 48)) t else none
def nm (l : B) : Option Int := nmGo 0 l
theorem nmGo_nk (k : Nat) (n : Int) (l : B) (h : l.length = k) : nk k n l = (nmGo n l).map fun x => (x, []) := by
  induction k generalizing n l with
  | zero => obtain rfl := List.eq_nil_of_length_eq_zero h; rfl
  | succ k ih =>
    cases l with
    | nil => cases h
    | cons c t =>
      unfold nk nmGo
      split
      · exact ih _ t (by simpa using h)
      · rfl
/-- The text of a date, as the reference reads it. -/
def rtx (l : B) : R :=
  if l.length = 4 then (match nm l with | some y => per [y] | none => eForm)
  else if l.length = 7 then (match nm (l.take 4), nm ((l.drop 5).take 2) with | some y, some m => if l[4]? = some 45 then per [y, m] else eForm | _, _ => eForm)
  else if l.length = 10 then (match nm (l.take 4), nm ((l.drop 5).take 2), nm (l.drop 8) with | some y, some m, some d => if l[4]? = some 45 ∧ l[7]? = some 45 then per [y, m, d] else eForm | _, _, _ => eForm)
  else eForm
theorem nm_pad4 {n : Int} (h0 : 0 ≤ n) (h1 : n ≤ 9999) : nm (pad4 n) = some n := by
  have h := nmGo_nk 4 0 (pad4 n) rfl
  have h2 := nk4_pad n h0 h1 []
  rw [List.append_nil] at h2
  rw [h2] at h
  unfold nm
  cases e : nmGo 0 (pad4 n) with
  | none => rw [e] at h; cases h
  | some x => rw [e] at h; simp at h; rw [h]
theorem nm_pad2 {n : Int} (h0 : 0 ≤ n) (h1 : n ≤ 99) : nm (pad2 n) = some n := by
  have h := nmGo_nk 2 0 (pad2 n) rfl
  have h2 := nk2_pad n h0 h1 []
  rw [List.append_nil] at h2
  rw [h2] at h
  unfold nm
  cases e : nmGo 0 (pad2 n) with
  | none => rw [e] at h; cases h
  | some x => rw [e] at h; simp at h; rw [h]
theorem nm_inv4 {l : B} {n : Int} (hl : l.length = 4) (h : nm l = some n) : l = pad4 n ∧ 0 ≤ n ∧ n ≤ 9999 := by
  have h2 := nmGo_nk 4 0 l hl
  unfold nm at h
  rw [h] at h2
  have := nk4_inv h2
  simpa using this
theorem nm_inv2 {l : B} {n : Int} (hl : l.length = 2) (h : nm l = some n) : l = pad2 n ∧ 0 ≤ n ∧ n ≤ 99 := by
  have h2 := nmGo_nk 2 0 l hl
  unfold nm at h
  rw [h] at h2
  have := nk2_inv h2
  simpa using this
theorem rtx_txt {p : List Int} (h : Part p) : rtx (txt p) = per p := by
  match p, h with
  | [y], h =>
    obtain ⟨a, b⟩ := h
    have e : txt [y] = pad4 y := by simp [txt]
    unfold rtx
    rw [e, if_pos (pad4_length y), nm_pad4 a b]
  | [y, m], h =>
    obtain ⟨a, b, c, d⟩ := h
    have e : txt [y, m] = pad4 y ++ 45 :: pad2 m := by simp [txt]
    have e1 : (txt [y, m]).take 4 = pad4 y := by rw [e]; rfl
    have e2 : ((txt [y, m]).drop 5).take 2 = pad2 m := by rw [e]; rfl
    have e3 : (txt [y, m])[4]? = some 45 := by rw [e]; rfl
    have e4 : (txt [y, m]).length = 7 := by rw [e]; rfl
    unfold rtx
    rw [e1, e2, e3, e4, nm_pad4 a b, nm_pad2 c d]
    rfl
  | [y, m, k], h =>
    obtain ⟨a, b, c, d, f, g⟩ := h
    have e : txt [y, m, k] = pad4 y ++ 45 :: (pad2 m ++ 45 :: pad2 k) := by simp [txt]
    have e1 : (txt [y, m, k]).take 4 = pad4 y := by rw [e]; rfl
    have e2 : ((txt [y, m, k]).drop 5).take 2 = pad2 m := by rw [e]; rfl
    have e3 : (txt [y, m, k])[4]? = some 45 := by rw [e]; rfl
    have e5 : (txt [y, m, k])[7]? = some 45 := by rw [e]; rfl
    have e6 : (txt [y, m, k]).drop 8 = pad2 k := by rw [e]; rfl
    have e4 : (txt [y, m, k]).length = 10 := by rw [e]; rfl
    unfold rtx
    rw [e1, e2, e3, e4, e5, e6, nm_pad4 a b, nm_pad2 c d, nm_pad2 f g]
    rfl
theorem rtx_inv {l : B} (h : rtx l ≠ eForm) : ∃ p, Part p ∧ l = txt p := by
  unfold rtx at h
  split at h
  · rename_i h4
    cases e : nm l with
    | none => rw [e] at h; exact absurd rfl h
    | some y =>
      obtain ⟨hl, a, b⟩ := nm_inv4 h4 e
      exact ⟨[y], ⟨a, b⟩, by simp [txt, hl]⟩
  · split at h
    · rename_i h7
      cases e : nm (l.take 4) with
      | none => rw [e] at h; exact absurd rfl h
      | some y =>
        cases e2 : nm ((l.drop 5).take 2) with
        | none => rw [e, e2] at h; exact absurd rfl h
        | some m =>
          rw [e, e2] at h
          simp only at h
          split at h
          · rename_i hd
            obtain ⟨hl, a, b⟩ := nm_inv4 (by simp; omega) e
            obtain ⟨hl2, a2, b2⟩ := nm_inv2 (by simp; omega) e2
            refine ⟨[y, m], ⟨a, b, a2, b2⟩, ?_⟩
            have s1 : l = l.take 4 ++ l.drop 4 := (List.take_append_drop 4 l).symm
            have s2 : l.drop 4 = 45 :: l.drop 5 := by
              rw [List.drop_eq_getElem_cons (by omega : 4 < l.length)]
              rw [List.getElem?_eq_getElem (by omega : 4 < l.length)] at hd
              rw [Option.some.inj hd]
            have s3 : l.drop 5 = (l.drop 5).take 2 := by rw [List.take_of_length_le]; simp; omega
            rw [s1, s2, s3, hl, hl2]
            simp [txt]
          · exact absurd rfl h
    · split at h
      · rename_i h10
        cases e : nm (l.take 4) with
        | none => rw [e] at h; exact absurd rfl h
        | some y =>
          cases e2 : nm ((l.drop 5).take 2) with
          | none => rw [e, e2] at h; exact absurd rfl h
          | some m =>
            cases e3 : nm (l.drop 8) with
            | none => rw [e, e2, e3] at h; exact absurd rfl h
            | some k =>
              rw [e, e2, e3] at h
              simp only at h
              split at h
              · rename_i hd
                obtain ⟨hl, a, b⟩ := nm_inv4 (by simp; omega) e
                obtain ⟨hl2, a2, b2⟩ := nm_inv2 (by simp; omega) e2
                obtain ⟨hl3, a3, b3⟩ := nm_inv2 (by simp; omega) e3
                refine ⟨[y, m, k], ⟨a, b, a2, b2, a3, b3⟩, ?_⟩
                have s1 : l = l.take 4 ++ l.drop 4 := (List.take_append_drop 4 l).symm
                have s2 : l.drop 4 = 45 :: l.drop 5 := by
                  have := hd.1
                  rw [List.drop_eq_getElem_cons (by omega : 4 < l.length)]
                  rw [List.getElem?_eq_getElem (by omega : 4 < l.length)] at this
                  rw [Option.some.inj this]
                have s3 : l.drop 5 = (l.drop 5).take 2 ++ l.drop 7 := by
                  have := (List.take_append_drop 2 (l.drop 5)).symm
                  rw [List.drop_drop] at this
                  exact this
                have s4 : l.drop 7 = 45 :: l.drop 8 := by
                  have := hd.2
                  rw [List.drop_eq_getElem_cons (by omega : 7 < l.length)]
                  rw [List.getElem?_eq_getElem (by omega : 7 < l.length)] at this
                  rw [Option.some.inj this]
                rw [s1, s2, s3, s4, hl, hl2, hl3]
                simp [txt]
              · exact absurd rfl h
      · exact absurd rfl h
theorem per_form (p : List Int) : per p ≠ eForm := by
  match p with
  | [] => decide
  | [y] => cases e : exB y 1 1 <;> simp [per, e, eRange, eForm]
  | [y, m] => cases e : exB y m 1 <;> simp [per, e, eRange, eForm]
  | [y, m, d] => cases e : exB y m d <;> simp [per, e, eRange, eForm]
  | _ :: _ :: _ :: _ :: _ => simp [per, eRange, eForm]
theorem rtx_eq (l : B) : rtx l = match rd l with | some (p, []) => per p | _ => eForm := by
  by_cases h : rtx l = eForm
  · rw [h]
    split
    · rename_i p hr
      obtain ⟨rfl, hp⟩ := rd_inv hr
      rw [List.append_nil, rtx_txt hp] at h
      exact absurd h (per_form p)
    · rfl
  · obtain ⟨p, hp, rfl⟩ := rtx_inv h
    have := rd_txt hp (r := []) (by simp)
    rw [List.append_nil] at this
    rw [this, rtx_txt hp]
/-- The reference's Parse: u is what stands before the first '/'. -/
def rps (l : B) : R :=
  if l.length = 5 ∧ l.head? = some 99 then (match nm l.tail with | none => eForm | some y => aro y)
  else if (47 : UInt8) ∈ l then
    let u := l.takeWhile (· ≠ 47); let v := (l.dropWhile (· ≠ 47)).tail
    if (rtx u).2.2 = 2 ∨ (rtx v).2.2 = 2 then eForm else btwR (rtx u) (rtx v)
  else rtx l
theorem nk_app (k : Nat) (n : Int) (u v : B) : nk k n (u ++ 47 :: v) = (nk k n u).map fun x => (x.1, x.2 ++ 47 :: v) := by
  induction k generalizing n u with
  | zero => rfl
  | succ k ih =>
    cases u with
    | nil => simp [nk, isD]
    | cons c t =>
      simp only [List.cons_append, nk]
      split
      · exact ih _ t
      · rfl
theorem rdGo_dash (j : Nat) (p : List Int) (t : B) : rdGo (j + 1) p (45 :: t) = match nk 2 0 t with | none => none | some (n, r) => rdGo j (p ++ [n]) r := by simp [rdGo]
theorem rdGo_stop (j : Nat) (p : List Int) {l : B} (h : l.head? ≠ some 45) : rdGo (j + 1) p l = some (p, l) := by simp [rdGo, h]
theorem rdGo_app (j : Nat) (p : List Int) (u v : B) : rdGo j p (u ++ 47 :: v) = (rdGo j p u).map fun x => (x.1, x.2 ++ 47 :: v) := by
  induction j generalizing p u with
  | zero => rfl
  | succ j ih =>
    cases u with
    | nil => simp [rdGo]
    | cons c t =>
      by_cases hc : c = 45
      · subst hc
        rw [List.cons_append, rdGo_dash, rdGo_dash, nk_app]
        cases nk 2 0 t with
        | none => rfl
        | some x => exact ih _ _
      · have hn : (c :: t).head? ≠ some 45 := fun e => hc (Option.some.inj e)
        rw [rdGo_stop j p hn, rdGo_stop j p (l := c :: t ++ 47 :: v) hn]
        rfl
theorem rd_app (u v : B) : rd (u ++ 47 :: v) = (rd u).map fun x => (x.1, x.2 ++ 47 :: v) := by
  unfold rd
  rw [nk_app]
  cases nk 4 0 u with
  | none => rfl
  | some x => exact rdGo_app 2 _ _ _
theorem take_mem {l : B} (h : (47 : UInt8) ∈ l) : l = l.takeWhile (· ≠ 47) ++ 47 :: (l.dropWhile (· ≠ 47)).tail ∧ (47 : UInt8) ∉ l.takeWhile (· ≠ 47) := by
  induction l with
  | nil => cases h
  | cons c t ih =>
    by_cases hc : c = 47
    · subst hc
      simp
    · have ht : (47 : UInt8) ∈ t := by simpa [Ne.symm hc] using h
      obtain ⟨a, b⟩ := ih ht
      simp only [List.takeWhile_cons, List.dropWhile_cons, ne_eq, hc, not_false_eq_true, decide_true, if_true, List.cons_append, List.cons.injEq, true_and, List.mem_cons, not_or]
      exact ⟨a, Ne.symm hc, b⟩
theorem per_err (p : List Int) : (per p).2.2 = 0 ∨ per p = eRange := by
  match p with
  | [] => exact .inr rfl
  | [y] => cases e : exB y 1 1 <;> simp [per, e]
  | [y, m] => cases e : exB y m 1 <;> simp [per, e]
  | [y, m, d] => cases e : exB y m d <;> simp [per, e]
  | _ :: _ :: _ :: _ :: _ => exact .inr rfl
theorem rtx_err (l : B) : (rtx l).2.2 = 2 ↔ rtx l = eForm := by
  refine ⟨fun h => ?_, fun h => by rw [h]; rfl⟩
  rw [rtx_eq] at h ⊢
  split at h
  · rename_i p _
    rcases per_err p with e | e
    · rw [e] at h; cases h
    · rw [e] at h; cases h
  · rfl
theorem btw_self (p : List Int) : btw p p = per p := by
  unfold btw btwR
  rcases per_err p with e | e
  · have hx := per_no e
    have hl := per_len hx
    rw [per_ok hx]
    simp only [true_and]
    rw [if_pos (by omega)]
  · rw [e]
    simp [eRange]
theorem rd_99 (t : B) : rd (99 :: t) = none := by simp [rd, nk, isD]
theorem rtx_99 (t : B) : rtx (99 :: t) = eForm := by rw [rtx_eq, rd_99]
theorem rps_eq (l : B) : rps l = pars l := by
  by_cases h5 : l.length = 5 ∧ l.head? = some 99
  · have hp := h5
    unfold rps
    rw [if_pos h5]
    obtain ⟨hl, hc⟩ := h5
    obtain ⟨t, rfl⟩ : ∃ t, l = 99 :: t := by cases l <;> simp at hc; subst hc; exact ⟨_, rfl⟩
    unfold pars
    simp only [List.head?_cons, if_true, List.tail_cons]
    have ht : t.length = 4 := by simpa using hl
    cases e : nm t with
    | none =>
      simp only
      have h4 := nmGo_nk 4 0 t ht
      unfold nm at e
      rw [e] at h4
      have : rd t = none := by unfold rd; rw [h4]; rfl
      rw [this]
    | some y =>
      obtain ⟨rfl, a, b⟩ := nm_inv4 ht e
      have := rd_txt (p := [y]) ⟨a, b⟩ (r := []) (by simp)
      have e2 : txt [y] ++ [] = pad4 y := by simp [txt]
      rw [e2] at this
      rw [this]
  · unfold rps
    rw [if_neg h5]
    by_cases hc : l.head? = some 99
    · obtain ⟨t, rfl⟩ : ∃ t, l = 99 :: t := by cases l <;> simp at hc; subst hc; exact ⟨_, rfl⟩
      have ht : t.length ≠ 4 := fun e => h5 ⟨by simp [e], rfl⟩
      have hpars : pars (99 :: t) = eForm := by
        unfold pars
        simp only [List.head?_cons, if_true, List.tail_cons]
        split
        · rename_i y hr
          obtain ⟨rfl, hp⟩ := rd_inv hr
          simp [txt, pad4_length] at ht
        · rfl
      rw [hpars]
      split
      · rename_i hm
        have e : (99 :: t).takeWhile (· ≠ 47) = 99 :: t.takeWhile (· ≠ 47) := by simp
        simp only [e, rtx_99]
        simp [eForm]
      · exact rtx_99 t
    · unfold pars
      rw [if_neg hc]
      split
      · rename_i hm
        obtain ⟨hl, hn⟩ := take_mem hm
        generalize l.takeWhile (· ≠ 47) = u at hl hn ⊢
        generalize (l.dropWhile (· ≠ 47)).tail = v at hl ⊢
        subst hl
        simp only [rd_app, rtx_err]
        rw [rtx_eq u, rtx_eq v]
        cases hu : rd u with
        | none => simp
        | some x =>
          obtain ⟨p, r⟩ := x
          obtain ⟨rfl, hp⟩ := rd_inv hu
          cases r with
          | nil =>
            simp only [Option.map_some, List.nil_append, List.head?_cons, if_true, List.tail_cons]
            cases hv : rd v with
            | none => simp
            | some x2 =>
              obtain ⟨q, r2⟩ := x2
              cases r2 with
              | nil =>
                simp only
                rw [if_neg (by intro h; rcases h with h | h <;> exact per_form _ h)]
                rfl
              | cons c2 t2 => simp
          | cons c t =>
            have hc47 : c ≠ 47 := by intro e; subst e; simp at hn
            simp [hc47]
      · rename_i hm
        rw [rtx_eq]
        cases hr : rd l with
        | none => rfl
        | some x =>
          obtain ⟨p, r⟩ := x
          obtain ⟨rfl, hp⟩ := rd_inv hr
          cases r with
          | nil => simp [btw_self]
          | cons c t =>
            have hc47 : c ≠ 47 := by intro e; subst e; simp at hm
            simp [hc47]

/-! ## the reference's printing: of all texts the shortest one that is read as the span -/
def dtx (n : Int) : List B := [pad4 (yOf n), pad4 (yOf n) ++ 45 :: pad2 (mOf n), (pad4 (yOf n) ++ 45 :: pad2 (mOf n)) ++ 45 :: pad2 (dOf n)]
def cyr : Nat → Int → List B
  | 0, _ => []
  | k + 1, y => (99 :: pad4 y) :: cyr k (y + 1)
def tx (a b : Int) : List B := dtx a ++ cyr (min 2800 (yOf a + 5) - yOf a + 1).toNat (yOf a) ++ (dtx a).flatMap fun x => (dtx b).map fun y => x ++ 47 :: y
def pick (a b : Int) : B → List B → B
  | best, [] => best
  | best, t :: l => pick a b (if pars t = (a, b, 0) ∧ (best = [] ∨ t.length < best.length) then t else best) l
def rpr (a b : Int) : B := if vaB a b then pick a b [] (tx a b) else []
theorem dtx_eq (n : Int) : dtx n = [txt ((dateL n).take 1), txt ((dateL n).take 2), txt ((dateL n).take 3)] := by simp [dtx, txt, dateL]
theorem dtx_mem {n : Int} {p : List Int} (h : p = (dateL n).take p.length) (h1 : ExP p) : txt p ∈ dtx n := by
  rw [dtx_eq]
  rcases h1.len with e | e | e <;> (rw [e] at h; rw [h]; simp)
theorem cyr_mem (k : Nat) (y z : Int) (h1 : y ≤ z) (h2 : z < y + k) : 99 :: pad4 z ∈ cyr k y := by
  induction k generalizing y with
  | zero => omega
  | succ k ih =>
    unfold cyr
    rcases Int.lt_or_le y z with h | h
    · exact List.mem_cons_of_mem _ (ih (y + 1) (by omega) (by omega))
    · obtain rfl : y = z := by omega
      exact List.mem_cons_self
theorem prt_mem {a b : Int} (h : vaB a b = true) : prt a b ∈ tx a b := by
  obtain ⟨h1, h2, h3⟩ : okS a b := of_decide_eq_true h
  rw [prt_valid h]
  unfold tx
  cases hs : shP a (isP a b) with
  | some p =>
    obtain ⟨hx, hf, hd, _⟩ := shP_spec h1 (by omega) hs
    simp only
    exact List.mem_append_left _ (List.mem_append_left _ (dtx_mem hd hx))
  | none =>
    simp only
    cases hm : midP a b with
    | some y =>
      have ha := midP_ok hm
      obtain ⟨k1, k2, _⟩ := aro_ok ha
      obtain ⟨_, _, _, _, g1, g2⟩ := aro_mid ha
      simp only
      exact List.mem_append_left _ (List.mem_append_right _ (cyr_mem _ _ _ g1 (by omega)))
    | none =>
      obtain ⟨r, hr, hrx, hrf⟩ := shF (a := a) h1 (by omega)
      obtain ⟨q, hq, hqx, hql⟩ := shL (b := b) (by omega) h3
      have hr2 := (shP_spec h1 (by omega) hr).2.2.1
      have hq2 := (shP_spec (by omega) h3 hq).2.2.1
      simp only [hr, hq, Option.getD_some]
      exact List.mem_append_right _ (List.mem_flatMap.2 ⟨_, dtx_mem hr2 hrx, List.mem_map.2 ⟨_, dtx_mem hq2 hqx, rfl⟩⟩)
theorem prt_ne {a b : Int} (h : vaB a b = true) : prt a b ≠ [] := by
  intro e
  have := pars_prt h
  rw [e] at this
  simp [pars, rd, nk, eForm] at this
theorem pick_eq {a b : Int} {P : B} (hP : pars P = (a, b, 0)) (hne : P ≠ []) (hmin : ∀ t, pars t = (a, b, 0) → t = P ∨ P.length < t.length) (l : List B) (best : B) (hb : best = [] ∨ pars best = (a, b, 0)) (hm : best = P ∨ P ∈ l) : pick a b best l = P := by
  induction l generalizing best with
  | nil => simpa [pick] using hm
  | cons t l ih =>
    unfold pick
    refine ih _ ?_ ?_
    · split
      · rename_i h; exact .inr h.1
      · exact hb
    · by_cases hbp : best = P
      · left
        rw [if_neg, hbp]
        rintro ⟨h1, h2⟩
        rcases h2 with h2 | h2
        · exact hne (by rw [← hbp, h2])
        · rw [hbp] at h2
          rcases hmin t h1 with e | e
          · rw [e] at h2; omega
          · omega
      · rcases hm with hm | hm
        · exact absurd hm hbp
        · rcases List.mem_cons.1 hm with e | e
          · left
            subst e
            rw [if_pos]
            refine ⟨hP, ?_⟩
            rcases hb with hb | hb
            · exact .inl hb
            · rcases hmin best hb with e | e
              · exact absurd e hbp
              · exact .inr e
          · exact .inr e
theorem rpr_eq (a b : Int) : rpr a b = prt a b := by
  unfold rpr
  split
  · rename_i h
    exact pick_eq (pars_prt h) (prt_ne h) (fun t ht => (prt_least ht).2) _ _ (.inl rfl) (.inr (prt_mem h))
  · rename_i h
    unfold prt
    rw [if_neg h]

/-! ## what the walks ask -/
def mds : List Int := [31, 28, 31, 30, 31, 30, 31, 31, 30, 31, 30, 31]
def lpB (y : Int) : Bool := decide (lp y = 1)
theorem lpB_mk {y : Int} (h : y % 4 = 0) (h2 : y % 100 ≠ 0) : true = lpB y := by unfold lpB lp; rw [if_pos (.inl ⟨h, h2⟩)]; rfl
theorem lpB_mk2 {y : Int} (h : y % 400 = 0) : true = lpB y := by unfold lpB lp; rw [if_pos (.inr h)]; rfl
theorem lpB_no {y : Int} (h : y % 4 ≠ 0 ∨ y % 100 = 0) (h2 : y % 400 ≠ 0) : false = lpB y := by
  unfold lpB lp
  rw [if_neg]
  · rfl
  · rintro (⟨a, b⟩ | c)
    · rcases h with h | h
      · exact h a
      · exact b h
    · exact h2 c
theorem lpB_true {y : Int} (h : lpB y = true) : lp y = 1 := of_decide_eq_true h
theorem lpB_false {y : Int} (h : lpB y = false) : lp y = 0 := by
  have := of_decide_eq_false h
  rcases lp_01 y with e | e
  · exact e
  · exact absurd e this
theorem ml_tab (y : Int) (k : Nat) (hk : k < 12) (h : k ≠ 1 ∨ lp y = 0) : ml y ((k : Int) + 1) = mds.getD k 0 := by
  have : k = 0 ∨ k = 1 ∨ k = 2 ∨ k = 3 ∨ k = 4 ∨ k = 5 ∨ k = 6 ∨ k = 7 ∨ k = 8 ∨ k = 9 ∨ k = 10 ∨ k = 11 := by omega
  rcases this with e | e | e | e | e | e | e | e | e | e | e | e <;> subst e <;> first | rfl | skip
  rcases h with h | h
  · exact absurd rfl h
  · unfold ml
    rw [h]
    rfl
theorem ml_feb {y : Int} (h : lp y = 1) : ml y 2 = 29 := by unfold ml; rw [if_pos rfl, h]; rfl
attribute [irreducible] lpB ml lp dby cum num exB vaB pars prt shP midP aro per rd rdGo nk btwR rtx rps rpr
end Cal
end Go.Proofs.YtkaaejfochdjcaaDoor
