/-
  Plain mathematics of the decoders: what they answer of an encoding with a tail, of a prefix of an encoding, and that what was decoded is what is encoded. No walk.
-/
import Derived.Test.YtelkekicceoaoaaWGetX
namespace Go.Proofs.Ytelkekicceoaoaa
open Go.RowKit
set_option linter.unusedVariables false

/-! ## integers -/
theorem gI_cut (n : Int) (i : Nat) (hi : i < (en n).length) : (gI ((en n).take i)).2.2 = 3 := by
  have key : ∀ (neg : Bool) (m : Nat), i < (enS neg m).length → (gI ((enS neg m).take i)).2.2 = 3 := by
    intro neg m hi
    cases i with
    | zero => rfl
    | succ i =>
      have hl := be_len 8 m
      rw [enS_length] at hi
      have h1 : (flip neg (UInt8.ofNat (128 + (be 8 m).length))).toNat = if neg then 127 - (be 8 m).length else 128 + (be 8 m).length := by
        rw [flip_toNat]
        have : (UInt8.ofNat (128 + (be 8 m).length)).toNat = 128 + (be 8 m).length := by simp; omega
        rw [this]
        cases neg <;> simp; omega
      unfold enS
      rw [List.take_succ_cons, gI_cons, h1]
      have hs : ∀ k, k = (be 8 m).length → (gB neg k (((be 8 m).map (flip neg)).take i)).2.2 = 3 := by
        intro k hk
        unfold gB
        rw [if_neg (by omega), if_pos (by simp; omega)]
      cases neg
      · rw [if_neg (by simp)]; exact hs _ (by simp)
      · rw [if_pos (by simp; omega)]; exact hs _ (by simp; omega)
  unfold en at hi ⊢
  split
  · rename_i h; rw [if_pos h] at hi; exact key _ _ hi
  · rename_i h; rw [if_neg h] at hi; exact key _ _ hi

/-! ## lengths -/
theorem gLen_en (n : Nat) (hn : n ≤ 9223372036854775807) (wd : Int) (t : List UInt8) (hw : 1 ≤ wd) (ht : (n : Int) * wd ≤ t.length) : gLen (en n ++ t) wd = ((n : Int), (en n).length, 0) := by
  unfold gLen
  rw [gI_en n (inI_nat n hn)]
  simp only
  rw [if_neg (by simp), if_neg (by omega), if_neg]
  rw [List.length_append]
  have : (n : Int) ≤ (((en n).length + t.length : Nat) - ((en n).length : Int)) / wd := by
    rw [Int.le_ediv_iff_mul_le (by omega)]
    omega
  omega
theorem gLen_short (n : Nat) (hn : n ≤ 9223372036854775807) (wd : Int) (t : List UInt8) (hw : 1 ≤ wd) (ht : (t.length : Int) < (n : Int) * wd) : (gLen (en n ++ t) wd).2.2 = 3 := by
  unfold gLen
  rw [gI_en n (inI_nat n hn)]
  simp only
  rw [if_neg (by simp), if_neg (by omega), if_pos]
  rw [List.length_append]
  have : (((en n).length + t.length : Nat) - ((en n).length : Int)) / wd < (n : Int) := by
    rw [Int.ediv_lt_iff_lt_mul (by omega)]
    omega
  exact this
theorem gLen_cut (n : Nat) (wd : Int) (i : Nat) (hi : i < (en n).length) : (gLen ((en n).take i) wd).2.2 = 3 := by
  have h := gI_cut n i hi
  unfold gLen
  rw [if_pos (by rw [h]; omega)]
  exact h

/-! ## byte strings -/
theorem gB3_en (s t : List UInt8) (hs : s.length ≤ 9223372036854775807) : gB3 (eB s ++ t) = (s, (eB s).length, 0) := by
  unfold gB3 eB
  rw [List.append_assoc, gLen_en s.length hs 1 (s ++ t) (by omega) (by simp; omega)]
  simp only
  rw [if_neg (by simp), List.drop_left]
  simp
theorem gB3_inv {l : List UInt8} (h : (gB3 l).2.2 = 0) : (gB3 l).2.1 ≤ l.length ∧ 1 ≤ (gB3 l).2.1 ∧ l.take (gB3 l).2.1 = eB (gB3 l).1 ∧ (gB3 l).1.length ≤ 9223372036854775807 := by
  have h0 := gB3_ok h
  refine ⟨h0.1, h0.2, ?_⟩
  unfold gB3 at h h0 ⊢
  by_cases he : (gLen l 1).2.2 ≠ 0
  · rw [if_pos he] at h; exact absurd h he
  · rw [if_neg he] at h0 ⊢
    obtain ⟨h1, h2, h3, h4⟩ := gLen_ok (by simpa using he) (by omega)
    obtain ⟨g1, g2, g3, g4, g5⟩ := gI_ok h1
    rw [h4] at h0 ⊢
    simp only at h0 ⊢
    generalize gI l = r at *
    obtain ⟨n, u, e⟩ := r
    simp only at *
    obtain ⟨k, rfl⟩ := Int.eq_ofNat_of_zero_le h2
    have hlen : ((l.drop u).take k).length = k := by simp; omega
    simp only [Int.toNat_natCast] at *
    unfold eB
    unfold inI at g1
    rw [hlen]
    exact ⟨by rw [← g5, List.take_add], by omega⟩
theorem gB3_cut (s : List UInt8) (hs : s.length ≤ 9223372036854775807) (i : Nat) (hi : i < (eB s).length) : (gB3 ((eB s).take i)).2.2 = 3 := by
  have key : (gLen ((eB s).take i) 1).2.2 = 3 := by
    unfold eB at hi ⊢
    by_cases h : i < (en s.length).length
    · rw [List.take_append_of_le_length (by omega)]
      exact gLen_cut _ _ _ h
    · rw [List.take_append, List.take_of_length_le (by omega)]
      rw [List.length_append] at hi
      exact gLen_short _ hs 1 _ (by omega) (by simp; omega)
  unfold gB3
  rw [if_pos (by rw [key]; omega)]
  exact key

/-! ## lists, over whatever elements -/
structure Codec {α : Type} (wd : Nat) (enc : α → List UInt8) (vals : α → List Value) (valid : α → Prop) (el : List UInt8 → Nat × Int) (step : List (List Value) → List UInt8 → List (List Value)) : Prop where
  wide : ∀ a, valid a → wd ≤ (enc a).length
  read : ∀ a t, valid a → el (enc a ++ t) = ((enc a).length, 0)
  left : ∀ a t s, valid a → step s (enc a ++ t) = s ++ [vals a]
  inv : ∀ r, wd ≤ r.length ∨ wd = 1 → (el r).2 = 0 → ∃ a, valid a ∧ (el r).1 ≤ r.length ∧ r.take (el r).1 = enc a ∧ ∀ s, step s r = s ++ [vals a]

section
variable {α : Type} {wd : Nat} {enc : α → List UInt8} {vals : α → List Value} {valid : α → Prop} {el : List UInt8 → Nat × Int} {step : List (List Value) → List UInt8 → List (List Value)}

def eLs (enc : α → List UInt8) (xs : List α) : List UInt8 := en xs.length ++ xs.flatMap enc

theorem flatMap_wide (C : Codec wd enc vals valid el step) (xs : List α) (h : ∀ a ∈ xs, valid a) : xs.length * wd ≤ (xs.flatMap enc).length := by
  induction xs with
  | nil => simp
  | cons a r ih =>
    have h1 := C.wide a (h a (by simp))
    have h2 := ih (fun b hb => h b (by simp [hb]))
    rw [List.length_cons, List.flatMap_cons, List.length_append, Nat.add_mul]
    omega
theorem gLoop_en (C : Codec wd enc vals valid el step) (xs : List α) (h : ∀ a ∈ xs, valid a) : ∀ (p t : List UInt8) (s : List (List Value)),
    gLoop el (p ++ (xs.flatMap enc ++ t)) xs.length p.length = (p.length + (xs.flatMap enc).length, 0) ∧ sLoop step el (p ++ (xs.flatMap enc ++ t)) xs.length p.length s = s ++ xs.map vals := by
  induction xs with
  | nil => intro p t s; simp [gLoop, sLoop]
  | cons a r ih =>
    intro p t s
    have ha := h a (by simp)
    have hd : (p ++ ((a :: r).flatMap enc ++ t)).drop p.length = enc a ++ (r.flatMap enc ++ t) := by rw [List.drop_left, List.flatMap_cons, List.append_assoc]
    have hp : p ++ ((a :: r).flatMap enc ++ t) = (p ++ enc a) ++ (r.flatMap enc ++ t) := by rw [List.flatMap_cons]; simp
    have h2 := ih (fun b hb => h b (by simp [hb])) (p ++ enc a) t (s ++ [vals a])
    rw [List.length_cons, gLoop, sLoop, hd, C.read a _ ha, C.left a _ s ha]
    simp only
    rw [if_neg (by simp), hp, ← List.length_append, h2.1, h2.2]
    simp [List.flatMap_cons, Nat.add_assoc]
theorem gList_en (C : Codec wd enc vals valid el step) (hw : 1 ≤ wd) (xs : List α) (h : ∀ a ∈ xs, valid a) (hn : xs.length ≤ 9223372036854775807) (t : List UInt8) :
    gList el (eLs enc xs ++ t) wd = ((eLs enc xs).length, 0) ∧ sList step el (eLs enc xs ++ t) wd [] = xs.map vals := by
  have hL : gLen (eLs enc xs ++ t) wd = ((xs.length : Int), (en xs.length).length, 0) := by
    unfold eLs
    rw [List.append_assoc]
    refine gLen_en xs.length hn wd _ (by omega) ?_
    have := flatMap_wide C xs h
    rw [List.length_append]
    have h2 : ((xs.length * wd : Nat) : Int) ≤ ((xs.flatMap enc).length + t.length : Nat) := by omega
    simpa using h2
  have hG := gLoop_en C xs h (en xs.length) t []
  unfold gList sList
  rw [hL]
  simp only
  rw [if_neg (by simp), Int.toNat_natCast]
  unfold eLs
  rw [List.append_assoc, hG.1, hG.2]
  simp

theorem gLoop_inv (C : Codec wd enc vals valid el step) (l : List UInt8) : ∀ (n u : Nat) (s : List (List Value)), u ≤ l.length → (n * wd ≤ l.length - u ∨ wd = 1) → (gLoop el l n u).2 = 0 → (wd ≠ 1 → ∀ a, valid a → (enc a).length = wd) →
    ∃ xs : List α, xs.length = n ∧ (∀ a ∈ xs, valid a) ∧ (gLoop el l n u).1 ≤ l.length ∧ l.take (gLoop el l n u).1 = l.take u ++ xs.flatMap enc ∧ sLoop step el l n u s = s ++ xs.map vals := by
  intro n
  induction n with
  | zero => intro u s hu _ _ _; exact ⟨[], rfl, by simp, by simpa [gLoop] using hu, by simp [gLoop], by simp [sLoop]⟩
  | succ n ih =>
    intro u s hu hr h hfix
    rw [gLoop] at h ⊢
    rw [sLoop]
    by_cases he : (el (l.drop u)).2 ≠ 0
    · rw [if_pos he] at h; exact absurd h he
    · rw [if_neg he] at h ⊢
      have he0 : (el (l.drop u)).2 = 0 := by simpa using he
      obtain ⟨a, ha, hle, htake, hstep⟩ := C.inv (l.drop u) (by rcases hr with hr | hr
                                                                · left; rw [List.length_drop, Nat.add_mul] at *; omega
                                                                · exact .inr hr) he0
      rw [List.length_drop] at hle
      have hlen : (enc a).length = (el (l.drop u)).1 := by rw [← htake]; simp; omega
      obtain ⟨xs, h1, h2, h3, h4, h5⟩ := ih (u + (el (l.drop u)).1) (step s (l.drop u)) (by omega) (by
        rcases hr with hr | hr
        · by_cases hw1 : wd = 1
          · exact .inr hw1
          · left
            have := hfix hw1 a ha
            rw [Nat.add_mul] at hr
            omega
        · exact .inr hr) h hfix
      refine ⟨a :: xs, by simp [h1], by simpa [ha] using h2, h3, ?_, ?_⟩
      · rw [h4, List.take_add, htake, List.flatMap_cons, List.append_assoc]
      · rw [h5, hstep]; simp
theorem gList_inv (C : Codec wd enc vals valid el step) (hw : 1 ≤ wd) (hfix : wd ≠ 1 → ∀ a, valid a → (enc a).length = wd) (l : List UInt8) (h : (gList el l wd).2 = 0) :
    ∃ xs : List α, (∀ a ∈ xs, valid a) ∧ (gList el l wd).1 ≤ l.length ∧ l.take (gList el l wd).1 = eLs enc xs ∧ sList step el l wd [] = xs.map vals ∧ xs.length ≤ l.length := by
  unfold gList at h ⊢
  unfold sList
  by_cases he : (gLen l wd).2.2 ≠ 0
  · rw [if_pos he] at h; exact absurd h he
  · rw [if_neg he] at h ⊢
    obtain ⟨h1, h2, h3, h4⟩ := gLen_ok (by simpa using he) (by omega)
    obtain ⟨g1, g2, g3, g4, g5⟩ := gI_ok h1
    rw [h4] at h ⊢
    simp only at h ⊢
    obtain ⟨k, hk⟩ := Int.eq_ofNat_of_zero_le h2
    have hk' : (gI l).1.toNat = k := by rw [hk]; rfl
    rw [hk'] at h ⊢
    have hkw : k * wd ≤ l.length - (gI l).2.1 := by
      rw [hk] at h3
      have : ((k * wd : Nat) : Int) ≤ (l.length : Int) - ((gI l).2.1 : Int) := by simpa using h3
      omega
    obtain ⟨xs, a1, a2, a3, a4, a5⟩ := gLoop_inv C l k (gI l).2.1 [] g2 (.inl hkw) h hfix
    have hkl : k ≤ l.length := by
      have : k * 1 ≤ k * wd := Nat.mul_le_mul_left k hw
      omega
    exact ⟨xs, a2, a3, by rw [a4, g5, hk, eLs, a1], by simpa using a5, by omega⟩

theorem gLoop_cut (C : Codec wd enc vals valid el step) (hcut : ∀ a i, valid a → i < (enc a).length → (el ((enc a).take i)).2 = 3) (xs : List α) (h : ∀ a ∈ xs, valid a) : ∀ (p : List UInt8) (i : Nat), i < (xs.flatMap enc).length →
    (gLoop el (p ++ (xs.flatMap enc).take i) xs.length p.length).2 = 3 := by
  induction xs with
  | nil => intro p i hi; simp at hi
  | cons a r ih =>
    intro p i hi
    have ha := h a (by simp)
    rw [List.length_cons, gLoop, List.drop_left]
    rw [List.flatMap_cons] at hi ⊢
    by_cases hia : i < (enc a).length
    · rw [List.take_append_of_le_length (by omega)]
      have h3 := hcut a i ha hia
      rw [if_pos (by rw [h3]; omega)]
      exact h3
    · rw [List.take_append, List.take_of_length_le (by omega), C.read a _ ha]
      simp only
      rw [if_neg (by simp), ← List.append_assoc, ← List.length_append]
      rw [List.length_append] at hi
      exact ih (fun b hb => h b (by simp [hb])) _ _ (by omega)
theorem gList_cut (C : Codec wd enc vals valid el step) (hw : 1 ≤ wd) (hcut : (∀ a i, valid a → i < (enc a).length → (el ((enc a).take i)).2 = 3) ∨ (∀ a, valid a → (enc a).length = wd)) (xs : List α) (h : ∀ a ∈ xs, valid a) (hn : xs.length ≤ 9223372036854775807) (i : Nat) (hi : i < (eLs enc xs).length) :
    (gList el ((eLs enc xs).take i) wd).2 = 3 := by
  unfold eLs at hi ⊢
  by_cases hin : i < (en xs.length).length
  · rw [List.take_append_of_le_length (by omega)]
    have h3 := gLen_cut xs.length wd i hin
    unfold gList
    rw [if_pos (by rw [h3]; omega)]
    exact h3
  · rw [List.take_append, List.take_of_length_le (by omega)]
    rw [List.length_append] at hi
    by_cases hs : (((xs.flatMap enc).take (i - (en xs.length).length)).length : Int) < (xs.length : Int) * wd
    · have h3 := gLen_short xs.length hn wd _ (by omega) hs
      unfold gList
      rw [if_pos (by rw [h3]; omega)]
      exact h3
    · rcases hcut with hcut | hfix
      · unfold gList
        rw [gLen_en xs.length hn wd _ (by omega) (by omega)]
        simp only
        rw [if_neg (by simp), Int.toNat_natCast]
        exact gLoop_cut C hcut xs h _ _ (by omega)
      · exfalso
        have hall : (xs.flatMap enc).length = xs.length * wd := by
          clear hs hn hi hin
          induction xs with
          | nil => simp
          | cons a r ih =>
            have h1 := hfix a (h a (by simp))
            have h2 := ih (fun b hb => h b (by simp [hb]))
            rw [List.length_cons, List.flatMap_cons, List.length_append, Nat.add_mul]
            omega
        rw [List.length_take] at hs
        have h4 : ((xs.length * wd : Nat) : Int) = (xs.length : Int) * wd := by simp
        omega
end

/-! ## the three lists -/
theorem codecI : Codec 1 en (fun n => [.int .i64 n]) inI elI stI where
  wide := fun a _ => (en_length a).1
  read := fun a t ha => by unfold elI; rw [gI_en a ha]
  left := fun a t s ha => by unfold stI; rw [gI_en a ha]
  inv := fun r _ h => by
    obtain ⟨h1, h2, h3, h4, h5⟩ := gI_ok (l := r) h
    exact ⟨(gI r).1, h1, h2, h5, fun s => rfl⟩
theorem codecS : Codec 1 eB (fun s => [.string ⟨s.toArray⟩]) (fun s => s.length ≤ 9223372036854775807) elS stS where
  wide := fun a _ => by have := (en_length a.length).1; simp only [eB, List.length_append]; omega
  read := fun a t ha => by unfold elS; rw [gB3_en a t ha]
  left := fun a t s ha => by unfold stS; rw [gB3_en a t ha]
  inv := fun r _ h => by
    obtain ⟨h1, h2, h3, h4⟩ := gB3_inv (l := r) h
    exact ⟨(gB3 r).1, h4, h1, h3, fun s => rfl⟩
theorem codecD : Codec 16 (fun d => d) bs (fun d => d.length = 16) elD stD where
  wide := fun a h => by omega
  read := fun a t h => by unfold elD; rw [h]
  left := fun a t s h => by unfold stD; rw [← h, List.take_left]
  inv := fun r h _ => by
    have h16 : 16 ≤ r.length := by omega
    refine ⟨r.take 16, by simp; omega, h16, rfl, fun s => rfl⟩

end Go.Proofs.Ytelkekicceoaoaa
