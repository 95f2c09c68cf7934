/-
  The input of a digest tells its tag and its parts.
-/
import Derived.Test.YtpidddafbehmpaaDoorHIn
namespace Go.Proofs.YtpidddafbehmpaaDoor
open Sha
theorem en_split {n m : Int} {s t : List UInt8} (hn : inI n) (hm : inI m) (h : en n ++ s = en m ++ t) : n = m ∧ s = t := by
  have h1 := gI_en n hn s
  rw [h, gI_en m hm t] at h1
  have e : m = n := congrArg Prod.fst h1
  subst e
  exact ⟨rfl, List.append_cancel_left h⟩
theorem eB_split {p q X Y : List UInt8} (hp : p.length ≤ 400) (hq : q.length ≤ 400) (h : eB p ++ X = eB q ++ Y) : p = q ∧ X = Y := by
  unfold eB at h
  rw [List.append_assoc, List.append_assoc] at h
  obtain ⟨h1, h2⟩ := en_split (inI_nat _ (by omega)) (inI_nat _ (by omega)) h
  have hl : p.length = q.length := by omega
  exact ⟨List.append_inj_left h2 hl, List.append_inj_right h2 hl⟩
theorem flat_inj : ∀ (a b : List (List UInt8)), (∀ p ∈ a, p.length ≤ 400) → (∀ p ∈ b, p.length ≤ 400) → a.flatMap eB = b.flatMap eB → a = b := by
  intro a
  have pos : ∀ p : List UInt8, 0 < (eB p).length := fun p => by have := (en_length (p.length : Int)).1; simp only [eB, List.length_append]; omega
  induction a with
  | nil =>
    intro b _ _ h
    cases b with
    | nil => rfl
    | cons q r =>
      have := congrArg List.length h
      have hq := pos q
      simp only [List.flatMap_nil, List.flatMap_cons, List.length_append, List.length_nil] at this
      omega
  | cons p r ih =>
    intro b ha hb h
    cases b with
    | nil =>
      have := congrArg List.length h
      have hq := pos p
      simp only [List.flatMap_nil, List.flatMap_cons, List.length_append, List.length_nil] at this
      omega
    | cons q r' =>
      rw [List.flatMap_cons, List.flatMap_cons] at h
      obtain ⟨h1, h2⟩ := eB_split (ha p (by simp)) (hb q (by simp)) h
      rw [h1, ih r' (fun x hx => ha x (by simp [hx])) (fun x hx => hb x (by simp [hx])) h2]
theorem input_inj (x y : UInt8) (a b : List (List UInt8)) (ha : fewB a = true) (hb : fewB b = true) (h : input (x.toNat : Int) a = input (y.toNat : Int) b) : x = y ∧ a = b := by
  rw [input, input] at h
  injection h with h1 h2
  refine ⟨?_, flat_inj a b (few_length ha).2 (few_length hb).2 h2⟩
  have e1 := tagb_toNat (x.toNat : Int)
  have e2 := tagb_toNat (y.toNat : Int)
  rw [h1] at e1
  have hx := x.toNat_lt
  have hy := y.toNat_lt
  exact UInt8.toNat_inj.1 (by omega)
end Go.Proofs.YtpidddafbehmpaaDoor
