/-
  Same, SameInts, SameTexts of slices that read as lists; SameDigests.
-/
import Derived.Test.YtelkekicceoaoaaWSame
import Derived.Deep.MidRow
import Derived.Stop.BytesEq
namespace Go.Proofs.Ytelkekicceoaoaa
open Go.RowKit
set_option linter.unusedVariables false

theorem same_rd (l : List UInt8) (A A' : Option Addr) (c c' : Nat) (w : World) (hm : l.length ≤ maxLen) (h : Rd w A (bs l)) (h' : Rd w A' (bs l)) :
    Calls Try.prog 13 #[.slice A l.length c, .slice A' l.length c'] w fun e w' => e = .returned (.bool true) ∧ ∃ m, w' = w.drewN m := by
  by_cases hl : l = []
  · subst hl
    exact (same_zero A A' c c' w).mono fun e w' ⟨h1, h2⟩ => ⟨h1, 0, h2.symm⟩
  · obtain ⟨b, o, rfl, hc⟩ := h.open (by simpa [bs] using hl)
    obtain ⟨b', o', rfl, hc'⟩ := h'.open (by simpa [bs] using hl)
    exact same_all b o b' o' l.length c c' (fun j => (l[j]?.getD 0).toNat) w hm (fun j hj => by rw [hc j _ (bs_get hj), List.getElem?_eq_getElem hj]; rfl) (fun j hj => by rw [hc' j _ (bs_get hj), List.getElem?_eq_getElem hj]; rfl)

theorem first_diff {α : Type} [DecidableEq α] : ∀ (l l' : List α), l.length = l'.length → l ≠ l' → ∃ p, p < l.length ∧ l[p]? ≠ l'[p]? ∧ ∀ j, j < p → l[j]? = l'[j]? := by
  intro l
  induction l with
  | nil => intro l' h hne; exact absurd (List.eq_nil_of_length_eq_zero h.symm).symm hne
  | cons a r ih =>
    intro l' h hne
    cases l' with
    | nil => simp at h
    | cons b r' =>
      by_cases hab : a = b
      · subst hab
        obtain ⟨p, hp, h1, h2⟩ := ih r' (by simpa using h) (fun e => hne (by rw [e]))
        refine ⟨p + 1, by simp; omega, by simpa using h1, fun j hj => ?_⟩
        cases j with
        | zero => rfl
        | succ j => simpa using h2 j (by omega)
      · exact ⟨0, by simp, by simpa using hab, fun j hj => absurd hj (by omega)⟩

theorem same_rd_ne (l l' : List UInt8) (A A' : Option Addr) (c c' : Nat) (w : World) (hm : l.length ≤ maxLen) (hne : l ≠ l') (h : Rd w A (bs l)) (h' : Rd w A' (bs l')) :
    Calls Try.prog 13 #[.slice A l.length c, .slice A' l'.length c'] w fun e w' => e = .returned (.bool false) ∧ ∃ m, w' = w.drewN m := by
  by_cases hlen : l.length = l'.length
  · obtain ⟨p, hp, h1, h2⟩ := first_diff l l' hlen hne
    have hl : l ≠ [] := by rintro rfl; simp at hp
    have hl' : l' ≠ [] := by rintro rfl; simp at hlen; exact hl hlen
    obtain ⟨b, o, rfl, hc⟩ := h.open (by simpa [bs] using hl)
    obtain ⟨b', o', rfl, hc'⟩ := h'.open (by simpa [bs] using hl')
    rw [← hlen]
    refine same_diff b o b' o' l.length c c' p (fun j => (l[j]?.getD 0).toNat) (fun j => (l'[j]?.getD 0).toNat) w hm (fun j hj => by rw [hc j _ (bs_get hj), List.getElem?_eq_getElem hj]; rfl) (fun j hj => by rw [hc' j _ (bs_get (hlen ▸ hj)), List.getElem?_eq_getElem (hlen ▸ hj)]; rfl) hp ?_ (fun j hj => by simp only [h2 j hj])
    intro e
    apply h1
    rw [List.getElem?_eq_getElem hp, List.getElem?_eq_getElem (hlen ▸ hp)] at e ⊢
    simp only [Option.getD_some] at e
    rw [UInt8.toNat_inj.1 e]
  · exact (same_len A A' l.length l'.length c c' w hlen).mono fun e w' ⟨h1, h2⟩ => ⟨h1, 0, h2.symm⟩

theorem sameInts_rd (l : List Int) (A A' : Option Addr) (c c' : Nat) (w : World) (hm : l.length ≤ maxLen) (h : Rd w A (l.map (Value.int .i64))) (h' : Rd w A' (l.map (Value.int .i64))) :
    Calls Try.prog 30 #[.slice A l.length c, .slice A' l.length c'] w fun e w' => e = .returned (.bool true) ∧ ∃ m, w' = w.drewN m := by
  by_cases hl : l = []
  · subst hl
    exact (sameInts_zero A A' c c' w).mono fun e w' ⟨h1, h2⟩ => ⟨h1, 0, h2.symm⟩
  · obtain ⟨b, o, rfl, hc⟩ := h.open (by simpa using hl)
    obtain ⟨b', o', rfl, hc'⟩ := h'.open (by simpa using hl)
    exact sameInts_all b o b' o' l.length c c' (fun j => l[j]?.getD 0) w hm (fun j hj => hc j _ (by simp [hj])) (fun j hj => hc' j _ (by simp [hj]))

theorem sameTexts_rd (l : List ByteArray) (A A' : Option Addr) (c c' : Nat) (w : World) (hm : l.length ≤ maxLen) (h : Rd w A (l.map Value.string)) (h' : Rd w A' (l.map Value.string)) :
    Calls Try.prog 33 #[.slice A l.length c, .slice A' l.length c'] w fun e w' => e = .returned (.bool true) ∧ ∃ m, w' = w.drewN m := by
  by_cases hl : l = []
  · subst hl
    exact (sameTexts_zero A A' c c' w).mono fun e w' ⟨h1, h2⟩ => ⟨h1, 0, h2.symm⟩
  · obtain ⟨b, o, rfl, hc⟩ := h.open (by simpa using hl)
    obtain ⟨b', o', rfl, hc'⟩ := h'.open (by simpa using hl)
    exact sameTexts_all b o b' o' l.length c c' (fun j => l[j]?.getD ByteArray.empty) w hm (fun j hj => hc j _ (by simp [hj])) (fun j hj => hc' j _ (by simp [hj]))

end Go.Proofs.Ytelkekicceoaoaa
