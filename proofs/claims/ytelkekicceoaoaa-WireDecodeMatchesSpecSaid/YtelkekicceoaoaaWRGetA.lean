/-
  The reference's GetInt: every slice of bytes, the same answer as wire's.
-/
import Derived.Test.YtelkekicceoaoaaWRGet
namespace Go.Proofs.Ytelkekicceoaoaa
open Go.RowKit
set_option linter.unusedVariables false

theorem Vt_mono (neg : Bool) (t : List UInt8) (j : Nat) : ∀ i, Vt neg t j ≤ Vt neg t (j + i) := by
  intro i
  induction i with
  | zero => exact Nat.le_refl _
  | succ i ih => rw [← Nat.add_assoc, Vt]; omega
theorem gB_two (neg : Bool) (k : Nat) (t : List UInt8) (h1 : ¬ 8 < k) (h2 : ¬ t.length < k) : gB neg k t = (0, 0, 2) ∨ (gB neg k t = (if neg then -1 - (Vt neg t k : Int) else (Vt neg t k : Int), 1 + k, 0) ∧ Vt neg t k < 9223372036854775808) := by
  rw [Vt_eq neg t k (by omega)]
  unfold gB
  rw [if_neg h1, if_neg h2]
  by_cases h3 : ((t.take k).map (flip neg)).head? = some 0
  · rw [if_pos h3]; exact .inl rfl
  · rw [if_neg h3]
    by_cases h4 : 9223372036854775808 ≤ val ((t.take k).map (flip neg))
    · rw [if_pos h4]; exact .inl rfl
    · rw [if_neg h4]; exact .inr ⟨rfl, by omega⟩
theorem gB_far (neg : Bool) (k j : Nat) (t : List UInt8) (h1 : ¬ 8 < k) (h2 : ¬ t.length < k) (hj : j < k) (hV : 36028797018963967 < Vt neg t j) : gB neg k t = (0, 0, 2) := by
  rcases gB_two neg k t h1 h2 with h | ⟨_, h⟩
  · exact h
  · exfalso
    have h5 := Vt_mono neg t (j + 1) (k - (j + 1))
    rw [show j + 1 + (k - (j + 1)) = k from by omega, Vt] at h5
    omega

theorem rgetInt_any (l : List UInt8) (A : Option Addr) (c : Nat) (w : World) (hc : l.length ≤ c) (hm : c ≤ maxLen) (hr : Rd w A (bs l)) :
    Calls Try.prog 25 #[.slice A l.length c] w fun e w' => e = ret3 (gI l) ∧ Below w.heap.size w w' := by
  have hm' : c ≤ 9223372036854775807 := by unfold maxLen at hm; omega
  cases l with
  | nil => exact rget_nil A c w
  | cons h t =>
    have h255 : h.toNat < 256 := h.toNat_lt
    obtain ⟨b, o, rfl, hcell⟩ := hr.open (by simp [bs])
    have h0 : w.cell? ⟨b, o, none⟩ = some (.int .u8 h.toNat) := hcell 0 _ rfl
    have ht : ∀ j (hj : j < t.length), w.cell? ⟨b, o + 1 + j, none⟩ = some (.int .u8 t[j].toNat) := fun j hj => by
      have := hcell (1 + j) (.int .u8 t[j].toNat) (by simp [bs, by8, Nat.add_comm 1 j, hj])
      rw [← Nat.add_assoc] at this
      exact this
    have hc' : t.length + 1 ≤ c := by simpa using hc
    rw [List.length_cons]
    have key : ∀ (neg : Bool) (k : Nat), k ≤ 127 → h.toNat = (if neg then 127 - k else 128 + k) → gI (h :: t) = gB neg k t → Calls Try.prog 25 #[.slice (some ⟨b, o, none⟩) (t.length + 1) c] w fun e w' => e = ret3 (gI (h :: t)) ∧ Below w.heap.size w w' := by
      intro neg k hk hh hgi
      rw [hgi]
      have hx : w.cell? ⟨b, o, none⟩ = some (.int .u8 (if neg then 127 - (k : Int) else 128 + (k : Int))) := by
        rw [h0, hh]; cases neg <;> simp <;> omega
      have hD : ∀ j, j < k → k ≤ t.length → w.cell? ⟨b, o + 1 + j, none⟩ = some (.int .u8 (t[j]?.getD 0).toNat) := fun j hj hkt => by
        have hj' : j < t.length := by omega
        rw [ht j hj', List.getElem?_eq_getElem hj']; rfl
      have hlast : ∀ j : Nat, (t[j]?.getD 0).toNat ≤ 255 := fun j => by have := (t[j]?.getD 0).toNat_lt; omega
      by_cases h8 : 8 < k
      · have e : gB neg k t = (0, 0, 2) := by unfold gB; rw [if_pos h8]
        rw [e]
        cases neg
        · exact rget_pos_far b o c k _ w hk hc' hm' hx h8
        · exact rget_neg_far b o c k _ w hk hc' hm' hx h8
      · by_cases hn : t.length < k
        · have e : gB neg k t = (0, 0, 3) := by unfold gB; rw [if_neg h8, if_pos hn]
          rw [e]
          cases neg
          · exact rget_pos_more b o c k _ w hk hc' hm' hx (by omega) hn
          · exact rget_neg_more b o c k _ w hk hc' hm' hx (by omega) hn
        · have hT : ((h :: t).take (k + 1)).length = k + 1 := by simp; omega
          have hRT : Rd w (some ⟨b, o, none⟩) (bs ((h :: t).take (k + 1))) := by
            refine .inr ⟨b, o, rfl, fun i v hv => hcell i v ?_⟩
            rw [← bs_take, List.getElem?_take] at hv
            split at hv
            · exact hv
            · cases hv
          have hbig : ∀ j, j < k → 36028797018963967 < Vt neg t j → gB neg k t = (0, 0, 2) := fun j hj hV => gB_far neg k j t h8 hn hj hV
          have hr' : ∀ j, j < k → w.cell? ⟨b, o + 1 + j, none⟩ = some (.int .u8 (t[j]?.getD 0).toNat) := fun j hj => hD j hj (by omega)
          have hyes : ∀ nn : Int, inI nn → en nn = (h :: t).take (k + 1) → gB neg k t = (nn, k + 1, 0) := fun nn hI he => by
            have h1 := gI_en nn hI ((h :: t).drop (k + 1))
            rw [he, hT, List.take_append_drop, hgi] at h1
            exact h1
          have hno : en (if neg then -1 - (Vt neg t k : Int) else (Vt neg t k : Int)) ≠ (h :: t).take (k + 1) → gB neg k t = (0, 0, 2) := fun hne => by
            rcases gB_two neg k t h8 hn with h1 | ⟨h1, _⟩
            · exact h1
            · exfalso
              have h2 := (gI_ok (l := h :: t) (by rw [hgi, h1])).2.2.2.2
              rw [hgi, h1] at h2
              simp only at h2
              rw [Nat.add_comm 1 k] at h2
              exact hne h2.symm
          cases neg
          · exact rget_pos b o c k _ w (by omega) (by omega) hc' hm' hx (fun j => (t[j]?.getD 0).toNat) (Vt false t) hlast rfl (fun _ => rfl) hr' _ _ hT hRT hbig (fun hV he => hyes _ (by unfold inI; omega) he) (fun _ hne => hno hne)
          · exact rget_neg b o c k _ w (by omega) (by omega) hc' hm' hx (fun j => (t[j]?.getD 0).toNat) (Vt true t) hlast rfl (fun _ => rfl) hr' _ _ hT hRT hbig (fun hV he => hyes _ (by unfold inI; omega) he) (fun _ hne => hno hne)
    by_cases hlt : h.toNat < 128
    · exact key true (127 - h.toNat) (by omega) (by simp; omega) (by rw [gI_cons, if_pos hlt])
    · exact key false (h.toNat - 128) (by omega) (by simp; omega) (by rw [gI_cons, if_neg hlt])

end Go.Proofs.Ytelkekicceoaoaa
