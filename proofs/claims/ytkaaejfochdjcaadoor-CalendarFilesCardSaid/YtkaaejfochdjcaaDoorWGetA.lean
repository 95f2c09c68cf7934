/-
  wire.GetInt: every slice of bytes; all ways together.
-/
import Derived.Test.YtkaaejfochdjcaaDoorWGetL
namespace Go.Proofs.YtkaaejfochdjcaaDoor
open Go.RowKit

/-! ## all ways together -/

theorem val_take (neg : Bool) (t : List UInt8) (j : Nat) (hj : j < t.length) : val ((t.take (j + 1)).map (flip neg)) = 256 * val ((t.take j).map (flip neg)) + (if neg then 255 - t[j].toNat else t[j].toNat) := by
  rw [List.take_succ_eq_append_getElem hj, List.map_append, List.map_cons, List.map_nil, val_snoc, flip_toNat]
theorem val_take_lt (neg : Bool) (t : List UInt8) (j : Nat) : val ((t.take j).map (flip neg)) < 256 ^ j := by
  have h := val_lt ((t.take j).map (flip neg))
  have hl : ((t.take j).map (flip neg)).length ≤ j := by simp; omega
  exact Nat.lt_of_lt_of_le h (Nat.pow_le_pow_right (by omega) hl)
/-- the value after j bytes, behind the list's end gone on by zeros -/
def Vt (neg : Bool) (t : List UInt8) : Nat → Nat
  | 0 => 0
  | j + 1 => 256 * Vt neg t j + (if neg then 255 - (t[j]?.getD 0).toNat else (t[j]?.getD 0).toNat)
theorem Vt_eq (neg : Bool) (t : List UInt8) : ∀ j, j ≤ t.length → Vt neg t j = val ((t.take j).map (flip neg)) := by
  intro j
  induction j with
  | zero => intro _; rfl
  | succ j ih =>
    intro h
    rw [val_take neg t j (by omega), Vt, ih (by omega)]
    simp [List.getElem?_eq_getElem (show j < t.length by omega)]

theorem getInt_any (l : List UInt8) (A : Option Addr) (c : Nat) (w : World) (hc : l.length ≤ c) (hm : c ≤ maxLen) (hr : Rd w A (bs l)) :
    Calls Tryd.prog 78 #[.slice A l.length c] w fun e w' => e = ret3 (gI l) ∧ w = w' := by
  have hm' : c ≤ 9223372036854775807 := by unfold maxLen at hm; omega
  cases l with
  | nil => exact getInt_nil A c w
  | cons h t =>
    have h255 : h.toNat < 256 := h.toNat_lt
    obtain ⟨b, o, rfl, hcell⟩ := hr.open (by simp [bs])
    have h0 : w.cell? ⟨b, o, none⟩ = some (.int .u8 h.toNat) := hcell 0 _ rfl
    have ht : ∀ j (hj : j < t.length), w.cell? ⟨b, o + 1 + j, none⟩ = some (.int .u8 t[j].toNat) := fun j hj => by
      have := hcell (1 + j) (.int .u8 t[j].toNat) (by simp [bs, by8, Nat.add_comm 1 j, hj])
      rw [← Nat.add_assoc] at this
      exact this
    have hc' : t.length + 1 ≤ c := by simpa using hc
    rw [List.length_cons]
    have key : ∀ (neg : Bool) (k : Nat), k ≤ 127 → h.toNat = (if neg then 127 - k else 128 + k) → Calls Tryd.prog 78 #[.slice (some ⟨b, o, none⟩) (t.length + 1) c] w fun e w' => e = ret3 (gB neg k t) ∧ w = w' := by
      intro neg k hk hh
      have hx : w.cell? ⟨b, o, none⟩ = some (.int .u8 (if neg then 127 - (k : Int) else 128 + (k : Int))) := by
        rw [h0, hh]; cases neg <;> simp <;> omega
      have hD : ∀ j, j < k → k ≤ t.length → w.cell? ⟨b, o + 1 + j, none⟩ = some (.int .u8 (t[j]?.getD 0).toNat) := fun j hj hkt => by
        have hj' : j < t.length := by omega
        rw [ht j hj', List.getElem?_eq_getElem hj']; rfl
      have hlast : ∀ j : Nat, (t[j]?.getD 0).toNat ≤ 255 := fun j => by have := (t[j]?.getD 0).toNat_lt; omega
      by_cases h8 : 8 < k
      · have e : gB neg k t = (0, 0, 2) := by unfold gB; rw [if_pos h8]
        rw [e]
        cases neg
        · exact getInt_pos_far b o c k _ w hk hc' hm' hx h8
        · exact getInt_neg_far b o c k _ w hk hc' hm' hx h8
      · by_cases hn : t.length < k
        · have e : gB neg k t = (0, 0, 3) := by unfold gB; rw [if_neg h8, if_pos hn]
          rw [e]
          cases neg
          · exact getInt_pos_more b o c k _ w hk hc' hm' hx (by omega) hn
          · exact getInt_neg_more b o c k _ w hk hc' hm' hx (by omega) hn
        · rcases Nat.eq_zero_or_pos k with hk0 | hk0
          · have e : gB neg k t = (if neg then -1 else 0, 1, 0) := by subst hk0; unfold gB; cases neg <;> simp [val]
            rw [e]
            cases neg
            · exact getInt_pos_zero b o c k _ w hk hc' hm' hx (by omega)
            · exact getInt_neg_zero b o c k _ w hk hc' hm' hx (by omega)
          · have h1 : w.cell? ⟨b, o + 1, none⟩ = some (.int .u8 (t[0]?.getD 0).toNat) := hD 0 hk0 (by omega)
            have hhead : ((t.take k).map (flip neg)).head? = some (flip neg (t[0]?.getD 0)) := by
              cases t with
              | nil => simp at hn; omega
              | cons a r =>
                obtain ⟨k', rfl⟩ : ∃ k', k = k' + 1 := ⟨k - 1, by omega⟩
                rfl
            by_cases hz : flip neg (t[0]?.getD 0) = 0
            · have e : gB neg k t = (0, 0, 2) := by unfold gB; rw [if_neg h8, if_neg hn, if_pos (by rw [hhead, hz])]
              rw [e]
              have hz' : (t[0]?.getD 0).toNat = if neg then 255 else 0 := by
                have e9 := congrArg UInt8.toNat hz
                rw [flip_toNat] at e9
                have h9 := hlast 0
                generalize (t[0]?.getD 0).toNat = z at e9 h9 ⊢
                cases neg
                · simpa using e9
                · have : 255 - z = 0 := by simpa using e9
                  show z = 255
                  omega
              rw [hz'] at h1
              cases neg
              · exact getInt_pos_lead b o c k _ w hk hc' hm' hx (by omega) (by omega) hk0 h1
              · exact getInt_neg_lead b o c k _ w hk hc' hm' hx (by omega) (by omega) hk0 h1
            · have hzz : ((((t[0]?.getD 0).toNat : Nat) : Int) == (if neg then 255 else 0)) = false := by
                rw [beq_eq_false_iff_ne]
                intro e
                apply hz
                apply UInt8.toNat_inj.1
                rw [flip_toNat]
                cases neg <;> simp at e ⊢ <;> omega
              have hV := Vt_eq neg t k (by omega)
              have hb : ∀ j, j < k → Vt neg t j < 72057594037927936 := fun j hj => by
                rw [Vt_eq neg t j (by omega)]
                exact Nat.lt_of_lt_of_le (val_take_lt neg t j) (Nat.le_trans (Nat.pow_le_pow_right (n := 256) (by omega) (show j ≤ 7 by omega)) (by decide))
              have h64 : Vt neg t k < 18446744073709551616 := by
                rw [hV]
                exact Nat.lt_of_lt_of_le (val_take_lt neg t k) (Nat.le_trans (Nat.pow_le_pow_right (n := 256) (by omega) (show k ≤ 8 by omega)) (by decide))
              have hr' : ∀ j, j < k → w.cell? ⟨b, o + 1 + j, none⟩ = some (.int .u8 (t[j]?.getD 0).toNat) := fun j hj => hD j hj (by omega)
              by_cases hbig : 9223372036854775808 ≤ Vt neg t k
              · have e : gB neg k t = (0, 0, 2) := by unfold gB; rw [if_neg h8, if_neg hn, if_neg (by rw [hhead]; simpa using hz), if_pos (by rw [← hV]; exact hbig)]
                rw [e]
                cases neg
                · exact getInt_pos_big b o c k _ w hk hc' hm' hx (fun j => (t[j]?.getD 0).toNat) (Vt false t) hlast rfl (fun _ => rfl) hb (by omega) (by omega) hk0 hzz hr' ⟨hbig, h64⟩
                · exact getInt_neg_big b o c k _ w hk hc' hm' hx (fun j => (t[j]?.getD 0).toNat) (Vt true t) hlast rfl (fun _ => rfl) hb (by omega) (by omega) hk0 hzz hr' ⟨hbig, h64⟩
              · have e : gB neg k t = (if neg then -1 - (Vt neg t k : Int) else (Vt neg t k : Int), 1 + k, 0) := by
                  unfold gB; rw [if_neg h8, if_neg hn, if_neg (by rw [hhead]; simpa using hz), if_neg (by rw [← hV]; exact hbig), hV]
                rw [e]
                cases neg
                · exact getInt_pos_ok b o c k _ w hk hc' hm' hx (fun j => (t[j]?.getD 0).toNat) (Vt false t) hlast rfl (fun _ => rfl) hb (by omega) (by omega) hk0 hzz hr' (by omega)
                · exact getInt_neg_ok b o c k _ w hk hc' hm' hx (fun j => (t[j]?.getD 0).toNat) (Vt true t) hlast rfl (fun _ => rfl) hb (by omega) (by omega) hk0 hzz hr' (by omega)
    rw [gI_cons]
    by_cases hlt : h.toNat < 128
    · rw [if_pos hlt]
      exact key true _ (by omega) (by simp; omega)
    · rw [if_neg hlt]
      exact key false _ (by omega) (by simp; omega)

end Go.Proofs.YtkaaejfochdjcaaDoor
