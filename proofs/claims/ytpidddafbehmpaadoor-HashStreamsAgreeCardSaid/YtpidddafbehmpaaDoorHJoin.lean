/-
  The reference's Joined, walked.
-/
import Derived.Test.YtpidddafbehmpaaDoorHIn
namespace Go.Proofs.YtpidddafbehmpaaDoor
open Go.RowKit
open Sha
set_option linter.unusedVariables false
theorem sb_append (a b : List UInt8) : sb a ++ sb b = sb (a ++ b) := by
  apply ByteArray.ext
  apply Array.ext'
  simp [sb]
theorem join_le (l : List (List UInt8)) (h : ∀ p ∈ l, p.length ≤ 400) : l.flatten.length ≤ 400 * l.length := by
  induction l with
  | nil => simp
  | cons a r ih =>
    have h2 := h a (by simp)
    have h3 := ih fun p hp => h p (by simp [hp])
    simp only [List.flatten_cons, List.length_append, List.length_cons]
    omega
set_option maxHeartbeats 400000 in
theorem joined_any (l : List (List UInt8)) (A : Option Addr) (n c : Nat) (hn : n = l.length) (hl : l.length ≤ 12) (hp : ∀ p ∈ l, p.length ≤ 400) (w : World) (hr : Rd w A (l.map fun p => .string (sb p))) :
    Calls Tryd.prog 16 #[.slice A n c] w fun e w' => e = .returned (.string (sb l.flatten)) ∧ w = w' := by
  subst hn
  have HR := Lib.hid hr; clear hr
  obtain ⟨J, hJ⟩ : ∃ J, J = l.flatten := ⟨_, rfl⟩
  rw [← hJ]
  have HJ := Lib.hid hJ; clear hJ
  have HP := Lib.hid hp; clear hp
  go_enter Tryd.func16, Tryd.ntmps16
  go_wp2_with fail
  go_loopg [3, 4] l.length (fun g s3 s4 wr => ∃ j : Nat, j + g = l.length ∧ s4 = .int .i64 j ∧ wr = w ∧ s3 = .string (sb (l.take j).flatten))
  case atStart => exact ⟨0, by omega, rfl, rfl, rfl⟩
  case round =>
    obtain ⟨j, hj, rfl, rfl, rfl⟩ := hrel
    obtain ⟨Q, hQ⟩ : ∃ Q, Q = (l.take j).flatten := ⟨_, rfl⟩
    rw [← hQ]
    have HQ := Lib.hid hQ; clear hQ
    by_cases hlt : j < l.length
    · obtain ⟨g, rfl⟩ : ∃ g, gk = g + 1 := ⟨gk - 1, by omega⟩
      obtain ⟨b, o, rfl, hcell⟩ := strs_cell HR.out j hlt
      obtain ⟨p, hpe⟩ : ∃ p, p = l[j] := ⟨_, rfl⟩
      rw [← hpe] at hcell
      have hsa := sb_append Q p
      have hsz := sb_size Q
      have hsp := sb_size p
      have hpl : p.length ≤ 400 := HP.out p (by rw [hpe]; simp)
      have hQl : Q.length ≤ 4800 := by
        have := join_le (l.take j) fun p hp => HP.out p (List.mem_of_mem_take hp)
        rw [HQ.out]
        rw [List.length_take] at this
        omega
      have HN : Hid (Q ++ p = (l.take (j + 1)).flatten) := Lib.hid (by rw [List.take_succ_eq_append_getElem hlt, List.flatten_append, HQ.out, hpe]; simp)
      clear hpe
      go_wp2_with fail
      go_roundg g
      case rel => exact ⟨j + 1, by omega, by go_num, rfl, by rw [← HN.out]⟩
      case measure => omega
    · obtain rfl : j = l.length := by omega
      have HE : Hid (J = Q) := Lib.hid (by rw [HJ.out, HQ.out, List.take_length])
      go_wp2_with fail
      go_ret
      exact ⟨by rw [HE.out]; rfl, rfl⟩
end Go.Proofs.YtpidddafbehmpaaDoor
