/-
  The walk of the reference's SameDigests, where both lists are the same.
-/
import Derived.Test.YtelkekicceoaoaaWSame2
import Derived.Test.YtelkekicceoaoaaWEnc2
import Derived.Test.YtelkekicceoaoaaWGetD
namespace Go.Proofs.Ytelkekicceoaoaa
open Go.RowKit
set_option linter.unusedVariables false

theorem range16 (l : List (List UInt8)) (hl : ∀ d ∈ l, d.length = 16) (w : World) (b o j : Nat) (x : List UInt8) (hx : l[j]? = some x) (hc : ∀ k v, (bs l.flatten)[k]? = some v → w.cell? ⟨b, o + k, none⟩ = some v) : w.rangeAt b (o + j * 16) (bs x) := fun i v hv => by
  obtain ⟨c, hc1, rfl⟩ : ∃ c, x[i]? = some c ∧ by8 c = v := by simpa [bs] using hv
  have h0 := hc (j * 16 + i) (by8 c) (by unfold bs; rw [List.getElem?_map, flat16 l hl j x hx i c hc1]; rfl)
  rw [← Nat.add_assoc] at h0
  exact h0

set_option maxHeartbeats 400000 in
theorem sameD_zero (A A' : Option Addr) (c c' : Nat) (w : World) : Calls Try.prog 36 #[.slice A 0 c, .slice A' 0 c'] w fun e w' => e = .returned (.bool true) ∧ w = w' := by
  go_enter Try.func36, Try.ntmps36
  go_wp2
  refine wp_loop_rounds 1 ?_
  rw [rounds_succ]
  go_wp2
  go_ret
  exact ⟨rfl, rfl⟩

set_option maxHeartbeats 400000 in
theorem sameD_all (l : List (List UInt8)) (hl : ∀ d ∈ l, d.length = 16) (b o b' o' c c' : Nat) (w : World) (hn : l.length ≤ maxLen) (hc : ∀ k v, (bs l.flatten)[k]? = some v → w.cell? ⟨b, o + k, none⟩ = some v) (hc' : ∀ k v, (bs l.flatten)[k]? = some v → w.cell? ⟨b', o' + k, none⟩ = some v) :
    Calls Try.prog 36 #[.slice (some ⟨b, o, none⟩) l.length c, .slice (some ⟨b', o', none⟩) l.length c'] w fun e w' => e = .returned (.bool true) ∧ ∃ m, w' = w.drewN m := by
  unfold maxLen at hn
  have H1 := Lib.hid hc; clear hc
  have H2 := Lib.hid hc'; clear hc'
  have HL := Lib.hid hl; clear hl
  go_enter Try.func36, Try.ntmps36
  go_wp2
  go_loopw [5] (fun i wr => ∃ j m : Nat, j ≤ l.length ∧ i = .int .i64 j ∧ wr = w.drewN m) (fun i _ => l.length - (intOf i).toNat)
  case atStart => exact ⟨0, 0, by omega, rfl, rfl⟩
  case round =>
    obtain ⟨j, m, hj, rfl, rfl⟩ := hrel
    by_cases hlt : j < l.length
    · obtain ⟨x, hx⟩ : ∃ x, l[j]? = some x := ⟨_, List.getElem?_eq_getElem hlt⟩
      have h16 : x.length = 16 := HL.out x (List.mem_of_getElem? hx)
      have r1 := range16 l HL.out w b o j x hx H1.out
      have r2 := range16 l HL.out w b' o' j x hx H2.out
      have heq : ∀ W : World, (Op.equalIn 10000 57 (.agg (bs x).toArray) (.agg (bs x).toArray)).run Try.prog W = .ok true W := fun W => by
        have h := run_equalIn_bytes (P := Try.prog) W 9998 57 5 16 Try.underlying57 Try.underlying5 (fun W => by kernel_rfl) x x h16 h16
        rw [beq_self_eq_true] at h
        exact h
      have hX16 : (bs x).length = 16 := by rw [bs_length]; exact h16
      generalize bs x = X at r1 r2 hX16 heq
      clear h16 hx
      obtain ⟨x0, x1, x2, x3, x4, x5, x6, x7, x8, x9, x10, x11, x12, x13, x14, x15, rfl⟩ := list16 X hX16
      have hc0 : w.cell? ⟨b, o + j * 16, none⟩ = some x0 := r1 0 _ rfl
      have hc1 : w.cell? ⟨b, o + j * 16 + 1, none⟩ = some x1 := r1 1 _ rfl
      have hc2 : w.cell? ⟨b, o + j * 16 + 2, none⟩ = some x2 := r1 2 _ rfl
      have hc3 : w.cell? ⟨b, o + j * 16 + 3, none⟩ = some x3 := r1 3 _ rfl
      have hc4 : w.cell? ⟨b, o + j * 16 + 4, none⟩ = some x4 := r1 4 _ rfl
      have hc5 : w.cell? ⟨b, o + j * 16 + 5, none⟩ = some x5 := r1 5 _ rfl
      have hc6 : w.cell? ⟨b, o + j * 16 + 6, none⟩ = some x6 := r1 6 _ rfl
      have hc7 : w.cell? ⟨b, o + j * 16 + 7, none⟩ = some x7 := r1 7 _ rfl
      have hc8 : w.cell? ⟨b, o + j * 16 + 8, none⟩ = some x8 := r1 8 _ rfl
      have hc9 : w.cell? ⟨b, o + j * 16 + 9, none⟩ = some x9 := r1 9 _ rfl
      have hc10 : w.cell? ⟨b, o + j * 16 + 10, none⟩ = some x10 := r1 10 _ rfl
      have hc11 : w.cell? ⟨b, o + j * 16 + 11, none⟩ = some x11 := r1 11 _ rfl
      have hc12 : w.cell? ⟨b, o + j * 16 + 12, none⟩ = some x12 := r1 12 _ rfl
      have hc13 : w.cell? ⟨b, o + j * 16 + 13, none⟩ = some x13 := r1 13 _ rfl
      have hc14 : w.cell? ⟨b, o + j * 16 + 14, none⟩ = some x14 := r1 14 _ rfl
      have hc15 : w.cell? ⟨b, o + j * 16 + 15, none⟩ = some x15 := r1 15 _ rfl
      have hd0 : w.cell? ⟨b', o' + j * 16, none⟩ = some x0 := r2 0 _ rfl
      have hd1 : w.cell? ⟨b', o' + j * 16 + 1, none⟩ = some x1 := r2 1 _ rfl
      have hd2 : w.cell? ⟨b', o' + j * 16 + 2, none⟩ = some x2 := r2 2 _ rfl
      have hd3 : w.cell? ⟨b', o' + j * 16 + 3, none⟩ = some x3 := r2 3 _ rfl
      have hd4 : w.cell? ⟨b', o' + j * 16 + 4, none⟩ = some x4 := r2 4 _ rfl
      have hd5 : w.cell? ⟨b', o' + j * 16 + 5, none⟩ = some x5 := r2 5 _ rfl
      have hd6 : w.cell? ⟨b', o' + j * 16 + 6, none⟩ = some x6 := r2 6 _ rfl
      have hd7 : w.cell? ⟨b', o' + j * 16 + 7, none⟩ = some x7 := r2 7 _ rfl
      have hd8 : w.cell? ⟨b', o' + j * 16 + 8, none⟩ = some x8 := r2 8 _ rfl
      have hd9 : w.cell? ⟨b', o' + j * 16 + 9, none⟩ = some x9 := r2 9 _ rfl
      have hd10 : w.cell? ⟨b', o' + j * 16 + 10, none⟩ = some x10 := r2 10 _ rfl
      have hd11 : w.cell? ⟨b', o' + j * 16 + 11, none⟩ = some x11 := r2 11 _ rfl
      have hd12 : w.cell? ⟨b', o' + j * 16 + 12, none⟩ = some x12 := r2 12 _ rfl
      have hd13 : w.cell? ⟨b', o' + j * 16 + 13, none⟩ = some x13 := r2 13 _ rfl
      have hd14 : w.cell? ⟨b', o' + j * 16 + 14, none⟩ = some x14 := r2 14 _ rfl
      have hd15 : w.cell? ⟨b', o' + j * 16 + 15, none⟩ = some x15 := r2 15 _ rfl
      clear r1 r2
      go_wp2
      go_quiet (fail)
      go_wp2
      go_roundw
      case rel => exact ⟨j + 1, _, by omega, by go_num, rfl⟩
      case measure => simp [intOf]; omega
    · go_wp2
      go_ret
      exact ⟨rfl, _, rfl⟩

theorem sameD_rd (l : List (List UInt8)) (hl : ∀ d ∈ l, d.length = 16) (A A' : Option Addr) (c c' : Nat) (w : World) (hm : l.length ≤ maxLen) (h : Rd w A (bs l.flatten)) (h' : Rd w A' (bs l.flatten)) :
    Calls Try.prog 36 #[.slice A l.length c, .slice A' l.length c'] w fun e w' => e = .returned (.bool true) ∧ ∃ m, w' = w.drewN m := by
  by_cases hn : l = []
  · subst hn
    exact (sameD_zero A A' c c' w).mono fun e w' ⟨h1, h2⟩ => ⟨h1, 0, h2.symm⟩
  · have hne : bs l.flatten ≠ [] := by
      obtain ⟨x, r, rfl⟩ : ∃ x r, l = x :: r := by cases l with
        | nil => exact absurd rfl hn
        | cons x r => exact ⟨x, r, rfl⟩
      have h1 := hl x (by simp)
      intro e
      have := congrArg List.length e
      rw [bs_length, List.flatten_cons, List.length_append, List.length_nil] at this
      omega
    obtain ⟨b, o, rfl, hc⟩ := h.open hne
    obtain ⟨b', o', rfl, hc'⟩ := h'.open hne
    exact sameD_all l hl b o b' o' c c' w hm hc hc'

end Go.Proofs.Ytelkekicceoaoaa
