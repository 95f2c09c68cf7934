/-
  The walks of the reference's Bytes32 and Text.
-/
import Derived.Test.YtbgcnfikcddcpaaDoorHEq
namespace Go.Proofs.YtbgcnfikcddcpaaDoor
open Go.RowKit
open Sha
set_option linter.unusedVariables false

set_option maxRecDepth 100000 in
set_option maxHeartbeats 1000000 in
theorem b32_any (l : List UInt8) (hl : l.length = 32) (w : World) :
    Calls Tryd.prog 70 #[.agg (bs l).toArray] w fun e w' => e = .returned (.string (sb l)) ∧ Below w.heap.size w w' := by
  obtain ⟨i0, hi0, hz0, hz1, hz2⟩ := info_parts Tryd.info5
  have HB0 := Lib.hid (Blk.new w (bs l) 98)
  have HL := Lib.hid hl; clear hl
  go_enter Tryd.func70, Tryd.ntmps70
  go_wp2_with fail
  go_loopg [3, 4] 32 (fun g s3 s4 wr => ∃ i : Nat, i + g = 32 ∧ s4 = .int .i64 i ∧ Blk wr w.heap.size (bs l) 98 ∧ wr.ownsRow (w.heap.size + 1) 5 1 s3 i (bs (l.take i)) ∧ Below w.heap.size w wr)
  case atStart => exact ⟨0, rfl, rfl, HB0.out, ⟨rfl, .inl ⟨rfl, rfl⟩⟩, below_a1 _ _⟩
  case round =>
    clear HB0
    obtain ⟨i, hi, rfl, hB, hO, hBl⟩ := hrel
    by_cases hlt : i < 32
    · obtain ⟨g, rfl⟩ : ∃ g, gk = g + 1 := ⟨gk - 1, by omega⟩
      have hc := hB.cell (bs_getD l i (by rw [HL.out]; exact hlt))
      obtain ⟨x, hx⟩ : ∃ x, x = l.getD i 0 := ⟨_, rfl⟩
      rw [← hx] at hc
      have HX := Lib.hid hx; clear hx
      have hsz : w.heap.size + 1 ≤ wr.heap.size := hB.lt
      have HB := Lib.hid hB; clear hB
      have HBL := Lib.hid hBl; clear hBl
      have HO := Lib.hid hO; clear hO
      go_wp2_with (at_builtin; refine wpList_own_src rfl (.tmp 9) (.tmp 13) 58 58 rfl (w.heap.size + 1) 5 i0 _ 1 1 Tryd.underlying58 hi0 hz0 hz1 hz2 rfl _ _ _ rfl (HO.out.alloc _) _ 1 [.int .u8 x.toNat] rfl (src_one Tryd.underlying58 hz1 _ _ _ rfl) ?c1 ?c2 ?c3 ?_)
      case c1 => unfold maxLen; omega
      case c2 => omega
      case c3 => simp; omega
      intro v1 w1 hown1 hg1 hb1
      have HN : Hid (Blk w1 w.heap.size (bs l) 98 ∧ w1.ownsRow (w.heap.size + 1) 5 1 v1 (i + 1) (bs (l.take (i + 1))) ∧ Below w.heap.size w w1) := Lib.hid (by
        have hne := fun g hg => (HO.out.lt g hg).1
        refine ⟨?_, ?_, ((HBL.out.alloc HBL.out.size _).grown hg1 (by simp; omega) (fun g hg => by have := hne g hg; omega))⟩
        · exact (hg1.block w.heap.size (by simp; omega) (fun e => by have := hne _ e.symm; omega)).trans (HB.out.alloc _)
        · have e : bs (l.take (i + 1)) = bs (l.take i) ++ [.int .u8 x.toNat] := by
            rw [List.take_succ_eq_append_getElem (by rw [HL.out]; exact hlt), bs_append, HX.out]
            have : i < l.length := by rw [HL.out]; exact hlt
            simp [bs, by8, List.getD, this]
          rw [e]
          exact hown1)
      clear hown1 hg1 hb1
      go_wp2_with fail
      go_roundg g
      case rel => exact ⟨i + 1, by omega, by go_num, HN.out.1, HN.out.2.1, HN.out.2.2⟩
      case measure => omega
    · obtain rfl : i = 32 := by omega
      obtain ⟨A, c, rfl, hrd, hc, hm⟩ := Rd.of_own hO
      rw [show l.take 32 = l from List.take_of_length_le (by rw [HL.out]; exact Nat.le_refl _)] at hrd
      have hcv := conv_sb (A := A) (l := l) (n := 32) (w := wr) c HL.out.symm hrd
      have HBL := Lib.hid hBl; clear hBl
      clear hrd hO hB hc hm
      go_wp2_with fail
      go_ret
      exact ⟨rfl, HBL.out⟩

set_option maxRecDepth 100000 in
set_option maxHeartbeats 1000000 in
theorem text_any (l : List UInt8) (hl : l.length = 16) (w : World) :
    Calls Tryd.prog 37 #[.agg (bs l).toArray] w fun e w' => e = .returned (.string (sb l)) ∧ Below w.heap.size w w' := by
  obtain ⟨i0, hi0, hz0, hz1, hz2⟩ := info_parts Tryd.info5
  have HB0 := Lib.hid (Blk.new w (bs l) 23)
  have HL := Lib.hid hl; clear hl
  go_enter Tryd.func37, Tryd.ntmps37
  go_wp2_with fail
  go_loopg [3, 4] 16 (fun g s3 s4 wr => ∃ i : Nat, i + g = 16 ∧ s4 = .int .i64 i ∧ Blk wr w.heap.size (bs l) 23 ∧ wr.ownsRow (w.heap.size + 1) 5 1 s3 i (bs (l.take i)) ∧ Below w.heap.size w wr)
  case atStart => exact ⟨0, rfl, rfl, HB0.out, ⟨rfl, .inl ⟨rfl, rfl⟩⟩, below_a1 _ _⟩
  case round =>
    clear HB0
    obtain ⟨i, hi, rfl, hB, hO, hBl⟩ := hrel
    by_cases hlt : i < 16
    · obtain ⟨g, rfl⟩ : ∃ g, gk = g + 1 := ⟨gk - 1, by omega⟩
      have hc := hB.cell (bs_getD l i (by rw [HL.out]; exact hlt))
      obtain ⟨x, hx⟩ : ∃ x, x = l.getD i 0 := ⟨_, rfl⟩
      rw [← hx] at hc
      have HX := Lib.hid hx; clear hx
      have hsz : w.heap.size + 1 ≤ wr.heap.size := hB.lt
      have HB := Lib.hid hB; clear hB
      have HBL := Lib.hid hBl; clear hBl
      have HO := Lib.hid hO; clear hO
      go_wp2_with (at_builtin; refine wpList_own_src rfl (.tmp 9) (.tmp 13) 58 58 rfl (w.heap.size + 1) 5 i0 _ 1 1 Tryd.underlying58 hi0 hz0 hz1 hz2 rfl _ _ _ rfl (HO.out.alloc _) _ 1 [.int .u8 x.toNat] rfl (src_one Tryd.underlying58 hz1 _ _ _ rfl) ?c1 ?c2 ?c3 ?_)
      case c1 => unfold maxLen; omega
      case c2 => omega
      case c3 => simp; omega
      intro v1 w1 hown1 hg1 hb1
      have HN : Hid (Blk w1 w.heap.size (bs l) 23 ∧ w1.ownsRow (w.heap.size + 1) 5 1 v1 (i + 1) (bs (l.take (i + 1))) ∧ Below w.heap.size w w1) := Lib.hid (by
        have hne := fun g hg => (HO.out.lt g hg).1
        refine ⟨?_, ?_, ((HBL.out.alloc HBL.out.size _).grown hg1 (by simp; omega) (fun g hg => by have := hne g hg; omega))⟩
        · exact (hg1.block w.heap.size (by simp; omega) (fun e => by have := hne _ e.symm; omega)).trans (HB.out.alloc _)
        · have e : bs (l.take (i + 1)) = bs (l.take i) ++ [.int .u8 x.toNat] := by
            rw [List.take_succ_eq_append_getElem (by rw [HL.out]; exact hlt), bs_append, HX.out]
            have : i < l.length := by rw [HL.out]; exact hlt
            simp [bs, by8, List.getD, this]
          rw [e]
          exact hown1)
      clear hown1 hg1 hb1
      go_wp2_with fail
      go_roundg g
      case rel => exact ⟨i + 1, by omega, by go_num, HN.out.1, HN.out.2.1, HN.out.2.2⟩
      case measure => omega
    · obtain rfl : i = 16 := by omega
      obtain ⟨A, c, rfl, hrd, hc, hm⟩ := Rd.of_own hO
      rw [show l.take 16 = l from List.take_of_length_le (by rw [HL.out]; exact Nat.le_refl _)] at hrd
      have hcv := conv_sb (A := A) (l := l) (n := 16) (w := wr) c HL.out.symm hrd
      have HBL := Lib.hid hBl; clear hBl
      clear hrd hO hB hc hm
      go_wp2_with fail
      go_ret
      exact ⟨rfl, HBL.out⟩
end Go.Proofs.YtbgcnfikcddcpaaDoor
