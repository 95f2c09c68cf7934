/-
  The reference's padded message, walked.
-/
import Derived.Test.YtbgcnfikcddcpaaDoorHIn
namespace Go.Proofs.YtbgcnfikcddcpaaDoor
open Go.RowKit
open Sha
set_option linter.unusedVariables false
theorem bs_one1 (c : UInt8) : bs [c] = [.int .u8 c.toNat] := rfl
theorem pad_bytes (l : List UInt8) : padded l = (l ++ [128] ++ List.replicate (gap l.length) 0) ++ len8 l.length := by rw [padded]
theorem gap_mod (n z : Nat) (h : z ≤ gap n) : (n + 1 + z) % 64 = 56 ↔ z = gap n := by unfold gap at *; omega
theorem gap_lt (n : Nat) : gap n < 64 := by unfold gap; omega

set_option maxRecDepth 100000 in
set_option maxHeartbeats 1000000 in
theorem rpad_aux (l R : List UInt8) (hR : R = padded l) (A : Option Addr) (c : Nat) (hA : A = none → l = []) (hl : l.length ≤ 70368744177664) (w : World) (hr : Rd w A (bs l)) :
    Calls Tryd.prog 74 #[.slice A l.length c] w fun e w' => ∃ v', e = .returned v' ∧ w'.ownsRow w.heap.size 5 1 v' R.length (bs R) ∧ Below w.heap.size w w' := by
  obtain ⟨i0, hi0, hz0, hz1, hz2⟩ := info_parts Tryd.info5
  obtain ⟨L, hL⟩ : ∃ L, L = l.length := ⟨_, rfl⟩
  have hLb : L ≤ 70368744177664 := by rw [hL]; exact hl
  clear hl
  rw [← hL]
  have HL := Lib.hid hL; clear hL
  have HRR := Lib.hid hR; clear hR
  have HR := Lib.hid (And.intro hr hA); clear hr hA
  go_enter Tryd.func74, Tryd.ntmps74
  go_wp2_with (at_builtin; refine wpList_own_src rfl (.tmp 6) (.tmp 7) 58 58 rfl w.heap.size 5 i0 _ 1 1 Tryd.underlying58 hi0 hz0 hz1 hz2 rfl _ _ _ rfl (World.ownsRow_lit w #[] 0 (Nat.le_refl _) (by unfold maxLen; omega) rfl) _ L (bs l) rfl ?c0 ?c1 ?c2 ?c3 ?_)
  case c0 =>
    rw [HL.out]
    exact src_rd (l := l) Tryd.underlying58 hz1 (HR.out.1.below (below_a1 w _)) HR.out.2 c
  case c1 => unfold maxLen; omega
  case c2 => omega
  case c3 => simp
  intro v1 w1 hown1 hg1 hat1
  have HX1 : Hid (Below w.heap.size w w1 ∧ w1.ownsRow w.heap.size 5 1 v1 L (bs l)) := Lib.hid ⟨below_own (below_a1 w _) hg1 (fun g hg => by
    have := (World.ownsRow_lit (base := w.heap.size) (e := 5) (size := 1) w #[] 0 (Nat.le_refl _) (by unfold maxLen; omega) rfl).lt g hg
    exact this.1), by simpa using hown1⟩
  clear hown1 hg1 hat1
  go_wp2_with (at_builtin; refine wpList_own_src rfl (.tmp 9) (.tmp 10) 58 58 rfl w.heap.size 5 i0 _ 1 1 Tryd.underlying58 hi0 hz0 hz1 hz2 rfl _ _ _ rfl (HX1.out.2.alloc _) _ 1 [.int .u8 128] rfl (src_one Tryd.underlying58 hz1 _ _ _ rfl) ?c1 ?c2 ?c3 ?_)
  case c1 => unfold maxLen; omega
  case c2 => omega
  case c3 => have := HX1.out.1.size; simp; omega
  intro v2 w2 hown2 hg2 hat2
  have HX2 : Hid (Below w.heap.size w w2 ∧ w2.ownsRow w.heap.size 5 1 v2 (L + 1) (bs (l ++ [128]))) := Lib.hid ⟨below_own (HX1.out.1.alloc HX1.out.1.size _) hg2 (fun g hg => (HX1.out.2.lt g hg).1), by rw [bs_append]; exact hown2⟩
  clear hown2 hg2 hat2 HX1
  go_wp2_with fail
  go_loopg [3] (gap L) (fun g s3 wr => ∃ z : Nat, z + g = gap L ∧ wr.ownsRow w.heap.size 5 1 s3 (L + 1 + z) (bs (l ++ [128] ++ List.replicate z 0)) ∧ Below w.heap.size w wr)
  case atStart => exact ⟨0, by omega, by simpa using HX2.out.2, HX2.out.1⟩
  case round =>
    clear HX2
    obtain ⟨z, hz, hO, hBl⟩ := hrel
    have hgl := gap_lt L
    have hgm := gap_mod L z (by omega)
    obtain ⟨A1, c1, rfl, _, _, _⟩ := Rd.of_own hO
    have HO := Lib.hid hO; clear hO
    have HBL := Lib.hid hBl; clear hBl
    by_cases hlt : z < gap L
    · obtain ⟨g, rfl⟩ : ∃ g, gk = g + 1 := ⟨gk - 1, by omega⟩
      have d1 : (((L : Int) + 1 + (z : Int)) % 64 != 56) = true := by simp; omega
      have HZ := Lib.hid (And.intro hz hgm); clear hz hgm
      go_wp2_with (at_builtin; refine wpList_own_src rfl (.tmp 16) (.tmp 17) 58 58 rfl w.heap.size 5 i0 _ 1 1 Tryd.underlying58 hi0 hz0 hz1 hz2 rfl _ _ _ rfl (HO.out.alloc _) _ 1 [.int .u8 0] rfl (src_one Tryd.underlying58 hz1 _ _ _ rfl) ?c1 ?c2 ?c3 ?_)
      case c1 => unfold maxLen; omega
      case c2 => omega
      case c3 => have := HBL.out.size; simp; omega
      intro v3 w3 hown3 hg3 hat3
      have HX3 : Hid (Below w.heap.size w w3 ∧ w3.ownsRow w.heap.size 5 1 v3 (L + 1 + (z + 1)) (bs (l ++ [128] ++ List.replicate (z + 1) 0))) := Lib.hid ⟨below_own (HBL.out.alloc HBL.out.size _) hg3 (fun g hg => (HO.out.lt g hg).1), by
        have e : l ++ [128] ++ List.replicate (z + 1) 0 = (l ++ 128 :: List.replicate z 0) ++ [0] := by rw [List.replicate_succ']; simp
        rw [e, bs_append]; exact hown3⟩
      clear hown3 hg3 hat3
      go_wp2_with fail
      go_roundg g
      case rel => exact ⟨z + 1, by have := HZ.out.1; omega, HX3.out.2, HX3.out.1⟩
      case measure => omega
    · obtain rfl : z = gap L := by omega
      have d1 : (((L : Int) + 1 + (gap L : Int)) % 64 != 56) = false := by simp; omega
      obtain ⟨P, hP⟩ : ∃ P, P = l ++ [128] ++ List.replicate (gap L) 0 := ⟨_, rfl⟩
      have hPl : P.length = L + 1 + gap L := by rw [hP, HL.out]; simp; omega
      have hO' := HO.out
      rw [← hP] at hO'
      have HO := Lib.hid hO'
      have hRe : R = P ++ len8 L := by rw [HRR.out, pad_bytes, hP, HL.out]
      have HP := Lib.hid (And.intro hP (And.intro hPl hRe)); clear hP hRe hO'
      clear hgm
      go_wp2_with fail
      clear d1
      go_loopg [3, 5] 8 (fun g s3 s5 wr => ∃ i : Nat, i + g = 8 ∧ s5 = .int .i64 i ∧ wr.ownsRow w.heap.size 5 1 s3 (L + 1 + gap L + i) (bs (P ++ (len8 L).take i)) ∧ Below w.heap.size w wr)
      case atStart => exact ⟨0, rfl, rfl, by rw [List.take_zero, List.append_nil]; exact HO.out, HBL.out⟩
      case round =>
        clear HO HBL
        obtain ⟨i, hi, rfl, hO, hBl⟩ := hrel
        obtain ⟨A1, c1, rfl, _, _, _⟩ := Rd.of_own hO
        have HO := Lib.hid hO; clear hO
        have HBL := Lib.hid hBl; clear hBl
        by_cases hlt : i < 8
        · obtain ⟨g, rfl⟩ : ∃ g, gk = g + 1 := ⟨gk - 1, by omega⟩
          obtain ⟨sh, hsh⟩ : ∃ sh : Nat, (56 : Int) - 8 * (i : Int) = (sh : Int) := ⟨56 - 8 * i, by omega⟩
          have hshN : sh = 56 - 8 * i := by omega
          have hsh1 : sh ≤ 56 := by omega
          have HSH := Lib.hid hshN; clear hshN
          obtain ⟨x, hce⟩ : ∃ x, x = UInt8.ofNat (8 * L / 2 ^ (56 - 8 * i)) := ⟨_, rfl⟩
          have HCE := Lib.hid hce; clear hce
          have hu8 : ((8 * (L : Int)) / 2 ^ sh) % 256 = (x.toNat : Int) := by
            rw [HCE.out, ← HSH.out]
            have : (8 * (L : Int)) / 2 ^ sh = ((8 * L / 2 ^ sh : Nat) : Int) := by simp
            rw [this]
            simp
          have HU8 := Lib.hid hu8; clear hu8
          go_wp2_with (at_builtin; refine wpList_own_src rfl (.tmp 27) (.tmp 34) 58 58 rfl w.heap.size 5 i0 _ 1 1 Tryd.underlying58 hi0 hz0 hz1 hz2 rfl _ _ _ rfl (HO.out.alloc _) _ 1 [.int .u8 (8 * (L : Int) / 2 ^ sh % 256)] rfl (src_one Tryd.underlying58 hz1 _ _ _ rfl) ?c1 ?c2 ?c3 ?_)
          case c1 => unfold maxLen; omega
          case c2 => omega
          case c3 => have := HBL.out.size; simp; omega
          intro v3 w3 hown3 hg3 hat3
          have HX3 : Hid (Below w.heap.size w w3 ∧ w3.ownsRow w.heap.size 5 1 v3 (L + 1 + gap L + (i + 1)) (bs (P ++ (len8 L).take (i + 1)))) := Lib.hid ⟨below_own (HBL.out.alloc HBL.out.size _) hg3 (fun g hg => (HO.out.lt g hg).1), by
            have h8 := len8_length L
            have e1 : (len8 L)[i]'(by omega) = x := by rw [HCE.out]; simp [len8]
            rw [List.take_succ_eq_append_getElem (by omega), e1, ← List.append_assoc, bs_append, bs_one1, ← HU8.out]; exact hown3⟩
          clear hown3 hg3 hat3
          go_wp2_with fail
          go_roundg g
          case rel => exact ⟨i + 1, by omega, by go_num, HX3.out.2, HX3.out.1⟩
          case measure => omega
        · obtain rfl : i = 8 := by omega
          have hE : P ++ (len8 L).take 8 = R ∧ L + 1 + gap L + 8 = R.length := by
            have h8 := len8_length L
            rw [HP.out.2.2, List.take_of_length_le (by omega), List.length_append, h8, HP.out.2.1]
            exact ⟨rfl, rfl⟩
          have hO := HO.out
          rw [hE.1, hE.2] at hO
          have HO := Lib.hid hO; clear hO hE
          go_wp2_with fail
          go_ret
          refine ⟨_, rfl, ?_, HBL.out⟩
          have h := HO.out
          first | exact h | (have e : R.length = L + 1 + gap L + 8 := by rw [HP.out.2.2, List.length_append, len8_length, HP.out.2.1]
                             rw [e] at h ⊢; exact h)
theorem rpad_any (l : List UInt8) (A : Option Addr) (n c : Nat) (hn : n = l.length) (hA : A = none → l = []) (hl : l.length ≤ 70368744177664) (w : World) (hr : Rd w A (bs l)) :
    Calls Tryd.prog 74 #[.slice A n c] w fun e w' => ∃ v', e = .returned v' ∧ w'.ownsRow w.heap.size 5 1 v' (padded l).length (bs (padded l)) ∧ Below w.heap.size w w' := by
  subst hn
  exact rpad_aux l _ rfl A c hA hl w hr
end Go.Proofs.YtbgcnfikcddcpaaDoor
