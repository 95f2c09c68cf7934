/-
  The reference's Short and Of, walked.
-/
import Derived.Test.YtbgcnfikcddcpaaDoorHRSum
namespace Go.Proofs.YtbgcnfikcddcpaaDoor
open Go.RowKit
open Sha
set_option linter.unusedVariables false
namespace Sha
/-- The first i bytes are copied. -/
def cp16 (i : Nat) (R : List UInt8) : List UInt8 := R.take i ++ List.replicate (16 - i) 0
theorem cp16_length (i : Nat) (R : List UInt8) (hR : R.length = 32) (hi : i ≤ 16) : (cp16 i R).length = 16 := by simp [cp16]; omega
theorem cp16_set (i : Nat) (R : List UInt8) (hR : R.length = 32) (hi : i < 16) : (cp16 i R).set i (R.getD i 0) = cp16 (i + 1) R := by
  have e : 16 - i = (16 - (i + 1)) + 1 := by omega
  have e2 : R.getD i 0 = R[i]'(by omega) := by simp [List.getD, (by omega : i < R.length)]
  unfold cp16
  rw [List.set_append_right _ _ (by simp; omega), e, List.replicate_succ, List.take_succ_eq_append_getElem (by omega : i < R.length), e2]
  have e3 : i - (R.take i).length = 0 := by simp; omega
  rw [e3, List.set_cons_zero, List.append_assoc]
  rfl
theorem cp16_all (R : List UInt8) : cp16 16 R = R.take 16 := by simp [cp16]
theorem cp16_zero (R : List UInt8) : cp16 0 R = List.replicate 16 0 := by simp [cp16]
attribute [irreducible] cp16
end Sha
open Sha
def SI3 (w : World) (M1 M2 : Nat) (R : List UInt8) (i : Nat) (wr : World) : Prop := Blk wr w.heap.size (bs (List.replicate 16 0)) 23 ∧ Blk wr M1 (bs R) 98 ∧ Blk wr M2 (bs (cp16 i R)) 23 ∧ w.heap.size < M1 ∧ M1 < M2 ∧ Below w.heap.size w wr

set_option maxRecDepth 100000 in
set_option maxHeartbeats 1000000 in
theorem rshort_aux (m R D : List UInt8) (hR : R = sha m) (hD : D = R.take 16) (A : Option Addr) (c : Nat) (hA : A = none → m = []) (hl : m.length ≤ 1099511627776) (w : World) (hr : Rd w A (bs m)) (hK : KR w) :
    Calls Tryd.prog 62 #[.slice A m.length c] w fun e w' => e = .returned (.agg (bs D).toArray) ∧ Below w.heap.size w w' := by
  have hRl : R.length = 32 := by rw [hR, sha_length]
  have HS : Hid (∀ W, Rd W A (bs m) → KR W → Calls Tryd.prog 71 #[.slice A m.length c] W fun e w' => e = .returned (.agg (bs R).toArray) ∧ Below W.heap.size W w') := Lib.hid fun W h hk => by rw [hR]; exact rsum_any m A _ c rfl hA hl W h hk
  have HRL : Hid (R.length = 32 ∧ (bs R).length = 32) := Lib.hid ⟨hRl, by rw [bs_length, hRl]⟩
  have HD := Lib.hid hD; clear hD hR hRl
  have HK := Lib.hid (And.intro hK hr); clear hK hr
  have HB0 : Hid (Blk (w.alloc (.cells (bs (List.replicate 16 0)).toArray 23)) w.heap.size (bs (List.replicate 16 0)) 23 ∧ Below w.heap.size w (w.alloc (.cells (bs (List.replicate 16 0)).toArray 23))) := Lib.hid ⟨Blk.new _ _ _, below_a1 _ _⟩
  go_enter Tryd.func62, Tryd.ntmps62
  go_wp2_with (first
    | (refine (HS.out _ (HK.out.2.below HB0.out.2) (HK.out.1.of HB0.out.2)).mono ?_; rintro e w1 ⟨rfl, hb1⟩; have HX1 : Hid (Blk w1 w.heap.size (bs (List.replicate 16 0)) 23 ∧ Below w.heap.size w w1) := Lib.hid ⟨HB0.out.1.below hb1 HB0.out.1.lt, below_next HB0.out.2 hb1⟩; clear hb1)
    | (refine wpList_store_blk rfl 98 (.tmp 3) (.tmp 7) rfl _ 0 rfl (bs R) rfl (Blk.new' w1 (bs (List.replicate 32 0)) _ 98 rfl) 32 Tryd.size24 HRL.out.2 (by rw [bs_length, List.length_replicate]; omega) (bs_one _) ?_; intro w2 hst2; rw [List.take_zero, List.nil_append, List.drop_of_length_le (by rw [bs_length, List.length_replicate]; omega), List.append_nil] at hst2; have HX2 : Hid (Blk w2 w.heap.size (bs (List.replicate 16 0)) 23 ∧ Blk w2 w1.heap.size (bs R) 98 ∧ w.heap.size < w1.heap.size ∧ w1.heap.size < w2.heap.size ∧ Below w.heap.size w w2) := Lib.hid ⟨hst2.other (HX1.out.1.alloc _) (by have := HX1.out.1.lt; omega), hst2.1, HX1.out.1.lt, hst2.1.lt, hst2.below (al HX1.out.2 _) HX1.out.2.size⟩; clear hst2))
  have HX3 : Hid (SI3 w w1.heap.size w2.heap.size R 0 (w2.alloc (.cells (bs (List.replicate 16 0)).toArray 23))) := Lib.hid ⟨HX2.out.1.alloc _, HX2.out.2.1.alloc _, by rw [cp16_zero]; exact Blk.new _ _ _, HX2.out.2.2.1, HX2.out.2.2.2.1, al HX2.out.2.2.2.2 _⟩
  clear HX1 HX2 HB0
  generalize w1.heap.size = M1 at HX3 ⊢
  generalize w2.heap.size = M2 at HX3 ⊢
  go_wp2_with fail
  go_loopg [5] 16 (fun g s5 wr => ∃ i : Nat, i + g = 16 ∧ s5 = .int .i64 i ∧ SI3 w M1 M2 R i wr)
  case atStart => exact ⟨0, rfl, rfl, HX3.out⟩
  case round =>
    clear HX3
    obtain ⟨i, hi, rfl, hS⟩ := hrel
    by_cases hlt : i < 16
    · obtain ⟨g, rfl⟩ : ∃ g, gk = g + 1 := ⟨gk - 1, by omega⟩
      have hc := hS.2.1.cell (bs_getD R i (by rw [HRL.out.1]; omega))
      obtain ⟨x, hx⟩ : ∃ x, x = R.getD i 0 := ⟨_, rfl⟩
      rw [← hx] at hc
      have HXX := Lib.hid hx; clear hx
      have HS := Lib.hid hS; clear hS
      go_wp2_with (refine wpList_store_int rfl 5 (.tmp 17) (.tmp 16) rfl M2 i rfl .u8 (x.toNat : Int) rfl HS.out.2.2.1 (by rw [bs_length, cp16_length i R HRL.out.1 (by omega)]; omega) Tryd.size1 ?_; intro w3 hst3; rw [bs_set, HXX.out, cp16_set i R HRL.out.1 hlt] at hst3; have HN : Hid (SI3 w M1 M2 R (i + 1) w3) := Lib.hid ⟨hst3.other HS.out.1 (by have := HS.out.2.2.2; omega), hst3.other HS.out.2.1 (by have := HS.out.2.2.2; omega), hst3.1, HS.out.2.2.2.1, HS.out.2.2.2.2.1, hst3.below HS.out.2.2.2.2.2 (by have := HS.out.2.2.2; omega)⟩; clear hst3)
      go_roundg g
      case rel => exact ⟨i + 1, by omega, by go_num, HN.out⟩
      case measure => omega
    · obtain rfl : i = 16 := by omega
      have hDl : (bs D).length = 16 := by rw [bs_length, HD.out, List.length_take, HRL.out.1]; rfl
      have HDL := Lib.hid hDl; clear hDl
      have HS : Hid (Blk wr M2 (bs D) 23 ∧ Blk wr w.heap.size (bs (List.replicate 16 0)) 23 ∧ Below w.heap.size w wr) := Lib.hid ⟨by rw [HD.out, ← cp16_all]; exact hS.2.2.1, hS.1, hS.2.2.2.2.2⟩
      clear hS
      go_wp2_with (first
        | (refine wpList_load_blk rfl 23 (.tmp 4) rfl _ 0 rfl HS.out.1 _ Tryd.underlying23 rfl 16 Tryd.size44 (by rw [HDL.out]; omega) ?_; rw [List.drop_zero, List.take_of_length_le (by rw [HDL.out]; omega)])
        | (refine wpList_store_blk rfl 23 (.tmp 2) (.tmp 18) rfl _ 0 rfl (bs D) rfl HS.out.2.1 16 Tryd.size44 HDL.out (by rw [bs_length, List.length_replicate]; omega) (bs_one _) ?_; intro w6 hst6; rw [List.take_zero, List.nil_append, List.drop_of_length_le (by rw [bs_length, List.length_replicate]; omega), List.append_nil] at hst6; have HST6 := Lib.hid hst6; clear hst6))
      refine ret_blk rfl _ rfl HST6.out.1 _ Tryd.underlying23 rfl (by rw [HDL.out]; exact Tryd.size44) rfl ⟨rfl, HST6.out.below HS.out.2.2 (by omega)⟩

set_option maxRecDepth 100000 in
set_option maxHeartbeats 1000000 in
theorem rof_aux (tag : Int) (parts : List (List UInt8)) (D : List UInt8) (hD : D = dig tag parts) (A : Option Addr) (c : Nat) (hf : Mod parts) (w : World) (hr : Rd w A (parts.map fun p => .string (sb p))) (hK : KR w) :
    Calls Tryd.prog 41 #[.int .i64 tag, .slice A parts.length c] w fun e w' => e = .returned (.agg (bs D).toArray) ∧ Below w.heap.size w w' := by
  have hDl : (bs D).length = 16 := by rw [bs_length, hD, dig_length]
  obtain ⟨I, hI⟩ : ∃ I, I = input tag parts := ⟨_, rfl⟩
  have hIl : I.length ≤ 900008101 := by rw [hI]; exact mod_input hf tag
  have HIN : Hid (∀ W, Rd W A (parts.map fun p => .string (sb p)) → Calls Tryd.prog 63 #[.int .i64 tag, .slice A parts.length c] W fun e w' => ∃ v', e = .returned v' ∧ w'.ownsRow W.heap.size 5 1 v' I.length (bs I) ∧ Below W.heap.size W w') := Lib.hid fun W h => by rw [hI]; exact rinput_mod tag parts A _ c rfl hf W h
  have HSH : Hid (∀ (v : Value) (W : World) (base : Nat), W.ownsRow base 5 1 v I.length (bs I) → KR W → Calls Tryd.prog 62 #[v] W fun e w' => e = .returned (.agg (bs D).toArray) ∧ Below W.heap.size W w') := Lib.hid fun v W base hown hk' => by
    obtain ⟨A, c, rfl, hrd, hA⟩ := own_rd hown
    exact rshort_aux I _ D rfl (by rw [hD, dig, hI]) A c hA (by omega) W hrd hk'
  have HDL := Lib.hid hDl; clear hDl hI hIl hD
  have HK := Lib.hid (And.intro hK hr); clear hK hr
  have HB0 : Hid (Blk (w.alloc (.cells (bs (List.replicate 16 0)).toArray 23)) w.heap.size (bs (List.replicate 16 0)) 23 ∧ Below w.heap.size w (w.alloc (.cells (bs (List.replicate 16 0)).toArray 23))) := Lib.hid ⟨Blk.new _ _ _, below_a1 _ _⟩
  go_enter Tryd.func41, Tryd.ntmps41
  go_wp2_with (first
    | (refine (HIN.out _ (HK.out.2.below HB0.out.2)).mono ?_; rintro e w1 ⟨v1, rfl, hown1, hb1⟩; have HX1 : Hid (w1.ownsRow (w.alloc (.cells (bs (List.replicate 16 0)).toArray 23)).heap.size 5 1 v1 I.length (bs I) ∧ Blk w1 w.heap.size (bs (List.replicate 16 0)) 23 ∧ Below w.heap.size w w1) := Lib.hid ⟨hown1, HB0.out.1.below hb1 HB0.out.1.lt, below_next HB0.out.2 hb1⟩; clear hb1 hown1)
    | (refine (HSH.out _ _ _ HX1.out.1 (HK.out.1.of HX1.out.2.2)).mono ?_; rintro e w2 ⟨rfl, hb2⟩; have HX2 : Hid (Blk w2 w.heap.size (bs (List.replicate 16 0)) 23 ∧ Below w.heap.size w w2) := Lib.hid ⟨HX1.out.2.1.below hb2 HX1.out.2.1.lt, below_next HX1.out.2.2 hb2⟩; clear hb2)
    | (refine wpList_store_blk rfl 23 (.tmp 4) (.tmp 8) rfl _ 0 rfl (bs D) rfl HX2.out.1 16 Tryd.size44 HDL.out (by rw [bs_length, List.length_replicate]; omega) (bs_one _) ?_; intro w6 hst6; rw [List.take_zero, List.nil_append, List.drop_of_length_le (by rw [bs_length, List.length_replicate]; omega), List.append_nil] at hst6; have HST6 := Lib.hid hst6; clear hst6))
  refine ret_blk rfl _ rfl HST6.out.1 _ Tryd.underlying23 rfl (by rw [HDL.out]; exact Tryd.size44) rfl ⟨rfl, HST6.out.below HX2.out.2 (by omega)⟩
theorem rof_mod (tag : Int) (parts : List (List UInt8)) (A : Option Addr) (n c : Nat) (hn : n = parts.length) (hf : Mod parts) (w : World) (hr : Rd w A (parts.map fun p => .string (sb p))) (hK : KR w) :
    Calls Tryd.prog 41 #[.int .i64 tag, .slice A n c] w fun e w' => e = .returned (.agg (bs (dig tag parts)).toArray) ∧ Below w.heap.size w w' := by
  subst hn
  exact rof_aux tag parts _ rfl A c hf w hr hK
theorem rof_any (tag : Int) (parts : List (List UInt8)) (A : Option Addr) (n c : Nat) (hn : n = parts.length) (hf : fewB parts = true) (w : World) (hr : Rd w A (parts.map fun p => .string (sb p))) (hK : KR w) :
    Calls Tryd.prog 41 #[.int .i64 tag, .slice A n c] w fun e w' => e = .returned (.agg (bs (dig tag parts)).toArray) ∧ Below w.heap.size w w' :=
  rof_mod tag parts A n c hn (Mod.of_few hf) w hr hK
end Go.Proofs.YtbgcnfikcddcpaaDoor
