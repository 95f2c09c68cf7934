/-
  The reference's Digits and Dates: the texts of dates.
-/
import Derived.Test.YtkaaejfochdjcaaDoorCRDay
import Derived.Test.YtkaaejfochdjcaaDoorCStr
import Derived.Test.YtkaaejfochdjcaaDoorWConv
import Derived.Deep.LoopGhost
namespace Go.Proofs.YtkaaejfochdjcaaDoor
open Go.RowKit
open Cal
set_option linter.unusedVariables false
set_option linter.unusedSimpArgs false

def dq (n : Int) : Nat → Int
  | 0 => n
  | k + 1 => dq n k / 10
def ds (n : Int) : Nat → List UInt8
  | 0 => []
  | k + 1 => dgt (dq n k) :: ds n k
theorem dq_nn {n : Int} (h : 0 ≤ n) (k : Nat) : 0 ≤ dq n k ∧ dq n k ≤ n := by
  induction k with
  | zero => exact ⟨h, Int.le_refl _⟩
  | succ k ih => simp only [dq]; omega
theorem ds_len (n : Int) (k : Nat) : (ds n k).length = k := by
  induction k with
  | zero => rfl
  | succ k ih => simp [ds, ih]
theorem ds4 (n : Int) : ds n 4 = pad4 n := by
  simp only [ds, dq, pad4]
  rw [show n / 10 / 10 = n / 100 by omega, show n / 100 / 10 = n / 1000 by omega]
theorem ds2 (n : Int) : ds n 2 = pad2 n := by simp only [ds, dq, pad2]
theorem dig_conv (q : Int) (T : TypeId) (W : World) : (convert 53 9 (.slice (some ⟨W.heap.size, 0, none⟩) 1 1)).run Tryd.prog (W.alloc (.cells #[.int .u8 (48 + q % 10)] T)) = .ok (.string (tb [dgt q])) (W.alloc (.cells #[.int .u8 (48 + q % 10)] T)) := by
  have e : (#[Value.int .u8 (48 + q % 10)] : Array Value) = (bs [dgt q]).toArray := by
    have := dgt_nat q
    have h2 : (((dgt q).toNat : Nat) : Int) = 48 + q % 10 := by omega
    rw [← h2]
    rfl
  have hr : Rd (W.alloc (.cells #[.int .u8 (48 + q % 10)] T)) (some ⟨W.heap.size, 0, none⟩) (bs [dgt q]) := .inr ⟨W.heap.size, 0, rfl, fun k v hv => by rw [Nat.zero_add]; exact (Blk.at W (bs [dgt q]) _ T _ e rfl).cell hv⟩
  exact conv_rd (l := [dgt q]) Tryd.underlying53 Tryd.underlying5 Tryd.underlying9 hr 1
set_option maxRecDepth 100000 in
set_option maxHeartbeats 2000000 in
theorem rdig_any (n : Int) (h0 : 0 ≤ n) (h1 : n ≤ 9999) (M : Nat) (hM : M ≤ 100) (hz : dq n M = 0) (S : List UInt8) (hS : S = ds n M) (w : World) : Calls Tryd.prog 71 #[.int .i64 n, .int .i64 M] w fun e w' => e = .returned (.string (tb S)) ∧ Below w.heap.size w w' := by
  have HZ := Lib.hid hz
  have HS := Lib.hid hS
  clear hz hS
  have e0 : (⟨#[]⟩ : ByteArray) = tb [] := rfl
  go_enter Tryd.func71, Tryd.ntmps71
  go_wp2_with fail
  go_loopg [0, 5, 6] M (fun g s0 s5 s6 wr => ∃ (k : Nat) (q : Int) (T : List UInt8), k + g = M ∧ s0 = .int .i64 q ∧ s5 = .string (tb T) ∧ s6 = .int .i64 (k : Int) ∧ Hid (q = dq n k ∧ T = ds n k) ∧ Hid (Below w.heap.size w wr))
  case atStart => exact ⟨0, n, [], by omega, rfl, rfl, rfl, Lib.hid ⟨rfl, rfl⟩, Lib.hid (Below.refl _ _)⟩
  case round =>
    obtain ⟨k, q, T, hk, rfl, rfl, rfl, HQ, HB⟩ := hrel
    by_cases hlt : k < M
    · obtain ⟨g, rfl⟩ : ∃ g, gk = g + 1 := ⟨gk - 1, by omega⟩
      obtain ⟨q0, q1⟩ : 0 ≤ q ∧ q ≤ n := by rw [HQ.out.1]; exact dq_nn h0 k
      have hcv := dig_conv q 5 wr
      have hct : ∀ W, (Op.stringOp .add (tb [dgt q]) (tb T)).run Tryd.prog W = .ok (.string (tb (dgt q :: T))) W := fun W => cat_tb rfl (by rw [HQ.out.2]; simp [ds_len]; omega) W
      go_wp2_with fail
      go_roundg g
      case rel => exact ⟨k + 1, q / 10, dgt q :: T, by omega, rfl, rfl, by go_num, Lib.hid ⟨by rw [HQ.out.1]; rfl, by rw [HQ.out.1, HQ.out.2]; rfl⟩, Lib.hid (below_al HB.out _)⟩
      case measure => omega
    · obtain rfl : k = M := by omega
      obtain rfl : q = 0 := by rw [HQ.out.1]; exact HZ.out
      have HE : Hid (T = S) := Lib.hid (by rw [HQ.out.2, HS.out])
      go_wp2_with fail
      go_ret
      exact ⟨by rw [← HE.out]; rfl, HB.out⟩
theorem rdig4 (n : Int) (h0 : 0 ≤ n) (h1 : n ≤ 9999) (w : World) : Calls Tryd.prog 71 #[.int .i64 n, .int .i64 4] w fun e w' => e = .returned (.string (tb (pad4 n))) ∧ Below w.heap.size w w' :=
  rdig_any n h0 h1 4 (by omega) (by simp only [dq]; omega) _ (ds4 n).symm w
theorem rdig2 (n : Int) (h0 : 0 ≤ n) (h1 : n ≤ 99) (w : World) : Calls Tryd.prog 71 #[.int .i64 n, .int .i64 2] w fun e w' => e = .returned (.string (tb (pad2 n))) ∧ Below w.heap.size w w' :=
  rdig_any n h0 (by omega) 2 (by omega) (by simp only [dq]; omega) _ (ds2 n).symm w
/-- A list of texts as values. -/
def tv (l : List (List UInt8)) : List Value := l.map fun x => .string (tb x)
set_option maxRecDepth 100000 in
set_option maxHeartbeats 2000000 in
theorem rdates_any (n : Int) (h1 : 1 ≤ n) (h2 : n ≤ 1022679) (w : World) : Calls Tryd.prog 70 #[.int .i64 n] w fun e w' => ∃ B, e = .returned (.slice (some ⟨B, 0, none⟩) 3 3) ∧ w.heap.size ≤ B ∧ Blk w' B (tv (dtx n)) 9 ∧ Below w.heap.size w w' := by
  have hx := (date_ex h1 h2).1
  have HT : Hid (∀ W, Calls Tryd.prog 15 #[.int .i64 n] W fun e w' => e = ret4 (yOf n) (mOf n) (dOf n) 0 ∧ W = w') := Lib.hid fun W => rdate_yes n h1 h2 W
  have HD : Hid (dtx n = [pad4 (yOf n), pad4 (yOf n) ++ 45 :: pad2 (mOf n), (pad4 (yOf n) ++ 45 :: pad2 (mOf n)) ++ 45 :: pad2 (dOf n)]) := Lib.hid rfl
  generalize yOf n = y at *
  generalize mOf n = m at *
  generalize dOf n = d at *
  obtain ⟨y1, y2, m1, m2, d1, d2⟩ := hx
  have d3 : d ≤ 31 := by have := ml_bd y m; omega
  have HY : Hid (∀ W, Calls Tryd.prog 71 #[.int .i64 y, .int .i64 4] W fun e w' => e = .returned (.string (tb (pad4 y))) ∧ Below W.heap.size W w') := Lib.hid fun W => rdig4 y (by omega) (by omega) W
  have HM : Hid (∀ W, Calls Tryd.prog 71 #[.int .i64 m, .int .i64 2] W fun e w' => e = .returned (.string (tb (pad2 m))) ∧ Below W.heap.size W w') := Lib.hid fun W => rdig2 m (by omega) (by omega) W
  have HDD : Hid (∀ W, Calls Tryd.prog 71 #[.int .i64 d, .int .i64 2] W fun e w' => e = .returned (.string (tb (pad2 d))) ∧ Below W.heap.size W w') := Lib.hid fun W => rdig2 d (by omega) (by omega) W
  have e45 : (⟨#[45]⟩ : ByteArray) = tb [45] := rfl
  have c1 : ∀ W, (Op.stringOp .add (tb (pad4 y)) ⟨#[45]⟩).run Tryd.prog W = .ok (.string (tb (pad4 y ++ [45]))) W := fun W => by rw [e45]; exact cat_tb rfl (by simp [pad4]) W
  have c2 : ∀ W, (Op.stringOp .add (tb (pad4 y ++ [45])) (tb (pad2 m))).run Tryd.prog W = .ok (.string (tb (pad4 y ++ 45 :: pad2 m))) W := fun W => cat_tb (by simp) (by simp [pad4, pad2]) W
  have c3 : ∀ W, (Op.stringOp .add (tb (pad4 y ++ 45 :: pad2 m)) ⟨#[45]⟩).run Tryd.prog W = .ok (.string (tb ((pad4 y ++ 45 :: pad2 m) ++ [45]))) W := fun W => by rw [e45]; exact cat_tb rfl (by simp [pad4, pad2]) W
  have c4 : ∀ W, (Op.stringOp .add (tb ((pad4 y ++ 45 :: pad2 m) ++ [45])) (tb (pad2 d))).run Tryd.prog W = .ok (.string (tb ((pad4 y ++ 45 :: pad2 m) ++ 45 :: pad2 d))) W := fun W => cat_tb (by simp) (by simp [pad4, pad2]) W
  clear d2
  go_enter Tryd.func70, Tryd.ntmps70
  go_wp2_with (first
    | ((with_reducible refine (HT.out _).mono ?_); rintro e w0 ⟨rfl, rfl⟩; unfold ret4)
    | ((with_reducible refine (HY.out _).mono ?_); rintro e w1 ⟨rfl, hb1⟩; have HX1 : Hid (Below w.heap.size w w1) := Lib.hid (below_next (Below.refl _ _) hb1); clear hb1)
    | ((with_reducible refine (HM.out _).mono ?_); rintro e w2 ⟨rfl, hb2⟩; have HX2 : Hid (Below w.heap.size w w2) := Lib.hid (below_next HX1.out hb2); clear hb2)
    | ((with_reducible refine (HDD.out _).mono ?_); rintro e w3 ⟨rfl, hb3⟩; have HX3 : Hid (Below w.heap.size w w3) := Lib.hid (below_next HX2.out hb3); clear hb3))
  go_ret
  exact ⟨_, rfl, HX3.out.size, by rw [HD.out]; exact Blk.at w3 (tv [_, _, _]) _ 9 _ rfl rfl, below_al HX3.out _⟩
end Go.Proofs.YtkaaejfochdjcaaDoor
