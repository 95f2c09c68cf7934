/-
  Words of 32 bits as the walk has them, and the walks of RotateLeft32, rotr and the reference's rotr.
-/
import Derived.Test.YtkaaejfochdjcaaDoorHPure
import Derived.Test.YtkaaejfochdjcaaDoorWBase
namespace Go.Proofs.YtkaaejfochdjcaaDoor
open Go.RowKit
open Sha

/-- A quiet call behind earlier draws. -/
theorem quiet_more {P : Program} {f : FuncId} {args : Array Value} {w : World} {a n : Nat} {v : Value} (h : ∀ W, Calls P f args W fun e w' => e = .returned v ∧ ∃ m, w' = W.drewN m) :
    Calls P f args (w.drewN (a + n)) fun e w'' => e = .returned v ∧ ∃ m, w'' = w.drewN (a + m) :=
  (h _).mono fun _ _ ⟨he, m, hm⟩ => ⟨he, n + m, by rw [hm, World.drewN_drewN, Nat.add_assoc]⟩
theorem quiet_one {P : Program} {f : FuncId} {args : Array Value} {w : World} {n : Nat} {v : Value} (h : ∀ W, Calls P f args W fun e w' => e = .returned v ∧ ∃ m, w' = W.drewN m) :
    Calls P f args (w.drewN n) fun e w'' => e = .returned v ∧ ∃ m, w'' = w.drewN m :=
  (h _).mono fun _ _ ⟨he, m, hm⟩ => ⟨he, n + m, by rw [hm, World.drewN_drewN]⟩
theorem same_draws {P : Program} {f : FuncId} {args : Array Value} {v : Value} {W : World} (h : Calls P f args W fun e w' => e = .returned v ∧ w' = W) : Calls P f args W fun e w' => e = .returned v ∧ ∃ m, w' = W.drewN m :=
  h.mono fun _ _ ⟨he, hm⟩ => ⟨he, 0, hm⟩

def wv (x : U) : Value := .int .u32 x.toNat
def wvs (l : List U) : List Value := l.map wv

theorem w32_lt (x : U) : (x.toNat : Int) < 4294967296 ∧ 0 ≤ (x.toNat : Int) := by
  have := x.toNat_lt
  omega
theorem u32_wrap (n : Nat) : IntKind.u32.wrap (n : Int) = ((n % 4294967296 : Nat) : Int) := by rw [IntKind.wrap_u32]; omega
theorem u32_small (n : Nat) (h : n < 4294967296) : IntKind.u32.wrap (n : Int) = (n : Int) := by rw [IntKind.wrap_u32]; omega
theorem ofInt_w (x : U) : BitVec.ofInt 32 (x.toNat : Int) = x.toBitVec := by
  apply BitVec.eq_of_toNat_eq
  rw [ofInt_u32 _ x.toNat_lt]
  rfl
theorem xor_w (x y : U) : bits .xor .u32 (x.toNat : Int) (y.toNat : Int) = ((x ^^^ y).toNat : Int) := by
  show IntKind.u32.wrap ((BitVec.ofInt 32 (x.toNat : Int) ^^^ BitVec.ofInt 32 (y.toNat : Int)).toNat : Int) = _
  rw [ofInt_w, ofInt_w]
  exact u32_small _ (x ^^^ y).toNat_lt
theorem and_w (x y : U) : bits .and .u32 (x.toNat : Int) (y.toNat : Int) = ((x &&& y).toNat : Int) := by
  show IntKind.u32.wrap ((BitVec.ofInt 32 (x.toNat : Int) &&& BitVec.ofInt 32 (y.toNat : Int)).toNat : Int) = _
  rw [ofInt_w, ofInt_w]
  exact u32_small _ (x &&& y).toNat_lt
theorem or_w (x y : U) : bits .or .u32 (x.toNat : Int) (y.toNat : Int) = ((x ||| y).toNat : Int) := by
  show IntKind.u32.wrap ((BitVec.ofInt 32 (x.toNat : Int) ||| BitVec.ofInt 32 (y.toNat : Int)).toNat : Int) = _
  rw [ofInt_w, ofInt_w]
  exact u32_small _ (x ||| y).toNat_lt
theorem add_w (x y : U) : IntKind.u32.wrap ((x.toNat : Int) + (y.toNat : Int)) = ((x + y).toNat : Int) := by
  rw [show (x.toNat : Int) + (y.toNat : Int) = ((x.toNat + y.toNat : Nat) : Int) from by omega, u32_wrap, UInt32.toNat_add]
theorem allones_w : (4294967295 : Int) = ((0xffffffff : U).toNat : Int) := rfl
theorem not_w (x : U) : bits .xor .u32 (x.toNat : Int) 4294967295 = ((~~~ x).toNat : Int) := by
  rw [allones_w, xor_w]
  congr 2
  apply UInt32.toBitVec_inj.1
  rw [UInt32.toBitVec_xor, UInt32.toBitVec_not]
  exact BitVec.xor_allOnes
theorem not_w' (x : U) : bits .xor .u32 4294967295 (x.toNat : Int) = ((~~~ x).toNat : Int) := by
  rw [← not_w, allones_w, xor_w, xor_w, UInt32.xor_comm]
theorem ofNat_w (n : Nat) (h : n < 4294967296) : (UInt32.ofNat n).toNat = n := by simp; omega
/-- Numbers that are words. -/
theorem or_nat (m n : Nat) (hm : m < 4294967296) (hn : n < 4294967296) : bits .or .u32 (m : Int) (n : Int) = ((UInt32.ofNat (m ||| n)).toNat : Int) := by
  have h := or_w (UInt32.ofNat m) (UInt32.ofNat n)
  rw [ofNat_w m hm, ofNat_w n hn] at h
  rw [h]
  congr 2
  apply UInt32.toNat_inj.1
  rw [UInt32.toNat_or, ofNat_w m hm, ofNat_w n hn, ofNat_w]
  exact Nat.or_lt_two_pow (n := 32) hm hn
theorem sr_w (x : U) (n : Nat) : (x.toNat : Int) / (2 ^ n : Nat) = ((sr x n).toNat : Int) := by
  have : x.toNat / 2 ^ n ≤ x.toNat := Nat.div_le_self _ _
  have := x.toNat_lt
  rw [sr, ofNat_w _ (by omega)]
  simp
theorem rot_m : ∀ n : Nat, 1 ≤ n → n ≤ 31 → bits .and .u64 (IntKind.u64.wrap (-(n : Int))) 31 = ((32 - n : Nat) : Int) := by
  have h : ∀ n : Fin 32, 1 ≤ n.val → bits .and .u64 (IntKind.u64.wrap (-((n.val : Nat) : Int))) 31 = ((32 - n.val : Nat) : Int) := by decide
  exact fun n h1 h2 => h ⟨n, by omega⟩ h1
theorem rr_eq (x : U) (n : Nat) : bits .or .u32 ((x.toNat : Int) * 2 ^ (32 - n) % 4294967296) ((x.toNat : Int) / 2 ^ n) = ((rr x n).toNat : Int) := by
  have hx := x.toNat_lt
  have hd : x.toNat / 2 ^ n ≤ x.toNat := Nat.div_le_self _ _
  have e1 : (x.toNat : Int) * 2 ^ (32 - n) = ((x.toNat * 2 ^ (32 - n) : Nat) : Int) := by simp
  have e2 : (x.toNat : Int) / 2 ^ n = ((x.toNat / 2 ^ n : Nat) : Int) := by simp
  rw [e1, e2, show (((x.toNat * 2 ^ (32 - n) : Nat) : Int) % 4294967296) = ((x.toNat * 2 ^ (32 - n) % 4294967296 : Nat) : Int) from by omega, or_nat _ _ (Nat.mod_lt _ (by omega)) (by omega)]
  rfl
theorem rr_eq' (x : U) (n : Nat) : bits .or .u32 ((x.toNat : Int) / 2 ^ n) ((x.toNat : Int) * 2 ^ (32 - n) % 4294967296) = ((rr x n).toNat : Int) := by
  rw [← rr_eq]
  show IntKind.u32.wrap ((BitVec.ofInt 32 _ ||| BitVec.ofInt 32 _).toNat : Int) = IntKind.u32.wrap ((BitVec.ofInt 32 _ ||| BitVec.ofInt 32 _).toNat : Int)
  rw [BitVec.or_comm]

set_option maxHeartbeats 400000 in
theorem rotl_any (x : U) (n : Nat) (h1 : 1 ≤ n) (h2 : n ≤ 31) (w : World) :
    Calls Tryd.prog 93 #[.int .u32 x.toNat, .int .i64 (-(n : Int))] w fun e w' => e = .returned (.int .u32 (rr x n).toNat) ∧ w = w' := by
  have hx := w32_lt x
  have hrr := rr_eq x n
  have hb := rot_m n h1 h2
  obtain ⟨m, rfl⟩ : ∃ m : Nat, n = 32 - m := ⟨32 - n, by omega⟩
  have hm1 : 1 ≤ m := by omega
  have hm2 : m ≤ 31 := by omega
  rw [show 32 - (32 - m) = m from by omega] at hb hrr
  have HR := Lib.hid hrr
  clear hrr
  go_enter Tryd.func93, Tryd.ntmps93
  go_wp2
  go_ret
  refine ⟨?_, rfl⟩
  rw [← HR.out]
  rfl
set_option maxHeartbeats 400000 in
theorem rotr_any (x : U) (n : Nat) (h1 : 1 ≤ n) (h2 : n ≤ 31) (w : World) :
    Calls Tryd.prog 87 #[.int .u32 x.toNat, .int .i64 n] w fun e w' => e = .returned (.int .u32 (rr x n).toNat) ∧ w = w' := by
  go_enter Tryd.func87, Tryd.ntmps87
  go_wp2_with ((with_reducible refine (rotl_any x n h1 h2 _).mono ?_); rintro e w' ⟨rfl, rfl⟩)
  go_ret
  exact ⟨rfl, rfl⟩
theorem rotr_i (x : U) (n : Nat) (N : Int) (hN : N = n) (h1 : 1 ≤ n) (h2 : n ≤ 31) (w : World) :
    Calls Tryd.prog 87 #[.int .u32 x.toNat, .int .i64 N] w fun e w' => e = .returned (.int .u32 (rr x n).toNat) ∧ w' = w := by
  subst hN
  exact (rotr_any x n h1 h2 w).mono fun _ _ ⟨h, h'⟩ => ⟨h, h'.symm⟩
theorem rotr_q (x : U) (n : Nat) (N : Int) (hN : N = n) (h1 : 1 ≤ n) (h2 : n ≤ 31) (w : World) :
    Calls Tryd.prog 87 #[.int .u32 x.toNat, .int .i64 N] w fun e w' => e = .returned (.int .u32 (rr x n).toNat) ∧ ∃ m, w' = w.drewN m := same_draws (rotr_i x n N hN h1 h2 w)
theorem rotr_2 (x : U) (w : World) : Calls Tryd.prog 87 #[.int .u32 x.toNat, .int .i64 2] w fun e w' => e = .returned (.int .u32 (rr x 2).toNat) ∧ w = w' :=
  rotr_any x 2 (by omega) (by omega) w
theorem rotr_13 (x : U) (w : World) : Calls Tryd.prog 87 #[.int .u32 x.toNat, .int .i64 13] w fun e w' => e = .returned (.int .u32 (rr x 13).toNat) ∧ w = w' :=
  rotr_any x 13 (by omega) (by omega) w
theorem rotr_22 (x : U) (w : World) : Calls Tryd.prog 87 #[.int .u32 x.toNat, .int .i64 22] w fun e w' => e = .returned (.int .u32 (rr x 22).toNat) ∧ w = w' :=
  rotr_any x 22 (by omega) (by omega) w
end Go.Proofs.YtkaaejfochdjcaaDoor
