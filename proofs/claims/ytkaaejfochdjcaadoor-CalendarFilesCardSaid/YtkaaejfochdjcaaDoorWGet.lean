/-
  The walk of wire.GetInt: every slice of bytes.
-/
import Derived.Test.YtkaaejfochdjcaaDoorWBase
namespace Go.Proofs.YtkaaejfochdjcaaDoor
open Go.RowKit
set_option linter.unusedVariables false

def ret3 (r : Int × Nat × Int) : Ending := .returned (.tuple #[.int .i64 r.1, .int .i64 r.2.1, .int .i64 r.2.2])

theorem xor255 (c : Nat) (h : c < 256) : bits .xor .u8 255 (c : Int) = 255 - (c : Int) := by
  rw [show (255 : Int) = ((255 : Nat) : Int) from rfl, u8_xor_nat 255 c (by omega) h]
  have : 255 ^^^ c = 255 - c := by
    have H : ∀ c : Fin 256, 255 ^^^ c.val = 255 - c.val := by decide +kernel
    exact H ⟨c, h⟩
  rw [this]; omega
theorem xor255' (c : Nat) (h : c < 256) : bits .xor .u8 (c : Int) 255 = 255 - (c : Int) := by
  rw [show (255 : Int) = ((255 : Nat) : Int) from rfl, u8_xor_nat c 255 h (by omega)]
  have : c ^^^ 255 = 255 - c := by
    have H : ∀ c : Fin 256, c.val ^^^ 255 = 255 - c.val := by decide +kernel
    exact H ⟨c, h⟩
  rw [this]; omega
theorem xor0 (c : Nat) (h : c < 256) : bits .xor .u8 (c : Int) 0 = (c : Int) := by
  rw [show (0 : Int) = ((0 : Nat) : Int) from rfl, u8_xor_nat c 0 h (by omega)]
  simp
theorem not8 (k : Nat) (h : k ≤ 127) : bits .xor .u8 (if IntKind.u8.signed = true then -1 else IntKind.u8.max) (127 - (k : Int)) = 128 + (k : Int) := by
  have e : (127 - (k : Int)) = ((127 - k : Nat) : Int) := by omega
  show bits .xor .u8 255 _ = _
  rw [e, xor255 _ (by omega)]; omega

set_option maxRecDepth 100000 in
set_option maxHeartbeats 400000 in
theorem getInt_nil (A : Option Addr) (c : Nat) (w : World) :
    Calls Tryd.prog 78 #[.slice A 0 c] w fun e w' => e = ret3 (gI []) ∧ w = w' := by
  go_enter Tryd.func78, Tryd.ntmps78
  go_wp2
  go_ret3
  exact ⟨rfl, rfl⟩

set_option maxRecDepth 100000 in
set_option maxHeartbeats 400000 in
theorem getInt_neg_far (b o c k n : Nat) (w : World) (hk : k ≤ 127) (hc : n + 1 ≤ c) (hm : c ≤ 9223372036854775807) (h0 : w.cell? ⟨b, o, none⟩ = some (.int .u8 (127 - (k : Int)))) (h8 : 8 < k) : Calls Tryd.prog 78 #[.slice (some ⟨b, o, none⟩) ((n : Nat) + 1) c] w fun e w' => e = .returned (.tuple #[.int .i64 0, .int .i64 0, .int .i64 2]) ∧ w = w' := by
  have hx := not8 k hk
  have hne : ((n : Int) + 1 == 0) = false := by rw [beq_eq_false_iff_ne]; omega
  go_enter Tryd.func78, Tryd.ntmps78
  go_wp2
  go_ret3
  exact ⟨rfl, rfl⟩

set_option maxRecDepth 100000 in
set_option maxHeartbeats 400000 in
theorem getInt_neg_more (b o c k n : Nat) (w : World) (hk : k ≤ 127) (hc : n + 1 ≤ c) (hm : c ≤ 9223372036854775807) (h0 : w.cell? ⟨b, o, none⟩ = some (.int .u8 (127 - (k : Int)))) (h8 : k ≤ 8) (hn : n < k) : Calls Tryd.prog 78 #[.slice (some ⟨b, o, none⟩) ((n : Nat) + 1) c] w fun e w' => e = .returned (.tuple #[.int .i64 0, .int .i64 0, .int .i64 3]) ∧ w = w' := by
  have hx := not8 k hk
  have hne : ((n : Int) + 1 == 0) = false := by rw [beq_eq_false_iff_ne]; omega
  go_enter Tryd.func78, Tryd.ntmps78
  go_wp2
  go_ret3
  exact ⟨rfl, rfl⟩

set_option maxRecDepth 100000 in
set_option maxHeartbeats 400000 in
theorem getInt_neg_lead (b o c k n : Nat) (w : World) (hk : k ≤ 127) (hc : n + 1 ≤ c) (hm : c ≤ 9223372036854775807) (h0 : w.cell? ⟨b, o, none⟩ = some (.int .u8 (127 - (k : Int)))) (h8 : k ≤ 8) (hn : k ≤ n) (hk0 : 0 < k) (h1 : w.cell? ⟨b, o + 1, none⟩ = some (.int .u8 255)) : Calls Tryd.prog 78 #[.slice (some ⟨b, o, none⟩) ((n : Nat) + 1) c] w fun e w' => e = .returned (.tuple #[.int .i64 0, .int .i64 0, .int .i64 2]) ∧ w = w' := by
  have hx := not8 k hk
  have hne : ((n : Int) + 1 == 0) = false := by rw [beq_eq_false_iff_ne]; omega
  go_enter Tryd.func78, Tryd.ntmps78
  go_wp2
  go_ret3
  exact ⟨rfl, rfl⟩

set_option maxRecDepth 100000 in
set_option maxHeartbeats 400000 in
theorem getInt_pos_far (b o c k n : Nat) (w : World) (hk : k ≤ 127) (hc : n + 1 ≤ c) (hm : c ≤ 9223372036854775807) (h0 : w.cell? ⟨b, o, none⟩ = some (.int .u8 (128 + (k : Int)))) (h8 : 8 < k) : Calls Tryd.prog 78 #[.slice (some ⟨b, o, none⟩) ((n : Nat) + 1) c] w fun e w' => e = .returned (.tuple #[.int .i64 0, .int .i64 0, .int .i64 2]) ∧ w = w' := by
  have hne : ((n : Int) + 1 == 0) = false := by rw [beq_eq_false_iff_ne]; omega
  go_enter Tryd.func78, Tryd.ntmps78
  go_wp2
  go_ret3
  exact ⟨rfl, rfl⟩

set_option maxRecDepth 100000 in
set_option maxHeartbeats 400000 in
theorem getInt_pos_more (b o c k n : Nat) (w : World) (hk : k ≤ 127) (hc : n + 1 ≤ c) (hm : c ≤ 9223372036854775807) (h0 : w.cell? ⟨b, o, none⟩ = some (.int .u8 (128 + (k : Int)))) (h8 : k ≤ 8) (hn : n < k) : Calls Tryd.prog 78 #[.slice (some ⟨b, o, none⟩) ((n : Nat) + 1) c] w fun e w' => e = .returned (.tuple #[.int .i64 0, .int .i64 0, .int .i64 3]) ∧ w = w' := by
  have hne : ((n : Int) + 1 == 0) = false := by rw [beq_eq_false_iff_ne]; omega
  go_enter Tryd.func78, Tryd.ntmps78
  go_wp2
  go_ret3
  exact ⟨rfl, rfl⟩

set_option maxRecDepth 100000 in
set_option maxHeartbeats 400000 in
theorem getInt_pos_lead (b o c k n : Nat) (w : World) (hk : k ≤ 127) (hc : n + 1 ≤ c) (hm : c ≤ 9223372036854775807) (h0 : w.cell? ⟨b, o, none⟩ = some (.int .u8 (128 + (k : Int)))) (h8 : k ≤ 8) (hn : k ≤ n) (hk0 : 0 < k) (h1 : w.cell? ⟨b, o + 1, none⟩ = some (.int .u8 0)) : Calls Tryd.prog 78 #[.slice (some ⟨b, o, none⟩) ((n : Nat) + 1) c] w fun e w' => e = .returned (.tuple #[.int .i64 0, .int .i64 0, .int .i64 2]) ∧ w = w' := by
  have hne : ((n : Int) + 1 == 0) = false := by rw [beq_eq_false_iff_ne]; omega
  go_enter Tryd.func78, Tryd.ntmps78
  go_wp2
  go_ret3
  exact ⟨rfl, rfl⟩

end Go.Proofs.YtkaaejfochdjcaaDoor
