/-
  Strings as lists of bytes in the walks; calendar's decimal numbers.
-/
import Derived.Test.YtkaaejfochdjcaaDoorCDate
import Derived.Test.YtkaaejfochdjcaaDoorCShelf
import Derived.Lib.AppendIntMem
import Derived.Lib.ItoaLen
namespace Go.Proofs.YtkaaejfochdjcaaDoor
open Go.RowKit
open Cal
set_option linter.unusedVariables false

/-! ## words -/
def tb (l : List UInt8) : ByteArray := ⟨l.toArray⟩
theorem tb_size (l : List UInt8) : (tb l).size = l.length := by simp [tb, ByteArray.size]
theorem tb_list (l : List UInt8) : (tb l).data.toList = l := by simp [tb]
theorem tb_toList (l : List UInt8) : (tb l).toList = l := ByteArray.toList_mk l
theorem tb_append (a b : List UInt8) : tb a ++ tb b = tb (a ++ b) := by
  apply ByteArray.ext
  apply Array.ext'
  simp [tb, ByteArray.data_append]
theorem tb_inj {a b : List UInt8} (h : tb a = tb b) : a = b := by rw [← tb_list a, h, tb_list]
/-- What + makes of two strings. -/
theorem run_cat {P : Program} (x y : ByteArray) (h : x.size + y.size ≤ 4611686018427387904) (w : World) : (Op.stringOp .add x y).run P w = .ok (.string (x ++ y)) w := by
  have h1 : ¬ (((x.size + y.size : Nat) : Int) > IntKind.i64.max) := by
    have : IntKind.i64.max = 9223372036854775807 := rfl
    omega
  simp only [Op.stringOp, if_neg h1, Sem.run_pure]
theorem cat_tb {P : Program} {a b c : List UInt8} (h : a ++ b = c) (hl : c.length ≤ 4611686018427387904) (w : World) : (Op.stringOp .add (tb a) (tb b)).run P w = .ok (.string (tb c)) w := by
  subst h
  rw [run_cat _ _ (by rw [tb_size, tb_size]; simpa using hl), tb_append]
namespace Cal
theorem below_next {w0 w w' : World} (h : Below w0.heap.size w0 w) (k : Below w.heap.size w w') : Below w0.heap.size w0 w' := h.trans (k.mono h.size)
theorem below_drewN {w0 w : World} (h : Below w0.heap.size w0 w) (n : Nat) : Below w0.heap.size w0 (w.drewN n) := ⟨h.os, h.tape, h.output, h.size, h.block⟩
theorem below_a1 (w : World) (o : Obj) : Below w.heap.size w (w.alloc o) := (Below.refl _ _).alloc (Nat.le_refl _) o
theorem below_al {w0 w : World} (h : Below w0.heap.size w0 w) (o : Obj) : Below w0.heap.size w0 (w.alloc o) := h.alloc h.size o
end Cal

theorem Blk.at (w : World) (C : List Value) (A : Array Value) (T : TypeId) (B : Nat) (hA : A = C.toArray) (hB : B = w.heap.size) : Blk (w.alloc (.cells A T)) B C T := by subst hB; exact Blk.new' w C A T hA

/-! ## numbers with zeros before them -/
theorem dd1 {u : Nat} (h : u < 10) : Lib.decDigits u = [dgt (u : Int)] := by
  rw [Lib.decDigits, dif_pos h]
  unfold dgt
  rw [show ((u : Int) % 10).toNat = u by omega]
theorem dd2 {u : Nat} (h : ¬ u < 10) : Lib.decDigits u = Lib.decDigits (u / 10) ++ [dgt (u : Int)] := by
  rw [Lib.decDigits, dif_neg h]
  unfold dgt
  rw [show ((u : Int) % 10).toNat = u % 10 by omega]
theorem dgt_z {n : Int} (h : n % 10 = 0) : dgt n = 48 := by unfold dgt; rw [h]; rfl
theorem dec2_pure (n : Int) (h0 : 0 ≤ n) (h1 : n ≤ 99) : List.replicate (2 - (Lib.itoa n).length) 48 ++ Lib.itoa n = pad2 n ∧ (Lib.itoa n).length ≤ 2 ∧ 1 ≤ (Lib.itoa n).length := by
  obtain ⟨u, rfl⟩ : ∃ u : Nat, n = u := ⟨n.toNat, by omega⟩
  rw [Lib.itoa_nonneg]
  unfold pad2
  rw [show (u : Int) / 10 = ((u / 10 : Nat) : Int) by omega]
  by_cases h : u < 10
  · rw [dd1 h, dgt_z (n := ((u / 10 : Nat) : Int)) (by omega)]
    exact ⟨rfl, by simp, by simp⟩
  · rw [dd2 h, dd1 (by omega)]
    exact ⟨rfl, by simp, by simp⟩
theorem dec4_pure (n : Int) (h0 : 0 ≤ n) (h1 : n ≤ 9999) : List.replicate (4 - (Lib.itoa n).length) 48 ++ Lib.itoa n = pad4 n ∧ (Lib.itoa n).length ≤ 4 ∧ 1 ≤ (Lib.itoa n).length := by
  obtain ⟨u, rfl⟩ : ∃ u : Nat, n = u := ⟨n.toNat, by omega⟩
  rw [Lib.itoa_nonneg]
  unfold pad4
  rw [show (u : Int) / 10 = ((u / 10 : Nat) : Int) by omega, show (u : Int) / 100 = ((u / 10 / 10 : Nat) : Int) by omega, show (u : Int) / 1000 = ((u / 10 / 10 / 10 : Nat) : Int) by omega]
  by_cases h : u < 10
  · rw [dd1 h, dgt_z (n := ((u / 10 : Nat) : Int)) (by omega), dgt_z (n := ((u / 10 / 10 : Nat) : Int)) (by omega), dgt_z (n := ((u / 10 / 10 / 10 : Nat) : Int)) (by omega)]
    exact ⟨rfl, by simp, by simp⟩
  · rw [dd2 h]
    by_cases h2 : u / 10 < 10
    · rw [dd1 h2, dgt_z (n := ((u / 10 / 10 : Nat) : Int)) (by omega), dgt_z (n := ((u / 10 / 10 / 10 : Nat) : Int)) (by omega)]
      exact ⟨rfl, by simp, by simp⟩
    · rw [dd2 h2]
      by_cases h3 : u / 10 / 10 < 10
      · rw [dd1 h3, dgt_z (n := ((u / 10 / 10 / 10 : Nat) : Int)) (by omega)]
        exact ⟨rfl, by simp, by simp⟩
      · rw [dd2 h3, dd1 (by omega)]
        exact ⟨rfl, by simp, by simp⟩
theorem rep_48 (k : Nat) : Lib.repeatL [48] k = List.replicate k 48 := by
  induction k with
  | zero => rfl
  | succ k ih => rw [Lib.repeatL, ih]; rfl

theorem itoa_any (n : Int) (h0 : 0 ≤ n) (h1 : n ≤ 9999) (w : World) (hK : KC w) : Calls Tryd.prog 76 #[.int .i64 n] w fun e w' => e = .returned (.string (tb (Lib.itoa n))) ∧ Below w.heap.size w w' :=
  (Tryd.strconv_Itoa n (by omega) (by omega) w hK.2.1).mono fun e w' ⟨he, k, os, hw⟩ => ⟨he, by subst hw; exact Lib.below_grow _ _ (Nat.le_refl _) _ _⟩
theorem zeros_any (k : Nat) (hk : k ≤ 10) (w : World) : Calls Tryd.prog 77 #[.string ⟨#[48]⟩, .int .i64 k] w fun e w' => e = .returned (.string (tb (List.replicate k 48))) ∧ Below w.heap.size w w' :=
  (Tryd.strings_Repeat ⟨#[48]⟩ k w (by omega) (by rw [show (⟨#[48]⟩ : ByteArray).size = 1 from rfl]; omega)).mono fun e w' ⟨he, hb⟩ => ⟨by rw [he]; show _ = Ending.returned (.string (tb (List.replicate k 48))); rw [← rep_48]; rfl, hb⟩
set_option maxHeartbeats 400000 in
theorem decimal_aux (n : Int) (D : Nat) (L P : List UInt8) (hL : L = Lib.itoa n) (hP : List.replicate (D - L.length) 48 ++ L = P) (hl : L.length ≤ D) (hD : D ≤ 4) (h0 : 0 ≤ n) (h1 : n ≤ 9999) (w : World) (hK : KC w) :
    Calls Tryd.prog 69 #[.int .i64 n, .int .i64 D] w fun e w' => e = .returned (.string (tb P)) ∧ Below w.heap.size w w' := by
  have HI : Hid (∀ W, KC W → Calls Tryd.prog 76 #[.int .i64 n] W fun e w' => e = .returned (.string (tb L)) ∧ Below W.heap.size W w') := Lib.hid fun W h => by rw [hL]; exact itoa_any n h0 h1 W h
  obtain ⟨k, hk⟩ : ∃ k : Nat, k = D - L.length := ⟨_, rfl⟩
  have hs : (D : Int) - (L.length : Int) = k := by omega
  have hsz : (tb L).size = L.length := tb_size L
  rw [← hk] at hP
  have hcat : ∀ W, (Op.stringOp .add (tb (List.replicate k 48)) (tb L)).run Tryd.prog W = .ok (.string (tb P)) W := fun W => cat_tb hP (by rw [← hP]; simp; omega) W
  have hk4 : k ≤ 10 := by omega
  have HK := Lib.hid hK
  clear hK hL hP hk
  go_enter Tryd.func69, Tryd.ntmps69
  go_wp2_with (first
    | ((with_reducible refine (HI.out _ HK.out).mono ?_); rintro e w1 ⟨rfl, hb1⟩)
    | ((with_reducible refine (zeros_any k hk4 _).mono ?_); rintro e w2 ⟨rfl, hb2⟩))
  go_ret
  exact ⟨rfl, below_next hb1 hb2⟩
theorem dec4_any (n : Int) (h0 : 0 ≤ n) (h1 : n ≤ 9999) (w : World) (hK : KC w) : Calls Tryd.prog 69 #[.int .i64 n, .int .i64 4] w fun e w' => e = .returned (.string (tb (pad4 n))) ∧ Below w.heap.size w w' :=
  decimal_aux n 4 _ _ rfl (dec4_pure n h0 h1).1 (dec4_pure n h0 h1).2.1 (by omega) h0 h1 w hK
theorem dec2_any (n : Int) (h0 : 0 ≤ n) (h1 : n ≤ 99) (w : World) (hK : KC w) : Calls Tryd.prog 69 #[.int .i64 n, .int .i64 2] w fun e w' => e = .returned (.string (tb (pad2 n))) ∧ Below w.heap.size w w' :=
  decimal_aux n 2 _ _ rfl (dec2_pure n h0 h1).1 (dec2_pure n h0 h1).2.1 (by omega) h0 (by omega) w hK
end Go.Proofs.YtkaaejfochdjcaaDoor
