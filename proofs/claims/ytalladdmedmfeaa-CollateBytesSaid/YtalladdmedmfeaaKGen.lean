/-
  The reference's num and sister.
-/
import Derived.Test.YtalladdmedmfeaaKProg
import Derived.Deep.QuietTactic
namespace Go.Proofs.Ytalladdmedmfeaa
open Go.RowKit
open Alp
open Col
set_option linter.unusedVariables false
set_option linter.unusedSimpArgs false

def NPost (w : World) (v : Nat) (e : Ending) (w' : World) : Prop := e = .returned (.int .i64 (v : Int)) ∧ w = w'
def numP (l : List Int) (i : Nat) : Nat := if l.length = 0 then 0 else (if 0 ≤ l.getD (i % l.length) 0 then (l.getD (i % l.length) 0 % 1048576).toNat else ((-(l.getD (i % l.length) 0)) % 1048576).toNat) + 13 * (i / l.length)
theorem num_mul {i n B : Nat} (h : i ≤ B) : i / n ≤ B := Nat.le_trans (Nat.div_le_self i n) h
theorem numP_bd (l : List Int) {i : Nat} (hi : i ≤ 10000) : numP l i ≤ 1200000 := by
  unfold numP
  split
  · omega
  · have := num_mul (n := l.length) hi
    split <;> omega
set_option maxRecDepth 1000000 in
set_option maxHeartbeats 4000000 in
theorem num_any (l : List Int) (A : Option Addr) (n c : Nat) (hn : n = l.length) (hc : n ≤ c) (hcm : c ≤ maxLen) (hi : ∀ x ∈ l, inI x) (i : Nat) (hib : i ≤ 10000) (w : World) (hr : Rd w A (iv l)) :
    Calls Try.prog 40 #[.slice A n c, .int .i64 (i : Int)] w (NPost w (numP l i)) := by
  have hm' : c ≤ 9223372036854775807 := by unfold maxLen at hcm; omega
  by_cases h0 : n = 0
  · subst h0
    have HE : Hid (NPost w (numP l i) (.returned (.int .i64 0)) w) := Lib.hid ⟨by unfold numP; rw [if_pos hn.symm]; rfl, rfl⟩
    clear hr hi hn
    go_enter Try.func40, Try.ntmps40
    go_wp2_with fail
    go_ret
    exact HE.out
  · obtain ⟨k, hk⟩ : ∃ k, k = i % n := ⟨_, rfl⟩
    have hkn : k < n := by rw [hk]; exact Nat.mod_lt _ (by omega)
    have hne : ((n : Int) == 0) = false := beq_eq_false_iff_ne.2 (by omega)
    have hki : (i : Int) % (n : Int) = (k : Int) := by rw [hk]; omega
    obtain ⟨d, hd⟩ : ∃ d, d = i / n := ⟨_, rfl⟩
    have hdb : d ≤ 10000 := by rw [hd]; exact num_mul hib
    have hdi : (i : Int) / (n : Int) = (d : Int) := by rw [hd]; exact (Int.natCast_ediv i n).symm
    have hn0 : ¬ n = 0 := h0
    obtain ⟨b, o, rfl, hil⟩ := il_open hr (by intro e; subst e; exact h0 hn)
    obtain ⟨x, hx⟩ : ∃ x, x = l.getD k 0 := ⟨_, rfl⟩
    have hcx : w.cell? ⟨b, o + k, none⟩ = some (.int .i64 x) := by rw [hx]; exact hil k (by omega)
    have hxi : inI x := by rw [hx]; exact hi _ (by simp [List.getD, (by omega : k < l.length)])
    obtain ⟨hx1, hx2⟩ := hxi
    have HP : Hid (numP l i = (if 0 ≤ x then (x % 1048576).toNat else ((-x) % 1048576).toNat) + 13 * d) := Lib.hid (by unfold numP; rw [if_neg (by omega), ← hn, ← hk, ← hd, ← hx])
    clear hr hil hi hx hk hd hn h0
    by_cases hx0 : 0 ≤ x
    · obtain ⟨r, hr⟩ : ∃ r : Nat, x % 1048576 = (r : Int) := ⟨(x % 1048576).toNat, by omega⟩
      have hrb : r < 1048576 := by omega
      have hr0 : ¬ (r : Int) < 0 := by omega
      have ht : x.tmod 1048576 = (r : Int) := by rw [Int.tmod_eq_emod_of_nonneg hx0, hr]
      have HE : Hid (NPost w (numP l i) (.returned (.int .i64 ((r : Int) + 13 * (d : Int)))) w) := Lib.hid ⟨ret_int (by rw [HP.out, if_pos hx0, hr]; omega), rfl⟩
      go_enter Try.func40, Try.ntmps40
      go_wp2_with fail
      go_ret
      exact HE.out
    · have hx3 : 0 ≤ -x := by omega
      obtain ⟨r, hr⟩ : ∃ r : Nat, (-x) % 1048576 = (r : Int) := ⟨((-x) % 1048576).toNat, by omega⟩
      have hrb : r < 1048576 := by omega
      have ht : x.tmod 1048576 = -(r : Int) := by rw [← hr, ← Int.tmod_eq_emod_of_nonneg hx3, Int.neg_tmod, Int.neg_neg]
      have HE : Hid (NPost w (numP l i) (.returned (.int .i64 ((r : Int) + 13 * (d : Int)))) w) := Lib.hid ⟨ret_int (by rw [HP.out, if_neg hx0, hr]; omega), rfl⟩
      clear hr
      by_cases hr0 : r = 0
      · subst hr0
        have ht : x.tmod 1048576 = 0 := ht
        have HE : Hid (NPost w (numP l i) (.returned (.int .i64 (13 * (d : Int)))) w) := Lib.hid (by have := HE.out; simpa using this)
        go_enter Try.func40, Try.ntmps40
        go_wp2_with fail
        go_ret
        exact HE.out
      · have hr1 : -(r : Int) < 0 := by omega
        have hnn : - -(r : Int) = (r : Int) := by omega
        go_enter Try.func40, Try.ntmps40
        go_wp2_with fail
        go_ret
        exact HE.out
set_option maxRecDepth 1000000 in
set_option maxHeartbeats 4000000 in
theorem sister_out (A : Option Addr) (q c : Nat) (x : Int) (f : Nat) (hx : x < 0 ∨ (q : Int) ≤ x) (w : World) : Calls Try.prog 41 #[.slice A q c, .int .i64 x, .int .i64 (f : Int)] w (IPost w x) := by
  by_cases h0 : x < 0
  · have d1 : decide (x < 0) = true := decide_eq_true h0
    go_enter Try.func41, Try.ntmps41
    go_wp2_with fail
    go_ret
    exact ⟨rfl, Below.refl _ _⟩
  · have d1 : decide (x < 0) = false := decide_eq_false h0
    have d2 : decide ((q : Int) ≤ x) = true := decide_eq_true (by omega)
    go_enter Try.func41, Try.ntmps41
    go_wp2_with fail
    go_ret
    exact ⟨rfl, Below.refl _ _⟩
set_option maxRecDepth 1000000 in
set_option maxHeartbeats 4000000 in
theorem sister_in (L : List Lt) (b o q c x f : Nat) (hq : q = L.length) (hqc : q ≤ c) (hcm : c ≤ maxLen) (hx : x < q) (hq60 : q ≤ 60) (hf : f ≤ 1200000) (w : World) (hr : RL w b o L) : Calls Try.prog 41 #[.slice (some ⟨b, o, none⟩) q c, .int .i64 (x : Int), .int .i64 (f : Int)] w fun e w' => ∃ v : Int, e = .returned (.int .i64 v) ∧ Below w.heap.size w w' := by
  have hm' : c ≤ 9223372036854775807 := by unfold maxLen at hcm; omega
  have d1 : decide ((x : Int) < 0) = false := decide_eq_false (by omega)
  have d2 : decide ((q : Int) ≤ (x : Int)) = false := decide_eq_false (by omega)
  have hq0 : ¬ q = 0 := by omega
  have hqm : q ≤ 9223372036854775807 := by omega
  obtain ⟨bx, hbx⟩ : ∃ bx, bx = (L.getD x z).base := ⟨_, rfl⟩
  have hcx : w.cell? ⟨b, o + x * 5 + 1, none⟩ = some (.int .i64 bx) := by rw [hbx]; exact hr.c1 (by omega) rfl
  have HR := Lib.hid hr
  have HQ := Lib.hid hq
  clear hbx hr hq
  go_enter Try.func41, Try.ntmps41
  go_wp2_with fail
  go_loopg [7, 8] q (fun gg s7 s8 wr => ∃ (i : Nat), i + gg = q ∧ s7 = .int .i64 (i : Int) ∧ Hid (Below w.heap.size w wr))
  case atStart => exact ⟨0, by omega, rfl, Lib.hid (Below.refl _ _)⟩
  case round =>
    obtain ⟨i, hi, rfl, HI⟩ := hrel
    by_cases hlt : i < q
    · obtain ⟨gg, rfl⟩ : ∃ x, gk = x + 1 := ⟨gk - 1, by omega⟩
      obtain ⟨k, hk⟩ : ∃ k, k = (f + i) % q := ⟨_, rfl⟩
      have hkq : k < q := by rw [hk]; exact Nat.mod_lt _ (by omega)
      have hki : ((f : Int) + (i : Int)) % (q : Int) = (k : Int) := by rw [hk, Int.natCast_emod, Int.natCast_add]
      obtain ⟨y, hy⟩ : ∃ y, y = (L.getD k z).base := ⟨_, rfl⟩
      have hcy : wr.cell? ⟨b, o + k * 5 + 1, none⟩ = some (.int .i64 y) := by rw [hy]; exact (HR.out.below HI.out).c1 (by rw [← HQ.out]; exact hkq) rfl
      have hcx2 : wr.cell? ⟨b, o + x * 5 + 1, none⟩ = some (.int .i64 bx) := (HI.out.cell (p := ⟨b, o + x * 5 + 1, none⟩) (World.block_lt_of_cell? w _ hcx)).trans hcx
      have x0 : (0 : Int) ≤ (x : Int) := by omega
      have x1 : (x : Int) < (q : Int) := by omega
      have k0 : (0 : Int) ≤ (k : Int) := by omega
      have k1 : (k : Int) < (q : Int) := by omega
      have HCX := Lib.hid hcx
      clear hk hy hcx
      by_cases he : y = bx
      · have d3 : (y == bx) = true := by rw [he]; simp
        clear he
        go_wp2_with fail
        go_quiet (fail)
        go_wp2_with fail
        go_ret
        exact ⟨_, rfl, below_drewN HI.out _⟩
      · have d3 : (y == bx) = false := beq_eq_false_iff_ne.2 he
        clear he
        go_wp2_with fail
        go_quiet (fail)
        go_wp2_with fail
        go_roundg gg
        case rel => exact ⟨i + 1, by omega, by go_num, Lib.hid (below_drewN HI.out _)⟩
        case measure => omega
    · obtain rfl : i = q := by omega
      go_wp2_with fail
      go_ret
      exact ⟨_, rfl, HI.out⟩
theorem sister_any (L : List Lt) (A : Option Addr) (q c : Nat) (x : Int) (f : Nat) (hq60 : q ≤ 60) (hf : f ≤ 1200000) (w : World) (ha : AlR w L A q c) : Calls Try.prog 41 #[.slice A q c, .int .i64 x, .int .i64 (f : Int)] w fun e w' => ∃ v : Int, e = .returned (.int .i64 v) ∧ Below w.heap.size w w' := by
  by_cases h : 0 ≤ x ∧ x < (q : Int)
  · obtain ⟨b, o, rfl, hrl⟩ := rl_open ha.rd (by intro e; have := ha.len; rw [e] at this; simp at this; omega)
    obtain ⟨y, rfl⟩ : ∃ y : Nat, x = y := ⟨x.toNat, by omega⟩
    exact sister_in L b o q c y f ha.len ha.cap ha.max (by omega) hq60 hf w hrl
  · exact (sister_out A q c x f (by omega) w).mono fun e w' hp => ⟨x, hp.1, hp.2⟩
end Go.Proofs.Ytalladdmedmfeaa
