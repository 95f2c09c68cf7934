/-
  The reference's Around, At, Short, pool.
-/
import Derived.Test.YtalladdmedmfeaaAFold
namespace Go.Proofs.Ytalladdmedmfeaa
open Go.RowKit
open Alp
set_option linter.unusedVariables false
set_option linter.unusedSimpArgs false

def arP (n m : Int) : Int := if n < 0 then (-(n + 1)) % m else n % m
theorem arP_bd (n : Int) {m : Int} (hm : 1 ≤ m) : 0 ≤ arP n m ∧ arP n m < m := by
  unfold arP
  split
  · exact ⟨Int.emod_nonneg _ (by omega), Int.emod_lt_of_pos _ (by omega)⟩
  · exact ⟨Int.emod_nonneg _ (by omega), Int.emod_lt_of_pos _ (by omega)⟩
set_option maxHeartbeats 400000 in
theorem raround_any (n m : Int) (hn1 : -9223372036854775808 ≤ n) (hn2 : n ≤ 9223372036854775807) (hm : 1 ≤ m) (hm2 : m ≤ 9223372036854775807) (w : World) : Calls Try.prog 27 #[.int .i64 n, .int .i64 m] w fun e w' => e = .returned (.int .i64 (arP n m)) ∧ w = w' := by
  have hm0 : ¬ m = 0 := by omega
  by_cases h : n < 0
  · have h0 : 0 ≤ -(n + 1) := by omega
    have hq : -((n + 1).tmod m) = arP n m := by unfold arP; rw [if_pos h, ← Int.neg_tmod, Int.tmod_eq_emod_of_nonneg h0]
    have HQ := Lib.hid hq
    clear hq
    go_enter Try.func27, Try.ntmps27
    go_wp2
    go_ret
    exact ⟨ret_int HQ.out, rfl⟩
  · have h0 : 0 ≤ n := by omega
    have hq : n % m = arP n m := by unfold arP; rw [if_neg h]
    have HQ := Lib.hid hq
    clear hq
    go_enter Try.func27, Try.ntmps27
    go_wp2
    go_ret
    exact ⟨ret_int HQ.out, rfl⟩
def atP (l : List Int) (i m : Int) : Int := if 0 ≤ i ∧ i < l.length then arP (l.getD i.toNat 0) m else 0
theorem atP_bd (l : List Int) (i : Int) {m : Int} (hm : 1 ≤ m) : 0 ≤ atP l i m ∧ atP l i m < m := by
  unfold atP
  split
  · exact arP_bd _ hm
  · omega
set_option maxHeartbeats 400000 in
theorem rat_any (l : List Int) (A : Option Addr) (n c : Nat) (hn : n = l.length) (hc : n ≤ c) (hcm : c ≤ maxLen) (k : Nat) (hk : k ≤ 4611686018427387904) (m : Int) (hm : 1 ≤ m) (hm2 : m ≤ 9223372036854775807) (w : World) (hr : Rd w A (iv l)) (hi : ∀ x ∈ l, inI x) :
    Calls Try.prog 37 #[.slice A n c, .int .i64 (k : Int), .int .i64 m] w fun e w' => e = .returned (.int .i64 (atP l (k : Int) m)) ∧ w = w' := by
  have hm' : c ≤ 9223372036854775807 := by unfold maxLen at hcm; omega
  by_cases hlt : k < n
  · obtain ⟨b, o, rfl, hcell⟩ := hr.open (by intro e; have := congrArg List.length e; rw [iv_length, List.length_nil] at this; omega)
    obtain ⟨x, hx⟩ : ∃ x, x = l.getD k 0 := ⟨_, rfl⟩
    have hkl : k < l.length := by omega
    have hc0 : w.cell? ⟨b, o + k, none⟩ = some (.int .i64 x) := by
      refine hcell k _ ?_
      rw [hx]
      simp [iv, List.getD, hkl]
    have hxi : inI x := by rw [hx]; exact hi _ (by simp [List.getD, hkl])
    have hq : arP x m = atP l (k : Int) m := by unfold atP; rw [if_pos ⟨by omega, by omega⟩, hx]; rfl
    have HA := Lib.hid (raround_any x m hxi.1 hxi.2 hm hm2 w)
    have HQ := Lib.hid hq
    clear hr hcell hx hxi hq hi hn
    go_enter Try.func37, Try.ntmps37
    go_wp2_with ((with_reducible refine HA.out.mono ?_); rintro e w1 ⟨rfl, rfl⟩)
    go_ret
    exact ⟨ret_int HQ.out, rfl⟩
  · have hq : 0 = atP l (k : Int) m := by unfold atP; rw [if_neg (by omega)]
    have HQ := Lib.hid hq
    clear hr hi hq hn
    go_enter Try.func37, Try.ntmps37
    go_wp2_with fail
    go_ret
    exact ⟨ret_int HQ.out, rfl⟩
def poolL : List B := [[97], [98], [99], [101], [105], [110], [115], [116], [99, 104], [195, 169], [65], [115, 99, 104], [104], [108], [195, 182], [117]]
def poolT (k : Nat) : B := poolL.getD k []
theorem rpool_any (k : Nat) (hk : k < 16) (w : World) : Calls Try.prog 38 #[.int .i64 (k : Int)] w fun e w' => e = .returned (.string (tb (poolT k))) ∧ Below w.heap.size w w' := by
  have hc : (w.alloc (.cells #[.string ⟨#[97]⟩, .string ⟨#[98]⟩, .string ⟨#[99]⟩, .string ⟨#[101]⟩, .string ⟨#[105]⟩, .string ⟨#[110]⟩, .string ⟨#[115]⟩, .string ⟨#[116]⟩, .string ⟨#[99, 104]⟩, .string ⟨#[195, 169]⟩, .string ⟨#[65]⟩, .string ⟨#[115, 99, 104]⟩, .string ⟨#[104]⟩, .string ⟨#[108]⟩, .string ⟨#[195, 182]⟩, .string ⟨#[117]⟩] 9)).cell? ⟨w.heap.size, k, none⟩ = some (.string (tb (poolT k))) :=
    (Blk.at w (tv poolL) _ 9 _ rfl rfl).cell (tv_get poolL k hk)
  go_enter Try.func38, Try.ntmps38
  go_wp2_with fail
  go_ret
  exact ⟨rfl, below_a1 _ _⟩
end Go.Proofs.Ytalladdmedmfeaa
