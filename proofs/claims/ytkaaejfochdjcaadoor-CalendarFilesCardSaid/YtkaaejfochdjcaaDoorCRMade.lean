/-
  The reference's Around, At and Made: numbers made small, spans made of numbers.
-/
import Derived.Test.YtkaaejfochdjcaaDoorCRDay
import Derived.Test.YtkaaejfochdjcaaDoorCBtw
import Derived.Deep.LoopGhost
namespace Go.Proofs.YtkaaejfochdjcaaDoor
open Go.RowKit
open Cal
set_option linter.unusedVariables false
set_option linter.unusedSimpArgs false

def arP (n m : Int) : Int := if n < 0 then (-(n + 1)) % m else n % m
theorem arP_bd (n : Int) {m : Int} (hm : 1 ≤ m) : 0 ≤ arP n m ∧ arP n m < m := by
  unfold arP
  split
  · exact ⟨Int.emod_nonneg _ (by omega), Int.emod_lt_of_pos _ (by omega)⟩
  · exact ⟨Int.emod_nonneg _ (by omega), Int.emod_lt_of_pos _ (by omega)⟩
set_option maxHeartbeats 400000 in
theorem raround_any (n m : Int) (hn1 : -9223372036854775808 ≤ n) (hn2 : n ≤ 9223372036854775807) (hm : 1 ≤ m) (hm2 : m ≤ 9223372036854775807) (w : World) : Calls Tryd.prog 30 #[.int .i64 n, .int .i64 m] w fun e w' => e = .returned (.int .i64 (arP n m)) ∧ w = w' := by
  have hm0 : ¬ m = 0 := by omega
  by_cases h : n < 0
  · have h0 : 0 ≤ -(n + 1) := by omega
    have hq : -((n + 1).tmod m) = arP n m := by unfold arP; rw [if_pos h, ← Int.neg_tmod, Int.tmod_eq_emod_of_nonneg h0]
    have HQ := Lib.hid hq
    clear hq
    go_enter Tryd.func30, Tryd.ntmps30
    go_wp2
    go_ret
    exact ⟨ret_int HQ.out, rfl⟩
  · have h0 : 0 ≤ n := by omega
    have hq : n % m = arP n m := by unfold arP; rw [if_neg h]
    have HQ := Lib.hid hq
    clear hq
    go_enter Tryd.func30, Tryd.ntmps30
    go_wp2
    go_ret
    exact ⟨ret_int HQ.out, rfl⟩
def atP (l : List Int) (i m : Int) : Int := if 0 ≤ i ∧ i < l.length then arP (l.getD i.toNat 0) m else 0
theorem atP_bd (l : List Int) (i : Int) {m : Int} (hm : 1 ≤ m) : 0 ≤ atP l i m ∧ atP l i m < m := by
  unfold atP
  split
  · exact arP_bd _ hm
  · omega
set_option maxHeartbeats 400000 in
theorem rat_any (l : List Int) (A : Option Addr) (n c : Nat) (hn : n = l.length) (hc : n ≤ c) (hcm : c ≤ maxLen) (k : Nat) (hk : k ≤ 4611686018427387904) (m : Int) (hm : 1 ≤ m) (hm2 : m ≤ 9223372036854775807) (w : World) (hr : Rd w A (iv l)) (hi : ∀ x ∈ l, inI x) :
    Calls Tryd.prog 32 #[.slice A n c, .int .i64 (k : Int), .int .i64 m] w fun e w' => e = .returned (.int .i64 (atP l (k : Int) m)) ∧ w = w' := by
  have hm' : c ≤ 9223372036854775807 := by unfold maxLen at hcm; omega
  by_cases hlt : k < n
  · obtain ⟨b, o, rfl, hcell⟩ := hr.open (by intro e; have := congrArg List.length e; rw [iv_length, List.length_nil] at this; omega)
    obtain ⟨x, hx⟩ : ∃ x, x = l.getD k 0 := ⟨_, rfl⟩
    have hkl : k < l.length := by omega
    have hc0 : w.cell? ⟨b, o + k, none⟩ = some (.int .i64 x) := by
      refine hcell k _ ?_
      rw [hx]
      simp [iv, List.getD, hkl]
    have hxi : inI x := by rw [hx]; exact hi _ (by simp [List.getD, hkl])
    have hq : arP x m = atP l (k : Int) m := by unfold atP; rw [if_pos ⟨by omega, by omega⟩, hx]; rfl
    have HA := Lib.hid (raround_any x m hxi.1 hxi.2 hm hm2 w)
    have HQ := Lib.hid hq
    clear hr hcell hx hxi hq hi hn
    go_enter Tryd.func32, Tryd.ntmps32
    go_wp2_with ((with_reducible refine HA.out.mono ?_); rintro e w1 ⟨rfl, rfl⟩)
    go_ret
    exact ⟨ret_int HQ.out, rfl⟩
  · have hq : 0 = atP l (k : Int) m := by unfold atP; rw [if_neg (by omega)]
    have HQ := Lib.hid hq
    clear hr hi hq hn
    go_enter Tryd.func32, Tryd.ntmps32
    go_wp2_with fail
    go_ret
    exact ⟨ret_int HQ.out, rfl⟩
theorem tdiv7 {b : Int} (h1 : -9223372036854775808 ≤ b) (h2 : b ≤ 9223372036854775807) : -9223372036854775808 ≤ b.tdiv 7 ∧ b.tdiv 7 ≤ 9223372036854775807 := by
  rcases Int.lt_or_le b 0 with h | h
  · have e : b.tdiv 7 = -((-b) / 7) := by rw [← Int.tdiv_eq_ediv_of_nonneg (by omega), Int.neg_tdiv, Int.neg_neg]
    rw [e]
    omega
  · rw [Int.tdiv_eq_ediv_of_nonneg h]
    omega
def MadePost (w : World) (e : Ending) (w' : World) : Prop := ∃ p q : Int, e = .returned (.agg #[.int .i64 p, .int .i64 q]) ∧ vaB p q = true ∧ Below w.heap.size w w'
theorem made_ok {p q : Int} (h : 1 ≤ p ∧ p ≤ q ∧ q ≤ 1022679) : vaB p q = true := by unfold vaB; exact decide_eq_true (p := okS p q) h
theorem years_ok {y z : Int} (h1 : 1 ≤ y) (h2 : y ≤ z) (h3 : z ≤ 2800) : 1 ≤ 1 + dby y ∧ 1 + dby y ≤ 1 + dby (z + 1) - 1 ∧ 1 + dby (z + 1) - 1 ≤ 1022679 := by
  have a := dby_bd (y := y) h1 (by omega)
  have b := dby_bd (y := z + 1) (by omega) (by omega)
  have c := dby_far (a := y) (b := z + 1) (by omega)
  omega

set_option maxRecDepth 100000 in
set_option maxHeartbeats 4000000 in
theorem made_any (a b : Int) (ha : inI a) (hb : inI b) (w : World) : Calls Tryd.prog 27 #[.int .i64 a, .int .i64 b] w (MadePost w) := by
  have hb7 := tdiv7 hb.1 hb.2
  have h1 := arP_bd a (m := 1022679) (by omega)
  have h2 := arP_bd b (m := 7) (by omega)
  have HR1 : Hid (∀ W, Calls Tryd.prog 30 #[.int .i64 a, .int .i64 1022679] W fun e w' => e = .returned (.int .i64 (arP a 1022679)) ∧ W = w') := Lib.hid fun W => raround_any a 1022679 ha.1 ha.2 (by omega) (by omega) W
  have HR2 : Hid (∀ W, Calls Tryd.prog 30 #[.int .i64 b, .int .i64 7] W fun e w' => e = .returned (.int .i64 (arP b 7)) ∧ W = w') := Lib.hid fun W => raround_any b 7 hb.1 hb.2 (by omega) (by omega) W
  have HR3 : Hid (∀ W, Calls Tryd.prog 30 #[.int .i64 (b.tdiv 7), .int .i64 30] W fun e w' => e = .returned (.int .i64 (arP (b.tdiv 7) 30)) ∧ W = w') := Lib.hid fun W => raround_any (b.tdiv 7) 30 hb7.1 hb7.2 (by omega) (by omega) W
  have HR4 : Hid (∀ W, Calls Tryd.prog 30 #[.int .i64 (b.tdiv 7), .int .i64 2000] W fun e w' => e = .returned (.int .i64 (arP (b.tdiv 7) 2000)) ∧ W = w') := Lib.hid fun W => raround_any (b.tdiv 7) 2000 hb7.1 hb7.2 (by omega) (by omega) W
  have h3 := arP_bd (b.tdiv 7) (m := 30) (by omega)
  have h4 := arP_bd (b.tdiv 7) (m := 2000) (by omega)
  obtain ⟨hbq1, hbq2⟩ := hb7
  obtain ⟨hbp1, hbp2⟩ := hb
  clear ha
  generalize arP a 1022679 = x at *
  generalize arP b 7 = r at *
  generalize arP (b.tdiv 7) 30 = u at *
  generalize arP (b.tdiv 7) 2000 = v at *
  have hx := date_ex (n := 1 + x) (by omega) (by omega)
  have HD : Hid (∀ W, Calls Tryd.prog 15 #[.int .i64 (1 + x)] W fun e w' => e = ret4 (yOf (1 + x)) (mOf (1 + x)) (dOf (1 + x)) 0 ∧ W = w') := Lib.hid fun W => rdate_yes (1 + x) (by omega) (by omega) W
  generalize yOf (1 + x) = y at *
  generalize mOf (1 + x) = m at *
  generalize dOf (1 + x) = d at *
  obtain ⟨⟨y1, y2, m1, m2, _, _⟩, _⟩ := hx
  by_cases h0 : r = 0
  · subst h0
    have hd1 := dby_bd (y := y) y1 (by omega)
    have hd2 := dby_bd (y := y + 1) (by omega) (by omega)
    have HO := Lib.hid (made_ok (years_ok (y := y) (z := y) y1 (by omega) y2))
    go_enter Tryd.func27, Tryd.ntmps27
    go_wp2_with (first
      | ((with_reducible refine (HR1.out _).mono ?_); rintro e w1 ⟨rfl, rfl⟩)
      | ((with_reducible refine (HD.out _).mono ?_); rintro e w1 ⟨rfl, rfl⟩; unfold ret4)
      | ((with_reducible refine (HR2.out _).mono ?_); rintro e w1 ⟨rfl, rfl⟩)
      | ((with_reducible refine (rstart_any (y) (by omega) (by omega) _).mono ?_); rintro e w1 ⟨rfl, rfl⟩)
      | ((with_reducible refine (rstart_any (y + 1) (by omega) (by omega) _).mono ?_); rintro e w1 ⟨rfl, rfl⟩))
    exact ret_blk rfl w.heap.size rfl (Blk.at w (iv [_, _]) _ 30 _ rfl rfl) _ Tryd.underlying30 rfl Tryd.sizeSpan rfl ⟨_, _, rfl, HO.out, below_a1 _ _⟩
  · have hr0 : (r == 0) = false := beq_eq_false_iff_ne.2 h0
    by_cases h01 : r = 1
    · subst h01
      have hd1 := dby_bd (y := max 1 (y - 5)) (by omega) (by omega)
      have hd2 := dby_bd (y := min 2800 (y + 4) + 1) (by omega) (by omega)
      have HO := Lib.hid (made_ok (years_ok (y := max 1 (y - 5)) (z := min 2800 (y + 4)) (by omega) (by omega) (by omega)))
      go_enter Tryd.func27, Tryd.ntmps27
      go_wp2_with (first
        | ((with_reducible refine (HR1.out _).mono ?_); rintro e w1 ⟨rfl, rfl⟩)
        | ((with_reducible refine (HD.out _).mono ?_); rintro e w1 ⟨rfl, rfl⟩; unfold ret4)
        | ((with_reducible refine (HR2.out _).mono ?_); rintro e w1 ⟨rfl, rfl⟩)
        | ((with_reducible refine (rstart_any (max 1 (y - 5)) (by omega) (by omega) _).mono ?_); rintro e w1 ⟨rfl, rfl⟩)
        | ((with_reducible refine (rstart_any (min 2800 (y + 4) + 1) (by omega) (by omega) _).mono ?_); rintro e w1 ⟨rfl, rfl⟩))
      exact ret_blk rfl w.heap.size rfl (Blk.at w (iv [_, _]) _ 30 _ rfl rfl) _ Tryd.underlying30 rfl Tryd.sizeSpan rfl ⟨_, _, rfl, HO.out, below_a1 _ _⟩
    · have hr1 : (r == 1) = false := beq_eq_false_iff_ne.2 h01
      by_cases h02 : r = 2
      · subst h02
        have hex : Ex y m 1 := ⟨y1, y2, m1, m2, by omega, by have := ml_bd y m; omega⟩
        have hml := ml_bd y m
        have hlast := num_bd (y := y) (m := m) (d := ml y m) ⟨y1, y2, m1, m2, by omega, by omega⟩
        have hnb := num_bd hex
        have HO : Hid (vaB (num y m 1) (num y m 1 + ml y m - 1) = true) := Lib.hid (made_ok ⟨hnb.1, by omega, by unfold num at *; omega⟩)
        have HDy : Hid (∀ W, Calls Tryd.prog 13 #[.int .i64 y, .int .i64 m, .int .i64 1] W fun e w' => e = .returned (.tuple #[.int .i64 (num y m 1), .int .i64 0]) ∧ W = w') := Lib.hid fun W => rday_yes y m 1 hex W
        clear hex hlast
        go_enter Tryd.func27, Tryd.ntmps27
        go_wp2_with (first
          | ((with_reducible refine (HR1.out _).mono ?_); rintro e w1 ⟨rfl, rfl⟩)
          | ((with_reducible refine (HD.out _).mono ?_); rintro e w1 ⟨rfl, rfl⟩; unfold ret4)
          | ((with_reducible refine (HR2.out _).mono ?_); rintro e w1 ⟨rfl, rfl⟩)
          | ((with_reducible refine (HDy.out _).mono ?_); rintro e w1 ⟨rfl, rfl⟩)
          | ((with_reducible refine (rlen_any y m y1 (by omega) _).mono ?_); rintro e w1 ⟨rfl, rfl⟩))
        exact ret_blk rfl w.heap.size rfl (Blk.at w (iv [_, _]) _ 30 _ rfl rfl) _ Tryd.underlying30 rfl Tryd.sizeSpan rfl ⟨_, _, rfl, HO.out, below_a1 _ _⟩
      · have hr2 : (r == 2) = false := beq_eq_false_iff_ne.2 h02
        by_cases h03 : r = 3
        · subst h03
          have HO : Hid (vaB (1 + x) (1 + x) = true) := Lib.hid (made_ok ⟨by omega, by omega, by omega⟩)
          go_enter Tryd.func27, Tryd.ntmps27
          go_wp2_with (first
            | ((with_reducible refine (HR1.out _).mono ?_); rintro e w1 ⟨rfl, rfl⟩)
            | ((with_reducible refine (HD.out _).mono ?_); rintro e w1 ⟨rfl, rfl⟩; unfold ret4)
            | ((with_reducible refine (HR2.out _).mono ?_); rintro e w1 ⟨rfl, rfl⟩))
          exact ret_blk rfl w.heap.size rfl (Blk.at w (iv [_, _]) _ 30 _ rfl rfl) _ Tryd.underlying30 rfl Tryd.sizeSpan rfl ⟨_, _, rfl, HO.out, below_a1 _ _⟩
        · have hr3 : (r == 3) = false := beq_eq_false_iff_ne.2 h03
          by_cases h04 : r = 4
          · subst h04
            have hd1 := dby_bd (y := y) y1 (by omega)
            have hd2 := dby_bd (y := min 2800 (y + u) + 1) (by omega) (by omega)
            have HO := Lib.hid (made_ok (years_ok (y := y) (z := min 2800 (y + u)) y1 (by omega) (by omega)))
            go_enter Tryd.func27, Tryd.ntmps27
            go_wp2_with (first
              | ((with_reducible refine (HR1.out _).mono ?_); rintro e w1 ⟨rfl, rfl⟩)
              | ((with_reducible refine (HD.out _).mono ?_); rintro e w1 ⟨rfl, rfl⟩; unfold ret4)
              | ((with_reducible refine (HR2.out _).mono ?_); rintro e w1 ⟨rfl, rfl⟩)
              | ((with_reducible refine (HR3.out _).mono ?_); rintro e w1 ⟨rfl, rfl⟩)
              | ((with_reducible refine (rstart_any (y) (by omega) (by omega) _).mono ?_); rintro e w1 ⟨rfl, rfl⟩)
              | ((with_reducible refine (rstart_any (min 2800 (y + u) + 1) (by omega) (by omega) _).mono ?_); rintro e w1 ⟨rfl, rfl⟩))
            exact ret_blk rfl w.heap.size rfl (Blk.at w (iv [_, _]) _ 30 _ rfl rfl) _ Tryd.underlying30 rfl Tryd.sizeSpan rfl ⟨_, _, rfl, HO.out, below_a1 _ _⟩
          · have hr4 : (r == 4) = false := beq_eq_false_iff_ne.2 h04
            have HO : Hid (vaB (1 + x) (min 1022679 (1 + x + v)) = true) := Lib.hid (made_ok ⟨by omega, by omega, by omega⟩)
            go_enter Tryd.func27, Tryd.ntmps27
            go_wp2_with (first
              | ((with_reducible refine (HR1.out _).mono ?_); rintro e w1 ⟨rfl, rfl⟩)
              | ((with_reducible refine (HD.out _).mono ?_); rintro e w1 ⟨rfl, rfl⟩; unfold ret4)
              | ((with_reducible refine (HR2.out _).mono ?_); rintro e w1 ⟨rfl, rfl⟩)
              | ((with_reducible refine (HR4.out _).mono ?_); rintro e w1 ⟨rfl, rfl⟩))
            exact ret_blk rfl w.heap.size rfl (Blk.at w (iv [_, _]) _ 30 _ rfl rfl) _ Tryd.underlying30 rfl Tryd.sizeSpan rfl ⟨_, _, rfl, HO.out, below_a1 _ _⟩
end Go.Proofs.YtkaaejfochdjcaaDoor
