/-
  The reference's Letters, Word, Text.
-/
import Derived.Test.YtalladdmedmfeaaAGenP
import Derived.Test.YtalladdmedmfeaaKTool
namespace Go.Proofs.Ytalladdmedmfeaa
open Go.RowKit
open Alp
set_option linter.unusedVariables false
set_option linter.unusedSimpArgs false

/-- A list of letters. -/
def LtPost (w : World) (R : List Lt) (e : Ending) (w' : World) : Prop := ∃ (A : Option Addr) (n c : Nat), e = .returned (.slice A n c) ∧ n = R.length ∧ Rd w' A (lv R) ∧ n ≤ c ∧ c ≤ maxLen ∧ Below w.heap.size w w'
theorem lt_out {w w' : World} {R : List Lt} {e : Ending} (h : LtPost w R e w') : ∃ (A : Option Addr) (n c : Nat), e = .returned (.slice A n c) ∧ n = R.length ∧ Rd w' A (lv R) ∧ n ≤ c ∧ c ≤ maxLen ∧ Below w.heap.size w w' := h
/-- What Letters keeps. -/
def LeI (w : World) (l : List Int) (st k : Nat) (v : Value) (wr : World) : Prop := wr.ownsRow w.heap.size 54 5 v k (lv (genG l st k)) ∧ Below w.heap.size w wr
set_option maxRecDepth 100000 in
set_option maxHeartbeats 4000000 in
theorem letters_any (l : List Int) (A : Option Addr) (n c : Nat) (hn : n = l.length) (hc : n ≤ c) (hcm : c ≤ maxLen) (hi : ∀ x ∈ l, inI x) (w : World) (hr : Rd w A (iv l)) : Calls Try.prog 12 #[.slice A n c] w (LtPost w (lettersP l)) := by
  obtain ⟨i0, hi0, hz0, hz1, hz2⟩ := info_parts Try.infoLt
  have HAT : Hid (∀ (j : Nat) (m : Int), j ≤ 1000 → 1 ≤ m → m ≤ 1000 → ∀ W, Below w.heap.size w W → Calls Try.prog 37 #[.slice A n c, .int .i64 (j : Int), .int .i64 m] W fun e w' => e = .returned (.int .i64 (atP l (j : Int) m)) ∧ W = w') := Lib.hid fun j m hj h1 h2 W hb => rat_any l A n c hn hc hcm j (by omega) m h1 (by omega) W (hr.below hb) hi
  obtain ⟨N, hN⟩ : ∃ N, N = genN l := ⟨_, rfl⟩
  obtain ⟨st, hst⟩ : ∃ st, st = genS l := ⟨_, rfl⟩
  obtain ⟨a0, ha0⟩ : ∃ a, a = atP l ((0 : Nat) : Int) 6 := ⟨_, rfl⟩
  have hNa : 3 + a0 = (N : Int) := by have := genN_bd l; have := atP_bd l ((0 : Nat) : Int) (m := 6) (by omega); rw [hN, ha0]; unfold genN; omega
  have hsa : atP l ((1 : Nat) : Int) 16 = (st : Int) := by have := atP_bd l ((1 : Nat) : Int) (m := 16) (by omega); rw [hst]; unfold genS; omega
  have hN8 : N ≤ 8 := by rw [hN]; exact (genN_bd l).2
  have hst16 : st < 16 := by rw [hst]; exact genS_bd l
  have ha0b : 0 ≤ a0 ∧ a0 < 6 := by rw [ha0]; exact atP_bd l _ (by omega)
  have H0 : Hid (∀ W, Below w.heap.size w W → Calls Try.prog 37 #[.slice A n c, .int .i64 0, .int .i64 6] W fun e w' => e = .returned (.int .i64 a0) ∧ W = w') := Lib.hid fun W hb => by rw [ha0]; exact HAT.out 0 6 (by omega) (by omega) (by omega) W hb
  have H1 : Hid (∀ W, Below w.heap.size w W → Calls Try.prog 37 #[.slice A n c, .int .i64 1, .int .i64 16] W fun e w' => e = .returned (.int .i64 (st : Int)) ∧ W = w') := Lib.hid fun W hb => by rw [← hsa]; exact HAT.out 1 16 (by omega) (by omega) (by omega) W hb
  have HF : Hid (lettersP l = genG l st N ∧ 3 + a0 = (N : Int)) := Lib.hid ⟨by rw [hst, hN]; rfl, hNa⟩
  clear hn hi hr hN hst ha0 hsa hcm
  go_enter Try.func12, Try.ntmps12
  go_wp2_with (first
    | ((with_reducible refine (H0.out _ (Below.refl _ _)).mono ?_); rintro e w0 ⟨rfl, rfl⟩)
    | ((with_reducible refine (H1.out _ (Below.refl _ _)).mono ?_); rintro e w0 ⟨rfl, rfl⟩))
  go_loopg [5, 6, 7] N (fun g s5 s6 s7 wr => ∃ (k : Nat), k + g = N ∧ s6 = .int .i64 (k : Int) ∧ Hid (LeI w l st k s5 wr))
  case atStart => exact ⟨0, by omega, rfl, Lib.hid ⟨⟨rfl, .inl ⟨rfl, rfl⟩⟩, Below.refl _ _⟩⟩
  case round =>
    obtain ⟨k, hk, rfl, HI⟩ := hrel
    obtain ⟨A2, c2, hv, hrd, hmc, hm2⟩ := Rd.of_own HI.out.1
    subst hv
    have HRD := Lib.hid hrd
    have HBW : Hid (Below w.heap.size w wr) := Lib.hid HI.out.2
    clear hrd
    by_cases hlt : k < N
    · obtain ⟨g, rfl⟩ : ∃ g, gk = g + 1 := ⟨gk - 1, by omega⟩
      obtain ⟨p, hp⟩ : ∃ p : Nat, p = (st + k) % 16 := ⟨_, rfl⟩
      obtain ⟨D, hD⟩ : ∃ D, D = genG l st k := ⟨_, rfl⟩
      have hDl : D.length = k := by rw [hD]; exact genG_len l st k
      obtain ⟨x2, hx2⟩ : ∃ x, x = atP l ((2 + k : Nat) : Int) 9 := ⟨_, rfl⟩
      obtain ⟨x10, hx10⟩ : ∃ x, x = atP l ((10 + k : Nat) : Int) 3 := ⟨_, rfl⟩
      have b2 : 0 ≤ x2 ∧ x2 < 9 := by rw [hx2]; exact atP_bd l _ (by omega)
      have hpm : ((st : Int) + (k : Int)).tmod 16 = (p : Int) := by rw [Int.tmod_eq_emod_of_nonneg (by omega)]; omega
      have HP : Hid (∀ W, Calls Try.prog 38 #[.int .i64 (p : Int)] W fun e w' => e = .returned (.string (tb (poolT p))) ∧ Below W.heap.size W w') := Lib.hid fun W => rpool_any p (by omega) W
      have HA2 : Hid (∀ W, Below w.heap.size w W → Calls Try.prog 37 #[.slice A n c, .int .i64 (2 + (k : Int)), .int .i64 9] W fun e w' => e = .returned (.int .i64 x2) ∧ W = w') := Lib.hid fun W hb => by have := HAT.out (2 + k) 9 (by omega) (by omega) (by omega) W hb; rw [← hx2] at this; exact_mod_cast this
      have HA10 : Hid (∀ W, Below w.heap.size w W → Calls Try.prog 37 #[.slice A n c, .int .i64 (10 + (k : Int)), .int .i64 3] W fun e w' => e = .returned (.int .i64 x10) ∧ W = w') := Lib.hid fun W hb => by have := HAT.out (10 + k) 3 (by omega) (by omega) (by omega) W hb; rw [← hx10] at this; exact_mod_cast this
      have hs1 : k + 1 ≤ maxLen := by unfold maxLen; omega
      have hs2 : (k + 1) * 48 ≤ 140737488355328 := by omega
      obtain ⟨T, hT⟩ : ∃ T, T = poolT p := ⟨_, rfl⟩
      rw [← hT] at HP
      by_cases hcond : 0 < k ∧ x10 = 1
      · obtain ⟨j, hj⟩ : ∃ j : Nat, atP l ((20 + k : Nat) : Int) (k : Int) = j := ⟨_, (Int.toNat_of_nonneg (atP_bd l _ (by omega)).1).symm⟩
        have hjk : j < k := by have := (atP_bd l ((20 + k : Nat) : Int) (m := (k : Int)) (by omega)).2; omega
        obtain ⟨bs, hbs⟩ : ∃ x, x = (D.getD j z).base := ⟨_, rfl⟩
        obtain ⟨x30, hx30⟩ : ∃ x, x = atP l ((30 + k : Nat) : Int) 4 := ⟨_, rfl⟩
        obtain ⟨x40, hx40⟩ : ∃ x, x = atP l ((40 + k : Nat) : Int) 2 := ⟨_, rfl⟩
        have HG : Hid (genG l st (k + 1) = genG l st k ++ [⟨T, bs, x30, x40, 1 + x2⟩]) := Lib.hid (by
          show genG l st k ++ [genL l st (genG l st k)] = _
          rw [← hD]
          unfold genL
          rw [hDl, if_pos (by rw [← hx10]; exact hcond), ← hp, ← hT, ← hx2, ← hx30, ← hx40, hj, Int.toNat_natCast, ← hbs])
        have HA20 : Hid (∀ W, Below w.heap.size w W → Calls Try.prog 37 #[.slice A n c, .int .i64 (20 + (k : Int)), .int .i64 (k : Int)] W fun e w' => e = .returned (.int .i64 (j : Int)) ∧ W = w') := Lib.hid fun W hb => by have := HAT.out (20 + k) (k : Int) (by omega) (by omega) (by omega) W hb; rw [hj] at this; exact_mod_cast this
        have HA30 : Hid (∀ W, Below w.heap.size w W → Calls Try.prog 37 #[.slice A n c, .int .i64 (30 + (k : Int)), .int .i64 4] W fun e w' => e = .returned (.int .i64 x30) ∧ W = w') := Lib.hid fun W hb => by have := HAT.out (30 + k) 4 (by omega) (by omega) (by omega) W hb; rw [← hx30] at this; exact_mod_cast this
        have HA40 : Hid (∀ W, Below w.heap.size w W → Calls Try.prog 37 #[.slice A n c, .int .i64 (40 + (k : Int)), .int .i64 2] W fun e w' => e = .returned (.int .i64 x40) ∧ W = w') := Lib.hid fun W hb => by have := HAT.out (40 + k) 2 (by omega) (by omega) (by omega) W hb; rw [← hx40] at this; exact_mod_cast this
        obtain ⟨b, o, hA2, hrl⟩ := rl_open (by rw [← hD] at HRD; exact HRD.out) (by intro e; rw [e] at hDl; simp at hDl; omega)
        subst hA2
        have HRL : Hid (∀ W, Below wr.heap.size wr W → ∀ o1, (W.alloc o1).cell? ⟨b, o + j * 5 + 1, none⟩ = some (.int .i64 bs)) := Lib.hid fun W hb o1 => ((hrl.below hb).below (below_a1 W o1)).c1 (by omega) rfl |>.trans (by rw [hbs])
        have hk0 : 0 < k := hcond.1
        obtain rfl : x10 = 1 := hcond.2
        have hd0 : decide (0 < (k : Int)) = true := decide_eq_true (by omega)
        have hd1 : decide (0 < k) = true := decide_eq_true hk0
        have hcb := hmc
        clear hp hD hx2 hx10 hT hDl hcond hj hbs hx30 hx40 hrl
        go_wp2_with (first
          | ((with_reducible refine (HP.out _).mono ?_); rintro e w2 ⟨rfl, hb2⟩; have HX2 : Hid (Below w.heap.size w w2 ∧ w2.ownsRow w.heap.size 54 5 (.slice (some ⟨b, o, none⟩) k c2) k (lv (genG l st k))) := Lib.hid ⟨below_next HI.out.2 hb2, own_keep HI.out.1 hb2⟩; have HB2 : Hid (Below w.heap.size w w2) := Lib.hid HX2.out.1; have hcy := HRL.out w2 hb2; clear hb2)
          | ((with_reducible refine (HA2.out _ HB2.out).mono ?_); rintro e w0 ⟨rfl, rfl⟩)
          | ((with_reducible refine (HA10.out _ (below_al HB2.out _)).mono ?_); rintro e w0 ⟨rfl, rfl⟩)
          | ((with_reducible refine (HA20.out _ (below_al HB2.out _)).mono ?_); rintro e w0 ⟨rfl, rfl⟩)
          | ((with_reducible refine (HA30.out _ (below_al HB2.out _)).mono ?_); rintro e w0 ⟨rfl, rfl⟩)
          | ((with_reducible refine (HA40.out _ (below_al HB2.out _)).mono ?_); rintro e w0 ⟨rfl, rfl⟩)
          | (at_builtin; refine wpList_own_src rfl (.tmp 59) (.tmp 61) 24 24 rfl w.heap.size 54 i0 _ 5 48 Try.underlying24 hi0 hz0 hz1 hz2 rfl _ _ _ rfl (own_alc (own_alc HX2.out.2 _) _) _ 1 (lc ⟨T, bs, x30, x40, 1 + x2⟩) rfl (src_lt Try.underlying24 hz1 _ _ _ _ (by simp)) hs1 hs2 (below_al (below_al HX2.out.1 _) _).size ?_; intro v4 w4 hown4 hg4 hat4; have HX4 : Hid (w4.ownsRow w.heap.size 54 5 v4 (k + 1) (lv (genG l st k) ++ lc ⟨T, bs, x30, x40, 1 + x2⟩) ∧ Below w.heap.size w w4) := Lib.hid ⟨hown4, below_own (below_al (below_al HX2.out.1 _) _) hg4 (fun g hg => (HX2.out.2.lt _ hg).1)⟩; clear hown4 hg4 hat4))
        go_roundg g
        case rel => exact ⟨k + 1, by omega, by go_num, Lib.hid ⟨by rw [HG.out, lv_snoc]; exact HX4.out.1, HX4.out.2⟩⟩
        case measure => omega
      · have HG : Hid (genG l st (k + 1) = genG l st k ++ [⟨T, (k : Int), 0, 0, 1 + x2⟩]) := Lib.hid (by
          show genG l st k ++ [genL l st (genG l st k)] = _
          rw [← hD]
          unfold genL
          rw [hDl, if_neg (by rw [← hx10]; exact hcond), ← hp, ← hT, ← hx2])
        have hkc : k = 0 ∨ (0 < k ∧ (x10 == 1) = false) := by
          rcases Nat.eq_zero_or_pos k with h | h
          · exact .inl h
          · exact .inr ⟨h, beq_eq_false_iff_ne.2 fun e => hcond ⟨h, e⟩⟩
        clear hp hD hx2 hx10 hT hDl hcond
        rcases hkc with h0 | ⟨h0, hx⟩
        · have hd0 : decide (0 < (k : Int)) = false := decide_eq_false (by omega)
          have hd1 : decide (0 < k) = false := decide_eq_false (by omega)
          clear h0
          go_wp2_with (first
            | ((with_reducible refine (HP.out _).mono ?_); rintro e w2 ⟨rfl, hb2⟩; have HX2 : Hid (Below w.heap.size w w2 ∧ w2.ownsRow w.heap.size 54 5 (.slice A2 k c2) k (lv (genG l st k))) := Lib.hid ⟨below_next HI.out.2 hb2, own_keep HI.out.1 hb2⟩; have HB2 : Hid (Below w.heap.size w w2) := Lib.hid HX2.out.1; clear hb2)
            | ((with_reducible refine (HA2.out _ HB2.out).mono ?_); rintro e w0 ⟨rfl, rfl⟩)
            | ((with_reducible refine (HA10.out _ (below_al HB2.out _)).mono ?_); rintro e w0 ⟨rfl, rfl⟩)
            | (at_builtin; refine wpList_own_src rfl (.tmp 59) (.tmp 61) 24 24 rfl w.heap.size 54 i0 _ 5 48 Try.underlying24 hi0 hz0 hz1 hz2 rfl _ _ _ rfl (own_alc (own_alc HX2.out.2 _) _) _ 1 (lc ⟨T, (k : Int), 0, 0, 1 + x2⟩) rfl (src_lt Try.underlying24 hz1 _ _ _ _ (by simp)) hs1 hs2 (below_al (below_al HX2.out.1 _) _).size ?_; intro v4 w4 hown4 hg4 hat4; have HX4 : Hid (w4.ownsRow w.heap.size 54 5 v4 (k + 1) (lv (genG l st k) ++ lc ⟨T, (k : Int), 0, 0, 1 + x2⟩) ∧ Below w.heap.size w w4) := Lib.hid ⟨hown4, below_own (below_al (below_al HX2.out.1 _) _) hg4 (fun g hg => (HX2.out.2.lt _ hg).1)⟩; clear hown4 hg4 hat4))
          go_roundg g
          case rel => exact ⟨k + 1, by omega, by go_num, Lib.hid ⟨by rw [HG.out, lv_snoc]; exact HX4.out.1, HX4.out.2⟩⟩
          case measure => omega
        · have hd0 : decide (0 < (k : Int)) = true := decide_eq_true (by omega)
          have hd1 : decide (0 < k) = true := decide_eq_true h0
          have hx3 : decide (x10 = 1) = false := decide_eq_false (by simpa using hx)
          go_wp2_with (first
            | ((with_reducible refine (HP.out _).mono ?_); rintro e w2 ⟨rfl, hb2⟩; have HX2 : Hid (Below w.heap.size w w2 ∧ w2.ownsRow w.heap.size 54 5 (.slice A2 k c2) k (lv (genG l st k))) := Lib.hid ⟨below_next HI.out.2 hb2, own_keep HI.out.1 hb2⟩; have HB2 : Hid (Below w.heap.size w w2) := Lib.hid HX2.out.1; clear hb2)
            | ((with_reducible refine (HA2.out _ HB2.out).mono ?_); rintro e w0 ⟨rfl, rfl⟩)
            | ((with_reducible refine (HA10.out _ (below_al HB2.out _)).mono ?_); rintro e w0 ⟨rfl, rfl⟩)
            | (at_builtin; refine wpList_own_src rfl (.tmp 59) (.tmp 61) 24 24 rfl w.heap.size 54 i0 _ 5 48 Try.underlying24 hi0 hz0 hz1 hz2 rfl _ _ _ rfl (own_alc (own_alc HX2.out.2 _) _) _ 1 (lc ⟨T, (k : Int), 0, 0, 1 + x2⟩) rfl (src_lt Try.underlying24 hz1 _ _ _ _ (by simp)) hs1 hs2 (below_al (below_al HX2.out.1 _) _).size ?_; intro v4 w4 hown4 hg4 hat4; have HX4 : Hid (w4.ownsRow w.heap.size 54 5 v4 (k + 1) (lv (genG l st k) ++ lc ⟨T, (k : Int), 0, 0, 1 + x2⟩) ∧ Below w.heap.size w w4) := Lib.hid ⟨hown4, below_own (below_al (below_al HX2.out.1 _) _) hg4 (fun g hg => (HX2.out.2.lt _ hg).1)⟩; clear hown4 hg4 hat4))
          go_roundg g
          case rel => exact ⟨k + 1, by omega, by go_num, Lib.hid ⟨by rw [HG.out, lv_snoc]; exact HX4.out.1, HX4.out.2⟩⟩
          case measure => omega
    · obtain rfl : k = N := by omega
      go_wp2_with fail
      go_ret
      rw [HF.out.1]
      exact ⟨A2, k, c2, rfl, (genG_len l st k).symm, HRD.out, hmc, hm2, HI.out.2⟩
end Go.Proofs.Ytalladdmedmfeaa
