/-
  The reference's Order, Upto, Compare, Same, Section, Key.
-/
import Derived.Test.YtalladdmedmfeaaKRef
import Derived.Test.YtalladdmedmfeaaKProg
import Derived.Test.YtalladdmedmfeaaKIns
import Derived.Test.YtalladdmedmfeaaARValid
namespace Go.Proofs.Ytalladdmedmfeaa
open Go.RowKit
open Alp
open Col
set_option linter.unusedVariables false
set_option linter.unusedSimpArgs false

theorem cmpL_step {x y : Int} {a b : List Int} (h : x = y) : cmpL (x :: a) (y :: b) = cmpL a b := by
  subst h
  show (if x < x then (-1 : Int) else if x < x then 1 else cmpL a b) = _
  rw [if_neg (by omega), if_neg (by omega)]
theorem cmpL_lt {x y : Int} {a b : List Int} (h : x < y) : cmpL (x :: a) (y :: b) = -1 := if_pos h
theorem cmpL_gt {x y : Int} {a b : List Int} (h : y < x) : cmpL (x :: a) (y :: b) = 1 := by
  show (if x < y then (-1 : Int) else if y < x then 1 else cmpL a b) = _
  rw [if_neg (by omega), if_pos h]
set_option maxRecDepth 1000000 in
set_option maxHeartbeats 4000000 in
theorem order_aux (l1 l2 : List Int) (A1 A2 : Option Addr) (n1 n2 c1 c2 : Nat) (h1 : n1 = l1.length) (h2 : n2 = l2.length) (hc1 : n1 ≤ c1) (hm1 : c1 ≤ maxLen) (hc2 : n2 ≤ c2) (hm2 : c2 ≤ maxLen) (R : Int) (hR : R = cmpL l1 l2)
    (b1 o1 b2 o2 : Nat) (w : World) (hA1 : n1 = 0 ∨ (A1 = some ⟨b1, o1, none⟩ ∧ IL w b1 o1 l1)) (hA2 : n2 = 0 ∨ (A2 = some ⟨b2, o2, none⟩ ∧ IL w b2 o2 l2)) :
    Calls Try.prog 64 #[.slice A1 n1 c1, .slice A2 n2 c2] w (IPost w R) := by
  have hm1' : c1 ≤ 9223372036854775807 := by unfold maxLen at hm1; omega
  have hm2' : c2 ≤ 9223372036854775807 := by unfold maxLen at hm2; omega
  have HN1 := Lib.hid h1
  have HN2 := Lib.hid h2
  have HA1 := Lib.hid hA1
  have HA2 := Lib.hid hA2
  have HR := Lib.hid hR
  clear h1 h2 hA1 hA2 hR
  go_enter Try.func64, Try.ntmps64
  go_wp2_with fail
  go_loopg [5] n1 (fun g s5 wr => ∃ (k : Nat), k + g = n1 ∧ k ≤ n2 ∧ s5 = .int .i64 (k : Int) ∧ Hid (R = cmpL (l1.drop k) (l2.drop k) ∧ Below w.heap.size w wr))
  case atStart => exact ⟨0, by omega, by omega, rfl, Lib.hid ⟨HR.out, Below.refl _ _⟩⟩
  case round =>
    obtain ⟨k, hk, hk2, rfl, HI⟩ := hrel
    by_cases hlt : k < n1
    · obtain ⟨g, rfl⟩ : ∃ g, gk = g + 1 := ⟨gk - 1, by omega⟩
      have hkl : k < l1.length := by rw [← HN1.out]; exact hlt
      by_cases hlt2 : k < n2
      · have hkl2 : k < l2.length := by rw [← HN2.out]; exact hlt2
        obtain ⟨x, hx⟩ : ∃ x, x = l1.getD k 0 := ⟨_, rfl⟩
        obtain ⟨y, hy⟩ : ∃ y, y = l2.getD k 0 := ⟨_, rfl⟩
        obtain ⟨rfl, hil⟩ : A1 = some ⟨b1, o1, none⟩ ∧ IL w b1 o1 l1 := by
          rcases HA1.out with h | h
          · omega
          · exact h
        obtain ⟨rfl, hil2⟩ : A2 = some ⟨b2, o2, none⟩ ∧ IL w b2 o2 l2 := by
          rcases HA2.out with h | h
          · omega
          · exact h
        have hcx : wr.cell? ⟨b1, o1 + k, none⟩ = some (.int .i64 x) := hil.at HI.out.2 hkl hx
        have hcy : wr.cell? ⟨b2, o2 + k, none⟩ = some (.int .i64 y) := hil2.at HI.out.2 hkl2 hy
        have HS : Hid (R = cmpL (x :: l1.drop (k + 1)) (y :: l2.drop (k + 1))) := Lib.hid (by rw [HI.out.1, drop_getD hkl hx, drop_getD hkl2 hy])
        clear hx hy hil hil2
        rcases Int.lt_trichotomy x y with hxy | hxy | hxy
        · have d1 : decide (x < y) = true := decide_eq_true hxy
          have HE : Hid (R = -1) := Lib.hid (by rw [HS.out, cmpL_lt hxy])
          go_wp2_with fail
          go_quiet (fail)
          go_wp2_with fail
          go_ret
          exact ⟨ret_int HE.out.symm, below_drewN HI.out.2 _⟩
        · have HE : Hid (R = cmpL (l1.drop (k + 1)) (l2.drop (k + 1))) := Lib.hid (by rw [HS.out, cmpL_step hxy])
          subst hxy
          have d1 : decide (x < x) = false := by simp
          go_wp2_with fail
          go_quiet (fail)
          go_wp2_with fail
          go_quiet (fail)
          go_wp2_with fail
          go_roundg g
          case rel => exact ⟨k + 1, by omega, by omega, by go_num, Lib.hid ⟨HE.out, by first | exact below_drewN HI.out.2 _ | exact below_drewN (below_drewN HI.out.2 _) _⟩⟩
          case measure => omega
        · have d1 : decide (x < y) = false := decide_eq_false (by omega)
          have d2 : decide (y < x) = true := decide_eq_true hxy
          have HE : Hid (R = 1) := Lib.hid (by rw [HS.out, cmpL_gt hxy])
          go_wp2_with fail
          go_quiet (fail)
          go_wp2_with fail
          go_quiet (fail)
          go_wp2_with fail
          go_ret
          exact ⟨ret_int HE.out.symm, below_drewN (below_drewN HI.out.2 _) _⟩
      · obtain rfl : k = n2 := by omega
        have HE : Hid (R = 1) := Lib.hid (by
          rw [HI.out.1, drop_getD hkl rfl, HN2.out, List.drop_length]
          rfl)
        go_wp2_with fail
        go_ret
        exact ⟨ret_int HE.out.symm, HI.out.2⟩
    · obtain rfl : k = n1 := by omega
      by_cases hlt2 : k < n2
      · have HE : Hid (R = -1) := Lib.hid (by
          have hkl2 : k < l2.length := by rw [← HN2.out]; exact hlt2
          rw [HI.out.1, drop_getD hkl2 rfl, HN1.out, List.drop_length]
          rfl)
        go_wp2_with fail
        go_ret
        exact ⟨ret_int HE.out.symm, HI.out.2⟩
      · obtain rfl : k = n2 := by omega
        have HE : Hid (R = 0) := Lib.hid (by
          have e1 : l1.drop k = [] := List.drop_of_length_le (by rw [← HN1.out]; omega)
          have e2 : l2.drop k = [] := List.drop_of_length_le (by rw [← HN2.out]; omega)
          rw [HI.out.1, e1, e2]
          rfl)
        go_wp2_with fail
        go_ret
        exact ⟨ret_int HE.out.symm, HI.out.2⟩
theorem order_wd (l1 l2 : List Int) (A1 A2 : Option Addr) (n1 n2 c1 c2 : Nat) (R : Int) (hR : R = cmpL l1 l2) (w : World) (h1 : WdR w l1 A1 n1 c1) (h2 : WdR w l2 A2 n2 c2) : Calls Try.prog 64 #[.slice A1 n1 c1, .slice A2 n2 c2] w (IPost w R) := by
  obtain ⟨b1, o1, e1⟩ := il_or h1.len h1.rd
  obtain ⟨b2, o2, e2⟩ := il_or h2.len h2.rd
  exact order_aux l1 l2 A1 A2 n1 n2 c1 c2 h1.len h2.len h1.cap h1.max h2.cap h2.max R hR b1 o1 b2 o2 w e1 e2
theorem level_wd {w : World} {L : List Lt} {A A2 : Option Addr} {q c n c2 : Nat} {l : List Int} (h : AlR w L A q c) (h2 : WdR w l A2 n c2) (j : Nat) (hj : j < 4) (i : Int) (hi : i = (j : Int) + 1) : Calls Try.prog 32 #[.slice A q c, .slice A2 n c2, .int .i64 i] w fun e w' => ∃ A3 n3 c3, e = .returned (.slice A3 n3 c3) ∧ WdR w' (lev L j l) A3 n3 c3 ∧ Below w.heap.size w w' :=
  (level_any L q c A h.len h.cap h.max l A2 n c2 h2.len h2.few h2.cap h2.max j hj i hi w h2.rd h.rd).mono fun e w' hp => by
    obtain ⟨A3, c3, n3, he, hn, hr, h3, h4, hb⟩ := l_out hp
    exact ⟨A3, n3, c3, he, ⟨hn, by have := lev_length L j l; have := ltr_length L.length l; have := h2.len; have := h2.few; omega, h3, h4, hr⟩, hb⟩
set_option maxRecDepth 1000000 in
set_option maxHeartbeats 4000000 in
theorem upto_any (L : List Lt) (A A1 A2 : Option Addr) (q c n1 c1 n2 c2 : Nat) (n : Nat) (hn4 : n ≤ 4) (l1 l2 : List Int) (R : Int) (hR : R = cmpU L l1 l2 0 n) (w : World) (ha : AlR w L A q c) (h1 : WdR w l1 A1 n1 c1) (h2 : WdR w l2 A2 n2 c2) :
    Calls Try.prog 49 #[.slice A q c, .slice A1 n1 c1, .slice A2 n2 c2, .int .i64 (n : Int)] w (IPost w R) := by
  have HX : Hid (R = cmpU L l1 l2 0 n ∧ AlR w L A q c ∧ WdR w l1 A1 n1 c1 ∧ WdR w l2 A2 n2 c2) := Lib.hid ⟨hR, ha, h1, h2⟩
  clear hR ha h1 h2
  go_enter Try.func49, Try.ntmps49
  go_wp2_with fail
  go_loopg [9, 10] n (fun gg s9 s10 wr => ∃ (j : Nat), j + gg = n ∧ s9 = .int .i64 ((j : Int) + 1) ∧ Hid (R = cmpU L l1 l2 j (n - j) ∧ Below w.heap.size w wr))
  case atStart => exact ⟨0, by omega, by go_num, Lib.hid ⟨HX.out.1, Below.refl _ _⟩⟩
  case round =>
    obtain ⟨j, hj, rfl, HI⟩ := hrel
    by_cases hlt : j < n
    · obtain ⟨gg, rfl⟩ : ∃ x, gk = x + 1 := ⟨gk - 1, by omega⟩
      obtain ⟨i, hi⟩ : ∃ i, i = (j : Int) + 1 := ⟨_, rfl⟩
      have hin : i ≤ (n : Int) := by omega
      have hi4 : i ≤ 4 := by omega
      have hi0 : 1 ≤ i := by omega
      obtain ⟨r, hr⟩ : ∃ r, r = cmpL (lev L j l1) (lev L j l2) := ⟨_, rfl⟩
      have HS : Hid (R = if r = 0 then cmpU L l1 l2 (j + 1) (n - (j + 1)) else r) := Lib.hid (by rw [HI.out.1, show n - j = (n - (j + 1)) + 1 by omega, cmpU_succ, hr])
      have HL1 : Hid (∀ W, Below w.heap.size w W → Calls Try.prog 32 #[.slice A q c, .slice A1 n1 c1, .int .i64 i] W fun e w' => ∃ A3 n3 c3, e = .returned (.slice A3 n3 c3) ∧ WdR w' (lev L j l1) A3 n3 c3 ∧ Below W.heap.size W w') := Lib.hid fun W hb => level_wd (HX.out.2.1.below hb) (HX.out.2.2.1.below hb) j (by omega) i hi
      have HL2 : Hid (∀ W, Below w.heap.size w W → Calls Try.prog 32 #[.slice A q c, .slice A2 n2 c2, .int .i64 i] W fun e w' => ∃ A3 n3 c3, e = .returned (.slice A3 n3 c3) ∧ WdR w' (lev L j l2) A3 n3 c3 ∧ Below W.heap.size W w') := Lib.hid fun W hb => level_wd (HX.out.2.1.below hb) (HX.out.2.2.2.below hb) j (by omega) i hi
      have HO : Hid (∀ W A3 n3 c3 A4 n4 c4, WdR W (lev L j l1) A3 n3 c3 → WdR W (lev L j l2) A4 n4 c4 → Calls Try.prog 64 #[.slice A3 n3 c3, .slice A4 n4 c4] W (IPost W r)) := Lib.hid fun W A3 n3 c3 A4 n4 c4 g1 g2 => order_wd _ _ A3 A4 n3 n4 c3 c4 r hr W g1 g2
      have hir : i + 1 = ((j + 1 : Nat) : Int) + 1 := by omega
      have HIR := Lib.hid hir
      rw [← hi]
      clear hr hi hir
      by_cases hr0 : r = 0
      · have HS2 : Hid (R = cmpU L l1 l2 (j + 1) (n - (j + 1))) := Lib.hid (by rw [HS.out]; exact if_pos hr0)
        subst hr0
        go_wp2_with (first
          | ((with_reducible refine (HL1.out _ HI.out.2).mono ?_); rintro e w3 ⟨A3, n3, c3, rfl, hw3, hb⟩; have HB3 : Hid (WdR w3 (lev L j l1) A3 n3 c3 ∧ Below w.heap.size w w3) := Lib.hid ⟨hw3, below_next HI.out.2 hb⟩; clear hw3 hb)
          | ((with_reducible refine (HL2.out _ HB3.out.2).mono ?_); rintro e w4 ⟨A4, n4, c4, rfl, hw4, hb⟩; have HB4 : Hid (WdR w4 (lev L j l2) A4 n4 c4 ∧ Below w3.heap.size w3 w4 ∧ Below w.heap.size w w4) := Lib.hid ⟨hw4, hb, below_next HB3.out.2 hb⟩; clear hw4 hb)
          | ((with_reducible refine (HO.out _ _ _ _ _ _ _ (HB3.out.1.below HB4.out.2.1) HB4.out.1).mono ?_); rintro e w5 hp; obtain ⟨rfl, hb⟩ := i_out hp; have HB5 : Hid (Below w.heap.size w w5) := Lib.hid (below_next HB4.out.2.2 hb); clear hp hb))
        go_roundg gg
        case rel => exact ⟨j + 1, by omega, by first | rfl | (congr 1; done) | (congr 1; first | exact HIR.out | omega), Lib.hid ⟨HS2.out, HB5.out⟩⟩
        case measure => omega
      · have hne : (r != 0) = true := bne_iff_ne.2 hr0
        have HS2 : Hid (R = r) := Lib.hid (by rw [HS.out]; exact if_neg hr0)
        clear hr0
        go_wp2_with (first
          | ((with_reducible refine (HL1.out _ HI.out.2).mono ?_); rintro e w3 ⟨A3, n3, c3, rfl, hw3, hb⟩; have HB3 : Hid (WdR w3 (lev L j l1) A3 n3 c3 ∧ Below w.heap.size w w3) := Lib.hid ⟨hw3, below_next HI.out.2 hb⟩; clear hw3 hb)
          | ((with_reducible refine (HL2.out _ HB3.out.2).mono ?_); rintro e w4 ⟨A4, n4, c4, rfl, hw4, hb⟩; have HB4 : Hid (WdR w4 (lev L j l2) A4 n4 c4 ∧ Below w3.heap.size w3 w4 ∧ Below w.heap.size w w4) := Lib.hid ⟨hw4, hb, below_next HB3.out.2 hb⟩; clear hw4 hb)
          | ((with_reducible refine (HO.out _ _ _ _ _ _ _ (HB3.out.1.below HB4.out.2.1) HB4.out.1).mono ?_); rintro e w5 hp; obtain ⟨rfl, hb⟩ := i_out hp; have HB5 : Hid (Below w.heap.size w w5) := Lib.hid (below_next HB4.out.2.2 hb); clear hp hb))
        go_ret
        exact ⟨ret_int HS2.out.symm, HB5.out⟩
    · obtain rfl : j = n := by omega
      have HE : Hid (R = 0) := Lib.hid (by rw [HI.out.1, Nat.sub_self]; rfl)
      go_wp2_with fail
      go_ret
      exact ⟨ret_int HE.out.symm, HI.out.2⟩
theorem rvalid_of {w : World} {L : List Lt} {A : Option Addr} {q c : Nat} (h : AlR w L A q c) (V : Bool) (hV : V = valP L) : Calls Try.prog 46 #[.slice A q c] w (BoolB w V) := rvalid_any L A q c h.len h.cap h.max h.txt V hV w h.rd
set_option maxRecDepth 1000000 in
set_option maxHeartbeats 4000000 in
theorem rcompare_any (L : List Lt) (A A1 A2 : Option Addr) (q c n1 c1 n2 c2 : Nat) (l1 l2 : List Int) (R : Int) (hR : R = cmpP L l1 l2) (w : World) (ha : AlR w L A q c) (h1 : WdR w l1 A1 n1 c1) (h2 : WdR w l2 A2 n2 c2) :
    Calls Try.prog 24 #[.slice A q c, .slice A1 n1 c1, .slice A2 n2 c2] w (IPost w R) := by
  obtain ⟨V, hV⟩ : ∃ V, V = valP L := ⟨_, rfl⟩
  have HV : Hid (Calls Try.prog 46 #[.slice A q c] w (BoolB w V)) := Lib.hid (rvalid_of ha V hV)
  cases V
  · have HE : Hid (R = 0) := Lib.hid (by rw [hR, cmpP_no hV.symm])
    clear hV hR ha h1 h2
    go_enter Try.func24, Try.ntmps24
    go_wp2_with ((with_reducible refine HV.out.mono ?_); rintro e w1 hp; obtain ⟨rfl, hb1⟩ := boolb_out hp; have HB1 : Hid (Below w.heap.size w w1) := Lib.hid hb1; clear hp hb1)
    go_ret
    exact ⟨ret_int HE.out.symm, HB1.out⟩
  · have HU : Hid (∀ W, Below w.heap.size w W → Calls Try.prog 49 #[.slice A q c, .slice A1 n1 c1, .slice A2 n2 c2, .int .i64 4] W (IPost W R)) := Lib.hid fun W hb => upto_any L A A1 A2 q c n1 c1 n2 c2 4 (Nat.le_refl _) l1 l2 R (by rw [hR, cmpP_yes hV.symm]) W (ha.below hb) (h1.below hb) (h2.below hb)
    clear hV hR ha h1 h2
    go_enter Try.func24, Try.ntmps24
    go_wp2_with (first
      | ((with_reducible refine HV.out.mono ?_); rintro e w1 hp; obtain ⟨rfl, hb1⟩ := boolb_out hp; have HB1 : Hid (Below w.heap.size w w1) := Lib.hid hb1; clear hp hb1)
      | ((with_reducible refine (HU.out _ HB1.out).mono ?_); rintro e w5 hp; obtain ⟨rfl, hb⟩ := i_out hp; have HB5 : Hid (Below w.heap.size w w5) := Lib.hid (below_next HB1.out hb); clear hp hb))
    go_ret
    exact ⟨rfl, HB5.out⟩
set_option maxRecDepth 1000000 in
set_option maxHeartbeats 4000000 in
theorem rsame_inv (L : List Lt) (A A1 A2 : Option Addr) (q c n1 c1 n2 c2 : Nat) (n : Int) (l1 l2 : List Int) (V : Bool) (hv : V = false) (hV : valP L = false) (w : World) (ha : AlR w L A q c) (h1 : WdR w l1 A1 n1 c1) (h2 : WdR w l2 A2 n2 c2) :
    Calls Try.prog 26 #[.slice A q c, .slice A1 n1 c1, .slice A2 n2 c2, .int .i64 n] w (BoolB w V) := by
  subst hv
  have HV : Hid (Calls Try.prog 46 #[.slice A q c] w (BoolB w false)) := Lib.hid (rvalid_of ha false hV.symm)
  clear hV ha h1 h2
  go_enter Try.func26, Try.ntmps26
  go_wp2_with ((with_reducible refine HV.out.mono ?_); rintro e w1 hp; obtain ⟨rfl, hb1⟩ := boolb_out hp; have HB1 : Hid (Below w.heap.size w w1) := Lib.hid hb1; clear hp hb1)
  go_ret
  exact ⟨rfl, HB1.out⟩
set_option maxRecDepth 1000000 in
set_option maxHeartbeats 4000000 in
theorem rsame_lo (L : List Lt) (A A1 A2 : Option Addr) (q c n1 c1 n2 c2 : Nat) (n : Int) (l1 l2 : List Int) (V : Bool) (hv : V = false) (hV : valP L = true) (hn : n < 1) (w : World) (ha : AlR w L A q c) (h1 : WdR w l1 A1 n1 c1) (h2 : WdR w l2 A2 n2 c2) :
    Calls Try.prog 26 #[.slice A q c, .slice A1 n1 c1, .slice A2 n2 c2, .int .i64 n] w (BoolB w V) := by
  subst hv
  have HV : Hid (Calls Try.prog 46 #[.slice A q c] w (BoolB w true)) := Lib.hid (rvalid_of ha true hV.symm)
  have d1 : decide (1 ≤ n) = false := decide_eq_false (by omega)
  clear hV ha h1 h2
  go_enter Try.func26, Try.ntmps26
  go_wp2_with ((with_reducible refine HV.out.mono ?_); rintro e w1 hp; obtain ⟨rfl, hb1⟩ := boolb_out hp; have HB1 : Hid (Below w.heap.size w w1) := Lib.hid hb1; clear hp hb1)
  go_ret
  exact ⟨rfl, HB1.out⟩
set_option maxRecDepth 1000000 in
set_option maxHeartbeats 4000000 in
theorem rsame_hi (L : List Lt) (A A1 A2 : Option Addr) (q c n1 c1 n2 c2 : Nat) (n : Int) (l1 l2 : List Int) (V : Bool) (hv : V = false) (hV : valP L = true) (hn : 4 < n) (w : World) (ha : AlR w L A q c) (h1 : WdR w l1 A1 n1 c1) (h2 : WdR w l2 A2 n2 c2) :
    Calls Try.prog 26 #[.slice A q c, .slice A1 n1 c1, .slice A2 n2 c2, .int .i64 n] w (BoolB w V) := by
  subst hv
  have HV : Hid (Calls Try.prog 46 #[.slice A q c] w (BoolB w true)) := Lib.hid (rvalid_of ha true hV.symm)
  have d1 : decide (1 ≤ n) = true := decide_eq_true (by omega)
  have d2 : decide (n ≤ 4) = false := decide_eq_false (by omega)
  clear hV ha h1 h2
  go_enter Try.func26, Try.ntmps26
  go_wp2_with ((with_reducible refine HV.out.mono ?_); rintro e w1 hp; obtain ⟨rfl, hb1⟩ := boolb_out hp; have HB1 : Hid (Below w.heap.size w w1) := Lib.hid hb1; clear hp hb1)
  go_ret
  exact ⟨rfl, HB1.out⟩
set_option maxRecDepth 1000000 in
set_option maxHeartbeats 4000000 in
theorem rsame_ok (L : List Lt) (A A1 A2 : Option Addr) (q c n1 c1 n2 c2 : Nat) (m : Nat) (n : Int) (hmn : n = (m : Int)) (hm1 : 1 ≤ m) (hm4 : m ≤ 4) (l1 l2 : List Int) (V : Bool) (hv : V = decide (cmpU L l1 l2 0 m = 0)) (hV : valP L = true) (w : World) (ha : AlR w L A q c) (h1 : WdR w l1 A1 n1 c1) (h2 : WdR w l2 A2 n2 c2) :
    Calls Try.prog 26 #[.slice A q c, .slice A1 n1 c1, .slice A2 n2 c2, .int .i64 n] w (BoolB w V) := by
  have HV : Hid (Calls Try.prog 46 #[.slice A q c] w (BoolB w true)) := Lib.hid (rvalid_of ha true hV.symm)
  subst hmn
  obtain ⟨R, hR⟩ : ∃ R, R = cmpU L l1 l2 0 m := ⟨_, rfl⟩
  have HU : Hid (∀ W, Below w.heap.size w W → Calls Try.prog 49 #[.slice A q c, .slice A1 n1 c1, .slice A2 n2 c2, .int .i64 (m : Int)] W (IPost W R)) := Lib.hid fun W hb => upto_any L A A1 A2 q c n1 c1 n2 c2 m hm4 l1 l2 R hR W (ha.below hb) (h1.below hb) (h2.below hb)
  have hq : (R == 0) = V := by rw [hv, ← hR, Bool.eq_iff_iff]; simp
  have d1 : decide (1 ≤ (m : Int)) = true := decide_eq_true (by omega)
  have d2 : decide ((m : Int) ≤ 4) = true := decide_eq_true (by omega)
  have d3 : decide (1 ≤ m) = true := decide_eq_true (by omega)
  have d4 : decide (m ≤ 4) = true := decide_eq_true (by omega)
  clear hV ha h1 h2 hR hv
  go_enter Try.func26, Try.ntmps26
  go_wp2_with (first | ((with_reducible refine HV.out.mono ?_); rintro e w1 hp; obtain ⟨rfl, hb1⟩ := boolb_out hp; have HB1 : Hid (Below w.heap.size w w1) := Lib.hid hb1; clear hp hb1) | ((with_reducible refine (HU.out _ HB1.out).mono ?_); rintro e w5 hp; obtain ⟨rfl, hb⟩ := i_out hp; have HB5 : Hid (Below w.heap.size w w5) := Lib.hid (below_next HB1.out hb); clear hp hb))
  go_ret
  exact ⟨rfl, HB5.out⟩
theorem rsame_any (L : List Lt) (A A1 A2 : Option Addr) (q c n1 c1 n2 c2 : Nat) (n : Int) (l1 l2 : List Int) (V : Bool) (hV : V = sameP L l1 l2 n) (w : World) (ha : AlR w L A q c) (h1 : WdR w l1 A1 n1 c1) (h2 : WdR w l2 A2 n2 c2) :
    Calls Try.prog 26 #[.slice A q c, .slice A1 n1 c1, .slice A2 n2 c2, .int .i64 n] w (BoolB w V) := by
  cases hL : valP L
  · exact rsame_inv L A A1 A2 q c n1 c1 n2 c2 n l1 l2 V (by rw [hV]; exact decide_eq_false fun h => by have := h.1; rw [hL] at this; cases this) hL w ha h1 h2
  · by_cases hlo : n < 1
    · exact rsame_lo L A A1 A2 q c n1 c1 n2 c2 n l1 l2 V (by rw [hV]; exact decide_eq_false fun h => by have := h.2.1.1; omega) hL hlo w ha h1 h2
    · by_cases hhi : 4 < n
      · exact rsame_hi L A A1 A2 q c n1 c1 n2 c2 n l1 l2 V (by rw [hV]; exact decide_eq_false fun h => by have := h.2.1.2; omega) hL hhi w ha h1 h2
      · refine rsame_ok L A A1 A2 q c n1 c1 n2 c2 n.toNat n (by omega) (by omega) (by omega) l1 l2 V ?_ hL w ha h1 h2
        rw [hV]
        unfold sameP
        rw [Bool.eq_iff_iff]
        simp only [decide_eq_true_eq]
        exact ⟨fun h => h.2.2, fun h => ⟨hL, by omega, h⟩⟩
set_option maxRecDepth 1000000 in
set_option maxHeartbeats 4000000 in
theorem rsection_any (L : List Lt) (A A1 : Option Addr) (q c n1 c1 : Nat) (l1 : List Int) (R : Int) (hR : R = secP L l1) (w : World) (ha : AlR w L A q c) (h1 : WdR w l1 A1 n1 c1) :
    Calls Try.prog 22 #[.slice A q c, .slice A1 n1 c1] w (IPost w R) := by
  obtain ⟨V, hV⟩ : ∃ V, V = valP L := ⟨_, rfl⟩
  have HV : Hid (Calls Try.prog 46 #[.slice A q c] w (BoolB w V)) := Lib.hid (rvalid_of ha V hV)
  cases V
  · have HE : Hid (R = -1) := Lib.hid (by rw [hR]; unfold secP; rw [← hV]; rfl)
    clear hV hR ha h1
    go_enter Try.func22, Try.ntmps22
    go_wp2_with ((with_reducible refine HV.out.mono ?_); rintro e w1 hp; obtain ⟨rfl, hb1⟩ := boolb_out hp; have HB1 : Hid (Below w.heap.size w w1) := Lib.hid hb1; clear hp hb1)
    go_ret
    exact ⟨ret_int HE.out.symm, HB1.out⟩
  · have HL : Hid (∀ W, Below w.heap.size w W → Calls Try.prog 32 #[.slice A q c, .slice A1 n1 c1, .int .i64 1] W fun e w' => ∃ A3 n3 c3, e = .returned (.slice A3 n3 c3) ∧ WdR w' (lev L 0 l1) A3 n3 c3 ∧ Below W.heap.size W w') := Lib.hid fun W hb => level_wd (ha.below hb) (h1.below hb) 0 (by omega) 1 (by omega)
    have HR : Hid (R = secL L l1) := Lib.hid (by rw [hR]; unfold secP; rw [← hV]; rfl)
    clear hV hR ha h1
    cases hE : lev L 0 l1 with
    | nil =>
      have HE : Hid (lev L 0 l1 = []) := Lib.hid hE
      clear hE
      go_enter Try.func22, Try.ntmps22
      go_wp2_with (first
        | ((with_reducible refine HV.out.mono ?_); rintro e w1 hp; obtain ⟨rfl, hb1⟩ := boolb_out hp; have HB1 : Hid (Below w.heap.size w w1) := Lib.hid hb1; clear hp hb1)
        | ((with_reducible refine (HL.out _ HB1.out).mono ?_); rintro e w3 ⟨A3, n3, c3, rfl, hw3, hb⟩; have hn3 : n3 = 0 := by rw [hw3.len, HE.out]; rfl
           subst hn3; have HB3 : Hid (Below w.heap.size w w3) := Lib.hid (below_next HB1.out hb); clear hw3 hb))
      go_ret
      exact ⟨ret_int (by rw [HR.out]; unfold secL; rw [HE.out]; rfl), HB3.out⟩
    | cons x t =>
      have HE : Hid (lev L 0 l1 = x :: t) := Lib.hid hE
      clear hE
      go_enter Try.func22, Try.ntmps22
      go_wp2_with (first
        | ((with_reducible refine HV.out.mono ?_); rintro e w1 hp; obtain ⟨rfl, hb1⟩ := boolb_out hp; have HB1 : Hid (Below w.heap.size w w1) := Lib.hid hb1; clear hp hb1)
        | ((with_reducible refine (HL.out _ HB1.out).mono ?_); rintro e w3 ⟨A3, n3, c3, rfl, hw3, hb⟩; rw [HE.out] at hw3; obtain ⟨n4, rfl⟩ : ∃ k, n3 = k + 1 := ⟨t.length, by rw [hw3.len]; rfl⟩; obtain ⟨b3, o3, rfl, hil⟩ := il_open hw3.rd (by simp); have hc3 : w3.cell? ⟨b3, o3, none⟩ = some (.int .i64 x) := (by have := hil 0 (by simp); simpa using this); have hn0 : ((((n4 + 1 : Nat) : Int)) == 0) = false := beq_eq_false_iff_ne.2 (by omega); have hn1 : (((n4 : Int) + 1) == 0) = false := beq_eq_false_iff_ne.2 (by omega); have HB3 : Hid (Below w.heap.size w w3) := Lib.hid (below_next HB1.out hb); clear hw3 hb hil))
      go_ret
      exact ⟨ret_int (by rw [HR.out]; unfold secL; rw [HE.out]; rfl), HB3.out⟩
end Go.Proofs.Ytalladdmedmfeaa
