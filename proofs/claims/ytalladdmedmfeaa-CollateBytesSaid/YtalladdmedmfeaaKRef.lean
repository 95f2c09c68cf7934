/-
  The reference's Level, Order, Upto.
-/
import Derived.Test.YtalladdmedmfeaaKCmp
namespace Go.Proofs.Ytalladdmedmfeaa
open Go.RowKit
open Alp
open Col
set_option linter.unusedVariables false
set_option linter.unusedSimpArgs false

def LFr2 (w : World) (R : List Int) (e : Ending) (w' : World) : Prop := ∃ (A : Option Addr) (c n : Nat), e = .returned (.slice A n c) ∧ n = R.length ∧ Rd w' A (iv R) ∧ n ≤ c ∧ c ≤ maxLen ∧ Below w.heap.size w w' ∧ ∀ p, A = some p → w.heap.size ≤ p.block
theorem lev_step_yes {L : List Lt} {j : Nat} {l : List Int} {k : Nat} (hk : k < l.length) {x : Int} (hx : x = l.getD k 0) (h : 0 ≤ x ∧ x < (L.length : Int)) : lev L j (l.take (k + 1)) = lev L j (l.take k) ++ [num L j x] := by
  unfold lev
  rw [ltr_step_yes hk hx h, List.map_append]
  rfl
theorem lev_step_no {L : List Lt} {j : Nat} {l : List Int} {k : Nat} (hk : k < l.length) {x : Int} (hx : x = l.getD k 0) (h : ¬ (0 ≤ x ∧ x < (L.length : Int))) : lev L j (l.take (k + 1)) = lev L j (l.take k) := by
  unfold lev
  rw [ltr_step_no hk hx h]
set_option maxRecDepth 100000 in
set_option maxHeartbeats 4000000 in
theorem level1_aux (L : List Lt) (q cq b2 o2 : Nat) (AL : Option Addr) (hq : q = L.length) (hcq : q ≤ cq) (hcq2 : cq ≤ maxLen) (l : List Int) (A : Option Addr) (n c : Nat) (hn : n = l.length) (hn2 : n ≤ 100000) (hc : n ≤ c) (hcm : c ≤ maxLen) (w : World) (b o : Nat) (hA : n = 0 ∨ (A = some ⟨b, o, none⟩ ∧ IL w b o l)) (hAL : q = 0 ∨ (AL = some ⟨b2, o2, none⟩ ∧ RL w b2 o2 L)) :
    Calls Try.prog 32 #[.slice AL q cq, .slice A n c, .int .i64 1] w (LFr2 w (lev L 0 l)) := by
  obtain ⟨i0, hi0, hz0, hz1, hz2⟩ := info_parts Try.infoInt
  have hm' : c ≤ 9223372036854775807 := by unfold maxLen at hcm; omega
  have hq' : cq ≤ 9223372036854775807 := by unfold maxLen at hcq2; omega
  have HN := Lib.hid hn
  have HQ := Lib.hid hq
  have HA := Lib.hid hA
  have HAL := Lib.hid hAL
  clear hn hq hA hAL
  go_enter Try.func32, Try.ntmps32
  go_wp2_with fail
  go_loopg [7, 8, 9] n (fun g s7 s8 s9 wr => ∃ (k : Nat) (D : List Int), k + g = n ∧ D.length ≤ k ∧ s8 = .int .i64 (k : Int) ∧ Hid (D = lev L 0 (l.take k) ∧ wr.ownsRow w.heap.size 3 1 s7 D.length (iv D) ∧ Below w.heap.size w wr))
  case atStart => exact ⟨0, [], by omega, Nat.le_refl _, rfl, Lib.hid ⟨rfl, ⟨rfl, .inl ⟨rfl, rfl⟩⟩, Below.refl _ _⟩⟩
  case round =>
    obtain ⟨k, D, hk, hDk, rfl, HI⟩ := hrel
    obtain ⟨A2, c2, hv, hrd, hmc, hm2⟩ := Rd.of_own HI.out.2.1
    subst hv
    have HRD := Lib.hid hrd
    have HBW : Hid (Below w.heap.size w wr) := Lib.hid HI.out.2.2
    clear hrd
    obtain ⟨d, hd⟩ : ∃ d, d = D.length := ⟨_, rfl⟩
    have HO : Hid (wr.ownsRow w.heap.size 3 1 (.slice A2 d c2) d (iv D)) := Lib.hid (by rw [hd]; exact HI.out.2.1)
    have HD := Lib.hid hd
    rw [← hd] at hDk hmc ⊢
    clear hd
    by_cases hlt : k < n
    · obtain ⟨g, rfl⟩ : ∃ g, gk = g + 1 := ⟨gk - 1, by omega⟩
      obtain ⟨x, hx⟩ : ∃ x, x = l.getD k 0 := ⟨_, rfl⟩
      have hkl : k < l.length := by rw [← HN.out]; exact hlt
      obtain ⟨rfl, hil⟩ : A = some ⟨b, o, none⟩ ∧ IL w b o l := by
        rcases HA.out with h | h
        · omega
        · exact h
      have hcx : wr.cell? ⟨b, o + k, none⟩ = some (.int .i64 x) := hil.at HI.out.2.2 hkl hx
      by_cases hx0 : x < 0
      · have HS : Hid (D = lev L 0 (l.take (k + 1))) := Lib.hid (by rw [lev_step_no hkl hx (by omega), HI.out.1])
        have hd0 : decide (x < 0) = true := decide_eq_true hx0
        clear hx hil hx0
        go_wp2_with fail
        go_roundg g
        case rel => exact ⟨k + 1, D, by omega, by rw [← HD.out]; omega, by go_num, Lib.hid ⟨HS.out, by rw [← HD.out]; exact HO.out, HI.out.2.2⟩⟩
        case measure => omega
      · have hd0 : decide (x < 0) = false := decide_eq_false hx0
        by_cases hxq : x < (q : Int)
        · obtain ⟨x, rfl⟩ : ∃ y : Nat, x = y := ⟨x.toNat, by omega⟩
          obtain ⟨v, hv⟩ : ∃ v, v = num L 0 (x : Int) := ⟨_, rfl⟩
          have HS : Hid (D ++ [v] = lev L 0 (l.take (k + 1))) := Lib.hid (by rw [lev_step_yes hkl hx (by rw [← HQ.out]; omega), HI.out.1, hv])
          obtain ⟨rfl, hrl⟩ : AL = some ⟨b2, o2, none⟩ ∧ RL w b2 o2 L := by
            rcases HAL.out with h | h
            · omega
            · exact h
          have hcv : wr.cell? ⟨b2, o2 + x * 5 + 1, none⟩ = some (.int .i64 v) := by rw [hv]; exact (hrl.below HI.out.2.2).c1 (by rw [← HQ.out]; omega) rfl
          have hs1 : d + 1 ≤ maxLen := by unfold maxLen; omega
          have hs2 : (d + 1) * 8 ≤ 140737488355328 := by omega
          have hxn : x < q := by omega
          have hdq : decide ((q : Int) ≤ (x : Int)) = false := decide_eq_false (by omega)
          clear hv
          clear hx hil hrl
          go_wp2_with (at_builtin; refine wpList_own_src rfl (.tmp 31) (.tmp 37) 22 22 rfl w.heap.size 3 i0 _ 1 8 Try.underlying22 hi0 hz0 hz1 hz2 rfl _ _ _ rfl (own_alc HO.out _) _ 1 [.int .i64 v] rfl (src_one Try.underlying22 hz1 _ _ _ rfl) hs1 hs2 (below_al HBW.out _).size ?_; intro v4 w4 hown4 hg4 hat4; have HX4 : Hid (w4.ownsRow w.heap.size 3 1 v4 (d + 1) (iv D ++ [.int .i64 v]) ∧ Below w.heap.size w w4) := Lib.hid ⟨hown4, below_own (below_al HBW.out _) hg4 (fun g hg => (HO.out.lt _ hg).1)⟩; clear hown4 hg4 hat4)
          go_roundg g
          case rel => exact ⟨k + 1, D ++ [v], by omega, by rw [List.length_append, List.length_singleton, ← HD.out]; omega, by go_num, Lib.hid ⟨HS.out, by rw [List.length_append, List.length_singleton, ← HD.out, iv_snoc]; exact HX4.out.1, HX4.out.2⟩⟩
          case measure => omega
        · have HS : Hid (D = lev L 0 (l.take (k + 1))) := Lib.hid (by rw [lev_step_no hkl hx (by rw [← HQ.out]; omega), HI.out.1])
          have hdq : decide ((q : Int) ≤ x) = true := decide_eq_true (by omega)
          clear hx hil
          go_wp2_with fail
          go_roundg g
          case rel => exact ⟨k + 1, D, by omega, by rw [← HD.out]; omega, by go_num, Lib.hid ⟨HS.out, by rw [← HD.out]; exact HO.out, HI.out.2.2⟩⟩
          case measure => omega
    · obtain rfl : k = n := by omega
      have HE : Hid (D = lev L 0 l) := Lib.hid (by rw [HI.out.1, HN.out, List.take_length])
      go_wp2_with fail
      go_ret
      exact ⟨A2, c2, d, rfl, by rw [← HE.out]; exact HD.out, by rw [← HE.out]; exact HRD.out, hmc, hm2, HI.out.2.2, fun p hp => (HO.out.lt p.block (by rw [hp]; rfl)).1⟩
set_option maxRecDepth 100000 in
set_option maxHeartbeats 4000000 in
theorem level2_aux (L : List Lt) (q cq b2 o2 : Nat) (AL : Option Addr) (hq : q = L.length) (hcq : q ≤ cq) (hcq2 : cq ≤ maxLen) (l : List Int) (A : Option Addr) (n c : Nat) (hn : n = l.length) (hn2 : n ≤ 100000) (hc : n ≤ c) (hcm : c ≤ maxLen) (w : World) (b o : Nat) (hA : n = 0 ∨ (A = some ⟨b, o, none⟩ ∧ IL w b o l)) (hAL : q = 0 ∨ (AL = some ⟨b2, o2, none⟩ ∧ RL w b2 o2 L)) :
    Calls Try.prog 32 #[.slice AL q cq, .slice A n c, .int .i64 2] w (LFr2 w (lev L 1 l)) := by
  obtain ⟨i0, hi0, hz0, hz1, hz2⟩ := info_parts Try.infoInt
  have hm' : c ≤ 9223372036854775807 := by unfold maxLen at hcm; omega
  have hq' : cq ≤ 9223372036854775807 := by unfold maxLen at hcq2; omega
  have HN := Lib.hid hn
  have HQ := Lib.hid hq
  have HA := Lib.hid hA
  have HAL := Lib.hid hAL
  clear hn hq hA hAL
  go_enter Try.func32, Try.ntmps32
  go_wp2_with fail
  go_loopg [7, 8, 9] n (fun g s7 s8 s9 wr => ∃ (k : Nat) (D : List Int), k + g = n ∧ D.length ≤ k ∧ s8 = .int .i64 (k : Int) ∧ Hid (D = lev L 1 (l.take k) ∧ wr.ownsRow w.heap.size 3 1 s7 D.length (iv D) ∧ Below w.heap.size w wr))
  case atStart => exact ⟨0, [], by omega, Nat.le_refl _, rfl, Lib.hid ⟨rfl, ⟨rfl, .inl ⟨rfl, rfl⟩⟩, Below.refl _ _⟩⟩
  case round =>
    obtain ⟨k, D, hk, hDk, rfl, HI⟩ := hrel
    obtain ⟨A2, c2, hv, hrd, hmc, hm2⟩ := Rd.of_own HI.out.2.1
    subst hv
    have HRD := Lib.hid hrd
    have HBW : Hid (Below w.heap.size w wr) := Lib.hid HI.out.2.2
    clear hrd
    obtain ⟨d, hd⟩ : ∃ d, d = D.length := ⟨_, rfl⟩
    have HO : Hid (wr.ownsRow w.heap.size 3 1 (.slice A2 d c2) d (iv D)) := Lib.hid (by rw [hd]; exact HI.out.2.1)
    have HD := Lib.hid hd
    rw [← hd] at hDk hmc ⊢
    clear hd
    by_cases hlt : k < n
    · obtain ⟨g, rfl⟩ : ∃ g, gk = g + 1 := ⟨gk - 1, by omega⟩
      obtain ⟨x, hx⟩ : ∃ x, x = l.getD k 0 := ⟨_, rfl⟩
      have hkl : k < l.length := by rw [← HN.out]; exact hlt
      obtain ⟨rfl, hil⟩ : A = some ⟨b, o, none⟩ ∧ IL w b o l := by
        rcases HA.out with h | h
        · omega
        · exact h
      have hcx : wr.cell? ⟨b, o + k, none⟩ = some (.int .i64 x) := hil.at HI.out.2.2 hkl hx
      by_cases hx0 : x < 0
      · have HS : Hid (D = lev L 1 (l.take (k + 1))) := Lib.hid (by rw [lev_step_no hkl hx (by omega), HI.out.1])
        have hd0 : decide (x < 0) = true := decide_eq_true hx0
        clear hx hil hx0
        go_wp2_with fail
        go_roundg g
        case rel => exact ⟨k + 1, D, by omega, by rw [← HD.out]; omega, by go_num, Lib.hid ⟨HS.out, by rw [← HD.out]; exact HO.out, HI.out.2.2⟩⟩
        case measure => omega
      · have hd0 : decide (x < 0) = false := decide_eq_false hx0
        by_cases hxq : x < (q : Int)
        · obtain ⟨x, rfl⟩ : ∃ y : Nat, x = y := ⟨x.toNat, by omega⟩
          obtain ⟨v, hv⟩ : ∃ v, v = num L 1 (x : Int) := ⟨_, rfl⟩
          have HS : Hid (D ++ [v] = lev L 1 (l.take (k + 1))) := Lib.hid (by rw [lev_step_yes hkl hx (by rw [← HQ.out]; omega), HI.out.1, hv])
          obtain ⟨rfl, hrl⟩ : AL = some ⟨b2, o2, none⟩ ∧ RL w b2 o2 L := by
            rcases HAL.out with h | h
            · omega
            · exact h
          have hcv : wr.cell? ⟨b2, o2 + x * 5 + 2, none⟩ = some (.int .i64 v) := by rw [hv]; exact (hrl.below HI.out.2.2).c2 (by rw [← HQ.out]; omega) rfl
          have hs1 : d + 1 ≤ maxLen := by unfold maxLen; omega
          have hs2 : (d + 1) * 8 ≤ 140737488355328 := by omega
          have hxn : x < q := by omega
          have hdq : decide ((q : Int) ≤ (x : Int)) = false := decide_eq_false (by omega)
          clear hv
          clear hx hil hrl
          go_wp2_with (at_builtin; refine wpList_own_src rfl (.tmp 41) (.tmp 47) 22 22 rfl w.heap.size 3 i0 _ 1 8 Try.underlying22 hi0 hz0 hz1 hz2 rfl _ _ _ rfl (own_alc HO.out _) _ 1 [.int .i64 v] rfl (src_one Try.underlying22 hz1 _ _ _ rfl) hs1 hs2 (below_al HBW.out _).size ?_; intro v4 w4 hown4 hg4 hat4; have HX4 : Hid (w4.ownsRow w.heap.size 3 1 v4 (d + 1) (iv D ++ [.int .i64 v]) ∧ Below w.heap.size w w4) := Lib.hid ⟨hown4, below_own (below_al HBW.out _) hg4 (fun g hg => (HO.out.lt _ hg).1)⟩; clear hown4 hg4 hat4)
          go_roundg g
          case rel => exact ⟨k + 1, D ++ [v], by omega, by rw [List.length_append, List.length_singleton, ← HD.out]; omega, by go_num, Lib.hid ⟨HS.out, by rw [List.length_append, List.length_singleton, ← HD.out, iv_snoc]; exact HX4.out.1, HX4.out.2⟩⟩
          case measure => omega
        · have HS : Hid (D = lev L 1 (l.take (k + 1))) := Lib.hid (by rw [lev_step_no hkl hx (by rw [← HQ.out]; omega), HI.out.1])
          have hdq : decide ((q : Int) ≤ x) = true := decide_eq_true (by omega)
          clear hx hil
          go_wp2_with fail
          go_roundg g
          case rel => exact ⟨k + 1, D, by omega, by rw [← HD.out]; omega, by go_num, Lib.hid ⟨HS.out, by rw [← HD.out]; exact HO.out, HI.out.2.2⟩⟩
          case measure => omega
    · obtain rfl : k = n := by omega
      have HE : Hid (D = lev L 1 l) := Lib.hid (by rw [HI.out.1, HN.out, List.take_length])
      go_wp2_with fail
      go_ret
      exact ⟨A2, c2, d, rfl, by rw [← HE.out]; exact HD.out, by rw [← HE.out]; exact HRD.out, hmc, hm2, HI.out.2.2, fun p hp => (HO.out.lt p.block (by rw [hp]; rfl)).1⟩
set_option maxRecDepth 100000 in
set_option maxHeartbeats 4000000 in
theorem level3_aux (L : List Lt) (q cq b2 o2 : Nat) (AL : Option Addr) (hq : q = L.length) (hcq : q ≤ cq) (hcq2 : cq ≤ maxLen) (l : List Int) (A : Option Addr) (n c : Nat) (hn : n = l.length) (hn2 : n ≤ 100000) (hc : n ≤ c) (hcm : c ≤ maxLen) (w : World) (b o : Nat) (hA : n = 0 ∨ (A = some ⟨b, o, none⟩ ∧ IL w b o l)) (hAL : q = 0 ∨ (AL = some ⟨b2, o2, none⟩ ∧ RL w b2 o2 L)) :
    Calls Try.prog 32 #[.slice AL q cq, .slice A n c, .int .i64 3] w (LFr2 w (lev L 2 l)) := by
  obtain ⟨i0, hi0, hz0, hz1, hz2⟩ := info_parts Try.infoInt
  have hm' : c ≤ 9223372036854775807 := by unfold maxLen at hcm; omega
  have hq' : cq ≤ 9223372036854775807 := by unfold maxLen at hcq2; omega
  have HN := Lib.hid hn
  have HQ := Lib.hid hq
  have HA := Lib.hid hA
  have HAL := Lib.hid hAL
  clear hn hq hA hAL
  go_enter Try.func32, Try.ntmps32
  go_wp2_with fail
  go_loopg [7, 8, 9] n (fun g s7 s8 s9 wr => ∃ (k : Nat) (D : List Int), k + g = n ∧ D.length ≤ k ∧ s8 = .int .i64 (k : Int) ∧ Hid (D = lev L 2 (l.take k) ∧ wr.ownsRow w.heap.size 3 1 s7 D.length (iv D) ∧ Below w.heap.size w wr))
  case atStart => exact ⟨0, [], by omega, Nat.le_refl _, rfl, Lib.hid ⟨rfl, ⟨rfl, .inl ⟨rfl, rfl⟩⟩, Below.refl _ _⟩⟩
  case round =>
    obtain ⟨k, D, hk, hDk, rfl, HI⟩ := hrel
    obtain ⟨A2, c2, hv, hrd, hmc, hm2⟩ := Rd.of_own HI.out.2.1
    subst hv
    have HRD := Lib.hid hrd
    have HBW : Hid (Below w.heap.size w wr) := Lib.hid HI.out.2.2
    clear hrd
    obtain ⟨d, hd⟩ : ∃ d, d = D.length := ⟨_, rfl⟩
    have HO : Hid (wr.ownsRow w.heap.size 3 1 (.slice A2 d c2) d (iv D)) := Lib.hid (by rw [hd]; exact HI.out.2.1)
    have HD := Lib.hid hd
    rw [← hd] at hDk hmc ⊢
    clear hd
    by_cases hlt : k < n
    · obtain ⟨g, rfl⟩ : ∃ g, gk = g + 1 := ⟨gk - 1, by omega⟩
      obtain ⟨x, hx⟩ : ∃ x, x = l.getD k 0 := ⟨_, rfl⟩
      have hkl : k < l.length := by rw [← HN.out]; exact hlt
      obtain ⟨rfl, hil⟩ : A = some ⟨b, o, none⟩ ∧ IL w b o l := by
        rcases HA.out with h | h
        · omega
        · exact h
      have hcx : wr.cell? ⟨b, o + k, none⟩ = some (.int .i64 x) := hil.at HI.out.2.2 hkl hx
      by_cases hx0 : x < 0
      · have HS : Hid (D = lev L 2 (l.take (k + 1))) := Lib.hid (by rw [lev_step_no hkl hx (by omega), HI.out.1])
        have hd0 : decide (x < 0) = true := decide_eq_true hx0
        clear hx hil hx0
        go_wp2_with fail
        go_roundg g
        case rel => exact ⟨k + 1, D, by omega, by rw [← HD.out]; omega, by go_num, Lib.hid ⟨HS.out, by rw [← HD.out]; exact HO.out, HI.out.2.2⟩⟩
        case measure => omega
      · have hd0 : decide (x < 0) = false := decide_eq_false hx0
        by_cases hxq : x < (q : Int)
        · obtain ⟨x, rfl⟩ : ∃ y : Nat, x = y := ⟨x.toNat, by omega⟩
          obtain ⟨v, hv⟩ : ∃ v, v = num L 2 (x : Int) := ⟨_, rfl⟩
          have HS : Hid (D ++ [v] = lev L 2 (l.take (k + 1))) := Lib.hid (by rw [lev_step_yes hkl hx (by rw [← HQ.out]; omega), HI.out.1, hv])
          obtain ⟨rfl, hrl⟩ : AL = some ⟨b2, o2, none⟩ ∧ RL w b2 o2 L := by
            rcases HAL.out with h | h
            · omega
            · exact h
          have hcv : wr.cell? ⟨b2, o2 + x * 5 + 3, none⟩ = some (.int .i64 v) := by rw [hv]; exact (hrl.below HI.out.2.2).c3 (by rw [← HQ.out]; omega) rfl
          have hs1 : d + 1 ≤ maxLen := by unfold maxLen; omega
          have hs2 : (d + 1) * 8 ≤ 140737488355328 := by omega
          have hxn : x < q := by omega
          have hdq : decide ((q : Int) ≤ (x : Int)) = false := decide_eq_false (by omega)
          clear hv
          clear hx hil hrl
          go_wp2_with (at_builtin; refine wpList_own_src rfl (.tmp 51) (.tmp 57) 22 22 rfl w.heap.size 3 i0 _ 1 8 Try.underlying22 hi0 hz0 hz1 hz2 rfl _ _ _ rfl (own_alc HO.out _) _ 1 [.int .i64 v] rfl (src_one Try.underlying22 hz1 _ _ _ rfl) hs1 hs2 (below_al HBW.out _).size ?_; intro v4 w4 hown4 hg4 hat4; have HX4 : Hid (w4.ownsRow w.heap.size 3 1 v4 (d + 1) (iv D ++ [.int .i64 v]) ∧ Below w.heap.size w w4) := Lib.hid ⟨hown4, below_own (below_al HBW.out _) hg4 (fun g hg => (HO.out.lt _ hg).1)⟩; clear hown4 hg4 hat4)
          go_roundg g
          case rel => exact ⟨k + 1, D ++ [v], by omega, by rw [List.length_append, List.length_singleton, ← HD.out]; omega, by go_num, Lib.hid ⟨HS.out, by rw [List.length_append, List.length_singleton, ← HD.out, iv_snoc]; exact HX4.out.1, HX4.out.2⟩⟩
          case measure => omega
        · have HS : Hid (D = lev L 2 (l.take (k + 1))) := Lib.hid (by rw [lev_step_no hkl hx (by rw [← HQ.out]; omega), HI.out.1])
          have hdq : decide ((q : Int) ≤ x) = true := decide_eq_true (by omega)
          clear hx hil
          go_wp2_with fail
          go_roundg g
          case rel => exact ⟨k + 1, D, by omega, by rw [← HD.out]; omega, by go_num, Lib.hid ⟨HS.out, by rw [← HD.out]; exact HO.out, HI.out.2.2⟩⟩
          case measure => omega
    · obtain rfl : k = n := by omega
      have HE : Hid (D = lev L 2 l) := Lib.hid (by rw [HI.out.1, HN.out, List.take_length])
      go_wp2_with fail
      go_ret
      exact ⟨A2, c2, d, rfl, by rw [← HE.out]; exact HD.out, by rw [← HE.out]; exact HRD.out, hmc, hm2, HI.out.2.2, fun p hp => (HO.out.lt p.block (by rw [hp]; rfl)).1⟩
set_option maxRecDepth 100000 in
set_option maxHeartbeats 4000000 in
theorem level4_aux (L : List Lt) (q cq b2 o2 : Nat) (AL : Option Addr) (hq : q = L.length) (hcq : q ≤ cq) (hcq2 : cq ≤ maxLen) (l : List Int) (A : Option Addr) (n c : Nat) (hn : n = l.length) (hn2 : n ≤ 100000) (hc : n ≤ c) (hcm : c ≤ maxLen) (w : World) (b o : Nat) (hA : n = 0 ∨ (A = some ⟨b, o, none⟩ ∧ IL w b o l)) (hAL : q = 0 ∨ (AL = some ⟨b2, o2, none⟩ ∧ RL w b2 o2 L)) :
    Calls Try.prog 32 #[.slice AL q cq, .slice A n c, .int .i64 4] w (LFr2 w (lev L 3 l)) := by
  obtain ⟨i0, hi0, hz0, hz1, hz2⟩ := info_parts Try.infoInt
  have hm' : c ≤ 9223372036854775807 := by unfold maxLen at hcm; omega
  have hq' : cq ≤ 9223372036854775807 := by unfold maxLen at hcq2; omega
  have HN := Lib.hid hn
  have HQ := Lib.hid hq
  have HA := Lib.hid hA
  have HAL := Lib.hid hAL
  clear hn hq hA hAL
  go_enter Try.func32, Try.ntmps32
  go_wp2_with fail
  go_loopg [7, 8, 9] n (fun g s7 s8 s9 wr => ∃ (k : Nat) (D : List Int), k + g = n ∧ D.length ≤ k ∧ s8 = .int .i64 (k : Int) ∧ Hid (D = lev L 3 (l.take k) ∧ wr.ownsRow w.heap.size 3 1 s7 D.length (iv D) ∧ Below w.heap.size w wr))
  case atStart => exact ⟨0, [], by omega, Nat.le_refl _, rfl, Lib.hid ⟨rfl, ⟨rfl, .inl ⟨rfl, rfl⟩⟩, Below.refl _ _⟩⟩
  case round =>
    obtain ⟨k, D, hk, hDk, rfl, HI⟩ := hrel
    obtain ⟨A2, c2, hv, hrd, hmc, hm2⟩ := Rd.of_own HI.out.2.1
    subst hv
    have HRD := Lib.hid hrd
    have HBW : Hid (Below w.heap.size w wr) := Lib.hid HI.out.2.2
    clear hrd
    obtain ⟨d, hd⟩ : ∃ d, d = D.length := ⟨_, rfl⟩
    have HO : Hid (wr.ownsRow w.heap.size 3 1 (.slice A2 d c2) d (iv D)) := Lib.hid (by rw [hd]; exact HI.out.2.1)
    have HD := Lib.hid hd
    rw [← hd] at hDk hmc ⊢
    clear hd
    by_cases hlt : k < n
    · obtain ⟨g, rfl⟩ : ∃ g, gk = g + 1 := ⟨gk - 1, by omega⟩
      obtain ⟨x, hx⟩ : ∃ x, x = l.getD k 0 := ⟨_, rfl⟩
      have hkl : k < l.length := by rw [← HN.out]; exact hlt
      obtain ⟨rfl, hil⟩ : A = some ⟨b, o, none⟩ ∧ IL w b o l := by
        rcases HA.out with h | h
        · omega
        · exact h
      have hcx : wr.cell? ⟨b, o + k, none⟩ = some (.int .i64 x) := hil.at HI.out.2.2 hkl hx
      by_cases hx0 : x < 0
      · have HS : Hid (D = lev L 3 (l.take (k + 1))) := Lib.hid (by rw [lev_step_no hkl hx (by omega), HI.out.1])
        have hd0 : decide (x < 0) = true := decide_eq_true hx0
        clear hx hil hx0
        go_wp2_with fail
        go_roundg g
        case rel => exact ⟨k + 1, D, by omega, by rw [← HD.out]; omega, by go_num, Lib.hid ⟨HS.out, by rw [← HD.out]; exact HO.out, HI.out.2.2⟩⟩
        case measure => omega
      · have hd0 : decide (x < 0) = false := decide_eq_false hx0
        by_cases hxq : x < (q : Int)
        · obtain ⟨x, rfl⟩ : ∃ y : Nat, x = y := ⟨x.toNat, by omega⟩
          obtain ⟨v, hv⟩ : ∃ v, v = num L 3 (x : Int) := ⟨_, rfl⟩
          have HS : Hid (D ++ [v] = lev L 3 (l.take (k + 1))) := Lib.hid (by rw [lev_step_yes hkl hx (by rw [← HQ.out]; omega), HI.out.1, hv])
          obtain ⟨rfl, hrl⟩ : AL = some ⟨b2, o2, none⟩ ∧ RL w b2 o2 L := by
            rcases HAL.out with h | h
            · omega
            · exact h
          have hs1 : d + 1 ≤ maxLen := by unfold maxLen; omega
          have hs2 : (d + 1) * 8 ≤ 140737488355328 := by omega
          have hxn : x < q := by omega
          have hdq : decide ((q : Int) ≤ (x : Int)) = false := decide_eq_false (by omega)
          subst hv
          clear hx hil hrl
          go_wp2_with (at_builtin; refine wpList_own_src rfl (.tmp 61) (.tmp 63) 22 22 rfl w.heap.size 3 i0 _ 1 8 Try.underlying22 hi0 hz0 hz1 hz2 rfl _ _ _ rfl (own_alc HO.out _) _ 1 [.int .i64 (x : Int)] rfl (src_one Try.underlying22 hz1 _ _ _ rfl) hs1 hs2 (below_al HBW.out _).size ?_; intro v4 w4 hown4 hg4 hat4; have HX4 : Hid (w4.ownsRow w.heap.size 3 1 v4 (d + 1) (iv D ++ [.int .i64 (x : Int)]) ∧ Below w.heap.size w w4) := Lib.hid ⟨hown4, below_own (below_al HBW.out _) hg4 (fun g hg => (HO.out.lt _ hg).1)⟩; clear hown4 hg4 hat4)
          go_roundg g
          case rel => exact ⟨k + 1, D ++ [(x : Int)], by omega, by rw [List.length_append, List.length_singleton, ← HD.out]; omega, by go_num, Lib.hid ⟨HS.out, by rw [List.length_append, List.length_singleton, ← HD.out, iv_snoc]; exact HX4.out.1, HX4.out.2⟩⟩
          case measure => omega
        · have HS : Hid (D = lev L 3 (l.take (k + 1))) := Lib.hid (by rw [lev_step_no hkl hx (by rw [← HQ.out]; omega), HI.out.1])
          have hdq : decide ((q : Int) ≤ x) = true := decide_eq_true (by omega)
          clear hx hil
          go_wp2_with fail
          go_roundg g
          case rel => exact ⟨k + 1, D, by omega, by rw [← HD.out]; omega, by go_num, Lib.hid ⟨HS.out, by rw [← HD.out]; exact HO.out, HI.out.2.2⟩⟩
          case measure => omega
    · obtain rfl : k = n := by omega
      have HE : Hid (D = lev L 3 l) := Lib.hid (by rw [HI.out.1, HN.out, List.take_length])
      go_wp2_with fail
      go_ret
      exact ⟨A2, c2, d, rfl, by rw [← HE.out]; exact HD.out, by rw [← HE.out]; exact HRD.out, hmc, hm2, HI.out.2.2, fun p hp => (HO.out.lt p.block (by rw [hp]; rfl)).1⟩
theorem rl_or {w : World} {A : Option Addr} {L : List Lt} {n : Nat} (hn : n = L.length) (hr : Rd w A (lv L)) : ∃ b o, n = 0 ∨ (A = some ⟨b, o, none⟩ ∧ RL w b o L) := by
  by_cases h0 : n = 0
  · exact ⟨0, 0, .inl h0⟩
  · obtain ⟨b, o, e, h⟩ := rl_open hr (by intro e; subst e; exact h0 hn)
    exact ⟨b, o, .inr ⟨e, h⟩⟩
/-- Level, at levels 1 to 4. -/
theorem level_fr (L : List Lt) (q cq : Nat) (AL : Option Addr) (hq : q = L.length) (hcq : q ≤ cq) (hcq2 : cq ≤ maxLen) (l : List Int) (A : Option Addr) (n c : Nat) (hn : n = l.length) (hn2 : n ≤ 100000) (hc : n ≤ c) (hcm : c ≤ maxLen) (j : Nat) (hj : j < 4) (i : Int) (hi : i = (j : Int) + 1) (w : World) (hr : Rd w A (iv l)) (hrl : Rd w AL (lv L)) :
    Calls Try.prog 32 #[.slice AL q cq, .slice A n c, .int .i64 i] w (LFr2 w (lev L j l)) := by
  obtain ⟨b, o, hA⟩ := il_or hn hr
  obtain ⟨b2, o2, hAL⟩ := rl_or hq hrl
  subst hi
  rcases (by omega : j = 0 ∨ j = 1 ∨ j = 2 ∨ j = 3) with rfl | rfl | rfl | rfl
  · exact level1_aux L q cq b2 o2 AL hq hcq hcq2 l A n c hn hn2 hc hcm w b o hA hAL
  · exact level2_aux L q cq b2 o2 AL hq hcq hcq2 l A n c hn hn2 hc hcm w b o hA hAL
  · exact level3_aux L q cq b2 o2 AL hq hcq hcq2 l A n c hn hn2 hc hcm w b o hA hAL
  · exact level4_aux L q cq b2 o2 AL hq hcq hcq2 l A n c hn hn2 hc hcm w b o hA hAL
theorem level_any (L : List Lt) (q cq : Nat) (AL : Option Addr) (hq : q = L.length) (hcq : q ≤ cq) (hcq2 : cq ≤ maxLen) (l : List Int) (A : Option Addr) (n c : Nat) (hn : n = l.length) (hn2 : n ≤ 100000) (hc : n ≤ c) (hcm : c ≤ maxLen) (j : Nat) (hj : j < 4) (i : Int) (hi : i = (j : Int) + 1) (w : World) (hr : Rd w A (iv l)) (hrl : Rd w AL (lv L)) :
    Calls Try.prog 32 #[.slice AL q cq, .slice A n c, .int .i64 i] w (LPost w (lev L j l)) :=
  (level_fr L q cq AL hq hcq hcq2 l A n c hn hn2 hc hcm j hj i hi w hr hrl).mono fun e w' ⟨A3, c3, n3, h1, h2, h3, h4, h5, h6, _⟩ => ⟨A3, c3, n3, h1, h2, h3, h4, h5, h6⟩
end Go.Proofs.Ytalladdmedmfeaa
