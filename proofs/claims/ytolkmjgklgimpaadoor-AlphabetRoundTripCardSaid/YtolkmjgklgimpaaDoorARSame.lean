/-
  The reference's Same on equal lists.
-/
import Derived.Test.YtolkmjgklgimpaaDoorALives
namespace Go.Proofs.YtolkmjgklgimpaaDoor
open Go.RowKit
open Alp
set_option linter.unusedVariables false
set_option linter.unusedSimpArgs false

set_option maxRecDepth 100000 in
set_option maxHeartbeats 4000000 in
theorem rsame_aux (L : List Lt) (n : Nat) (hn : n = L.length) (hm : n ≤ maxLen) (A1 A2 : Option Addr) (c1 c2 b1 o1 b2 o2 : Nat) (w : World) (hA : n = 0 ∨ ((A1 = some ⟨b1, o1, none⟩ ∧ RL w b1 o1 L) ∧ (A2 = some ⟨b2, o2, none⟩ ∧ RL w b2 o2 L))) :
    Calls Tryd.prog 28 #[.slice A1 n c1, .slice A2 n c2] w (BoolB w true) := by
  have hm' : n ≤ 9223372036854775807 := by unfold maxLen at hm; omega
  have hnn : ((n : Int) != (n : Int)) = false := by simp
  have HN := Lib.hid hn
  have HA := Lib.hid hA
  clear hn hA hm
  go_enter Tryd.func28, Tryd.ntmps28
  go_wp2_with fail
  go_loopg [5] n (fun g s5 wr => ∃ (k q : Nat), k + g = n ∧ s5 = .int .i64 (k : Int) ∧ wr = w.drewN q)
  case atStart => exact ⟨0, 0, by omega, rfl, rfl⟩
  case round =>
    obtain ⟨k, q, hk, rfl, rfl⟩ := hrel
    by_cases hlt : k < n
    · obtain ⟨g, rfl⟩ : ∃ g, gk = g + 1 := ⟨gk - 1, by omega⟩
      obtain ⟨⟨rfl, hi1⟩, ⟨rfl, hi2⟩⟩ : (A1 = some ⟨b1, o1, none⟩ ∧ RL w b1 o1 L) ∧ (A2 = some ⟨b2, o2, none⟩ ∧ RL w b2 o2 L) := by
        rcases HA.out with h | h
        · omega
        · exact h
      obtain ⟨l, hl⟩ : ∃ l, l = L.getD k z := ⟨_, rfl⟩
      have hkl : k < L.length := by rw [← HN.out]; exact hlt
      have HR : Hid ((w.drewN q).drew.rangeAt b1 (o1 + k * 5) (lc l) ∧ (w.drewN q).drew.rangeAt b2 (o2 + k * 5) (lc l)) := Lib.hid ⟨hi1.range hkl hl, hi2.range hkl hl⟩
      have heq : ∀ w, (Op.equalIn 10000 50 (.agg #[.string (tb l.text), .int .i64 l.base, .int .i64 l.mark, .int .i64 l.cas, .int .i64 l.width]) (.agg #[.string (tb l.text), .int .i64 l.base, .int .i64 l.mark, .int .i64 l.cas, .int .i64 l.width])).run Tryd.prog w = .ok true w := fun w => (eq_lt l l w).trans (by rw [decide_eq_true rfl])
      have heq2 : ∀ w, (Op.equalIn 10000 50 (.agg (lc l).toArray) (.agg (lc l).toArray)).run Tryd.prog w = .ok true w := heq
      clear heq
      have hd : decide ((k : Int) < (n : Int)) = true := decide_eq_true (by omega)
      clear hi1 hi2 hl hkl
      go_wp2_with fail
      refine wp_region_held_drew (S := fun w' => w'.rangeAt b1 (o1 + k * 5) (lc l) ∧ w'.rangeAt b2 (o2 + k * 5) (lc l)) (by kernel_rfl) (⟨HR.out.1, HR.out.2⟩) (fun hS0 => ?_)
      refine wpAnyH_take (i := 0) (oi := { dst := some 17, op := Op.move (Operand.tmp 0), type := 23, pos := "ref.go:223", after := #[], guard := none }) (v := ?_) rfl (by kernel_rfl) (by kernel_rfl) (by kernel_rfl) (fun _ _ _ h => h) (Or.inl ⟨by rfl, ?_⟩) (by assumption) ?_
      rotate_left
      · (intro w' hSw; (try dsimp only at hSw); obtain ⟨hS1, hS2⟩ := hSw; go_simp; try with_reducible rfl)
      try simp only [Act.put, List.setIfInBounds_toArray, List.set_cons_zero, List.set_cons_succ]
      refine wpAnyH_take (i := 1) (oi := { dst := some 18, op := Op.move (Operand.tmp 5), type := 3, pos := "ref.go:223", after := #[], guard := none }) (v := ?_) rfl (by kernel_rfl) (by kernel_rfl) (by kernel_rfl) (fun _ _ _ h => h) (Or.inl ⟨by rfl, ?_⟩) (by assumption) ?_
      rotate_left
      · (intro w' hSw; (try dsimp only at hSw); obtain ⟨hS1, hS2⟩ := hSw; go_simp; try with_reducible rfl)
      try simp only [Act.put, List.setIfInBounds_toArray, List.set_cons_zero, List.set_cons_succ]
      refine wpAnyH_take (i := 2) (oi := { dst := some 19, op := Op.indexAddr 23 (Operand.tmp 17) (Operand.tmp 18), type := 0, pos := "ref.go:223", after := #[{ on := 0, ground := Ground.data }, { on := 1, ground := Ground.data }], guard := none }) (v := ?_) rfl (by kernel_rfl) (by kernel_rfl) (by kernel_rfl) (fun _ _ _ h => h) (Or.inl ⟨by rfl, ?_⟩) (by assumption) ?_
      rotate_left
      · (intro w' hSw; (try dsimp only at hSw); obtain ⟨hS1, hS2⟩ := hSw; go_simp; try with_reducible rfl)
      try simp only [Act.put, List.setIfInBounds_toArray, List.set_cons_zero, List.set_cons_succ]
      refine wpAnyH_take (i := 3) (oi := { dst := some 20, op := Op.load 50 (Operand.tmp 19), type := 50, pos := "ref.go:223", after := #[{ on := 2, ground := Ground.data }], guard := none }) (v := _) rfl (by kernel_rfl) (by kernel_rfl) (by kernel_rfl) (fun _ _ _ h => h) (yieldsIf_load_mid (by rfl) _ _ rfl _ _ rfl _ _ (fun w h => h.1) Tryd.underlying50 rfl Tryd.sizeLt) (by assumption) ?_
      try simp only [Act.put, List.setIfInBounds_toArray, List.set_cons_zero, List.set_cons_succ]
      refine wpAnyH_take (i := 4) (oi := { dst := some 21, op := Op.move (Operand.tmp 1), type := 23, pos := "ref.go:223", after := #[], guard := none }) (v := ?_) rfl (by kernel_rfl) (by kernel_rfl) (by kernel_rfl) (fun _ _ _ h => h) (Or.inl ⟨by rfl, ?_⟩) (by assumption) ?_
      rotate_left
      · (intro w' hSw; (try dsimp only at hSw); obtain ⟨hS1, hS2⟩ := hSw; go_simp; try with_reducible rfl)
      try simp only [Act.put, List.setIfInBounds_toArray, List.set_cons_zero, List.set_cons_succ]
      refine wpAnyH_take (i := 5) (oi := { dst := some 22, op := Op.move (Operand.tmp 5), type := 3, pos := "ref.go:223", after := #[], guard := none }) (v := ?_) rfl (by kernel_rfl) (by kernel_rfl) (by kernel_rfl) (fun _ _ _ h => h) (Or.inl ⟨by rfl, ?_⟩) (by assumption) ?_
      rotate_left
      · (intro w' hSw; (try dsimp only at hSw); obtain ⟨hS1, hS2⟩ := hSw; go_simp; try with_reducible rfl)
      try simp only [Act.put, List.setIfInBounds_toArray, List.set_cons_zero, List.set_cons_succ]
      refine wpAnyH_take (i := 6) (oi := { dst := some 23, op := Op.indexAddr 23 (Operand.tmp 21) (Operand.tmp 22), type := 0, pos := "ref.go:223", after := #[{ on := 4, ground := Ground.data }, { on := 5, ground := Ground.data }], guard := none }) (v := ?_) rfl (by kernel_rfl) (by kernel_rfl) (by kernel_rfl) (fun _ _ _ h => h) (Or.inl ⟨by rfl, ?_⟩) (by assumption) ?_
      rotate_left
      · (intro w' hSw; (try dsimp only at hSw); obtain ⟨hS1, hS2⟩ := hSw; go_simp; try with_reducible rfl)
      try simp only [Act.put, List.setIfInBounds_toArray, List.set_cons_zero, List.set_cons_succ]
      refine wpAnyH_take (i := 7) (oi := { dst := some 24, op := Op.load 50 (Operand.tmp 23), type := 50, pos := "ref.go:223", after := #[{ on := 6, ground := Ground.data }], guard := none }) (v := _) rfl (by kernel_rfl) (by kernel_rfl) (by kernel_rfl) (fun _ _ _ h => h) (yieldsIf_load_mid (by rfl) _ _ rfl _ _ rfl _ _ (fun w h => h.2) Tryd.underlying50 rfl Tryd.sizeLt) (by assumption) ?_
      try simp only [Act.put, List.setIfInBounds_toArray, List.set_cons_zero, List.set_cons_succ]
      refine wpAnyH_take (i := 8) (oi := { dst := some 25, op := Op.binOp BinOp.neq 50 (Operand.tmp 20) (Operand.tmp 24) 50, type := 4, pos := "ref.go:223", after := #[{ on := 3, ground := Ground.data }, { on := 7, ground := Ground.data }], guard := none }) (v := ?_) rfl (by kernel_rfl) (by kernel_rfl) (by kernel_rfl) (fun _ _ _ h => h) (Or.inl ⟨by rfl, ?_⟩) (by assumption) ?_
      rotate_left
      · (intro w' hSw; (try dsimp only at hSw); obtain ⟨hS1, hS2⟩ := hSw; go_simp; try with_reducible rfl)
      try simp only [Act.put, List.setIfInBounds_toArray, List.set_cons_zero, List.set_cons_succ]
      refine wpAnyH_done (by kernel_rfl) ?_ _

      go_wp2_with fail
      go_roundg g
      case rel => exact ⟨k + 1, _, by omega, by go_num, rfl⟩
      case measure => omega
    · obtain rfl : k = n := by omega
      go_wp2_with fail
      go_ret
      exact ⟨rfl, below_drewN (Below.refl _ _) _⟩
theorem rsame_any (L : List Lt) (A1 A2 : Option Addr) (n1 n2 c1 c2 : Nat) (h1 : n1 = L.length) (h2 : n2 = L.length) (hm : n1 ≤ maxLen) (w : World) (hr1 : Rd w A1 (lv L)) (hr2 : Rd w A2 (lv L)) : Calls Tryd.prog 28 #[.slice A1 n1 c1, .slice A2 n2 c2] w (BoolB w true) := by
  obtain rfl : n1 = n2 := by omega
  by_cases h0 : n1 = 0
  · exact rsame_aux L n1 h1 hm A1 A2 c1 c2 0 0 0 0 w (.inl h0)
  · obtain ⟨b1, o1, e1, i1⟩ := rl_open hr1 (by intro e; subst e; exact h0 h1)
    obtain ⟨b2, o2, e2, i2⟩ := rl_open hr2 (by intro e; subst e; exact h0 h2)
    exact rsame_aux L n1 h1 hm A1 A2 c1 c2 b1 o1 b2 o2 w (.inr ⟨⟨e1, i1⟩, ⟨e2, i2⟩⟩)
end Go.Proofs.YtolkmjgklgimpaaDoor
