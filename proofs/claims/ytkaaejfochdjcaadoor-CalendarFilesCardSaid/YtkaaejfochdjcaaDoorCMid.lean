/-
  calendar.middle: the year about which a span lies.
-/
import Derived.Test.YtkaaejfochdjcaaDoorCShort
namespace Go.Proofs.YtkaaejfochdjcaaDoor
open Go.RowKit
open Cal
set_option linter.unusedVariables false
set_option linter.unusedSimpArgs false

theorem wpList_load_spanW {w : World} {ops : Array Oper} {rest : List Oper} {o : Oper} {a : Act} {Q : Exit → Act → World → Prop} (hw : Region.wanted o (yielded ops a.tmps) = true) (x : Operand) (ho : o.op = .load 30 x)
    (g : Nat) (hx : a.eval x = .pointer (some ⟨g, 0, none⟩)) (p q : Int) {T : TypeId} (hb : Blk w g (iv [p, q]) T)
    (h : wpList Tryd.prog ops Q rest (a.put o.dst (.agg #[.int .i64 p, .int .i64 q])) w) : wpList Tryd.prog ops Q (o :: rest) a w :=
  BigFrame.wpList_want hw fun _ hK => wp_load_mid 30 x ho g 0 hx (iv [p, q]) _ (fun j v hv => by rw [Nat.zero_add]; exact hb.cell hv) Tryd.underlying30 rfl Tryd.sizeSpan (hK _ _ h)
def MidPost (w : World) (Q : Option Int) (e : Ending) (w' : World) : Prop :=
  (∃ y, Q = some y ∧ e = .returned (.tuple #[.int .i64 y, .bool true]) ∧ Below w.heap.size w w') ∨ (Q = none ∧ e = .returned (.tuple #[.int .i64 0, .bool false]) ∧ Below w.heap.size w w')
theorem aro_err (y : Int) : (aro y).2.2 = 0 ∨ aro y = eRange := by
  unfold aro
  split
  · exact .inl rfl
  · exact .inr rfl
theorem Tryd.sizeTwo : (Tryd.prog.info? 3).map (·.size) = some 1 := by kernel_rfl
theorem two_index (A B : Int) (i : Nat) (hi : i < 2) (v : Value) (hv : (#[Value.int .i64 A, Value.int .i64 B] : Array Value)[i]? = some v) (W : World) : (Instr.index 97 (.agg #[.int .i64 A, .int .i64 B]) (.int .i64 (i : Int))).run Tryd.prog W = .ok v W :=
  index_val Tryd.underlying97 Tryd.sizeInt (fun w => by kernel_rfl) _ .i64 i hi v hv W
theorem yOf_bd {n : Int} (h1 : 1 ≤ n) (h2 : n ≤ 1022679) : 1 ≤ yOf n ∧ yOf n ≤ 2800 := ⟨(date_ex h1 h2).1.1, (date_ex h1 h2).1.2.1⟩
theorem midP_first {a b : Int} (h : aro (yOf a + 5) = (a, b, 0)) : midP a b = some (yOf a + 5) := by unfold midP; rw [if_pos h]
theorem midP_second {a b : Int} (h : aro (yOf a + 5) ≠ (a, b, 0)) (h2 : aro (yOf b - 4) = (a, b, 0)) : midP a b = some (yOf b - 4) := by unfold midP; rw [if_neg h, if_pos h2]
theorem midP_none {a b : Int} (h : aro (yOf a + 5) ≠ (a, b, 0)) (h2 : aro (yOf b - 4) ≠ (a, b, 0)) : midP a b = none := by unfold midP; rw [if_neg h, if_neg h2]
set_option maxRecDepth 100000 in
set_option maxHeartbeats 4000000 in
theorem middle_aux (a b : Int) (a1 : 1 ≤ a) (a2 : a ≤ 1022679) (b1 : 1 ≤ b) (b2 : b ≤ 1022679) (Y1 Y2 : Int) (e1 : Y1 = yOf a) (e2 : Y2 = yOf b) (Q : Option Int) (hQ : Q = midP a b) (w : World) (hM : MD w) :
    Calls Tryd.prog 51 #[.agg #[.int .i64 a, .int .i64 b]] w (MidPost w Q) := by
  have hy1 := yOf_bd a1 a2
  have hy2 := yOf_bd b1 b2
  rw [← e1] at hy1
  rw [← e2] at hy2
  have HM := Lib.hid hM
  have HQ := Lib.hid hQ
  have HD1 : Hid (∀ W, Below w.heap.size w W → Calls Tryd.prog 14 #[.int .i64 a] W fun e w' => (∃ m d : Int, e = ret4 Y1 m d 0) ∧ W = w') := Lib.hid fun W hb => (date_yes a a1 a2 W (hM.below hb)).mono fun e w' ⟨h, h'⟩ => ⟨⟨_, _, by rw [e1]; exact h⟩, h'⟩
  have HD2 : Hid (∀ W, Below w.heap.size w W → Calls Tryd.prog 14 #[.int .i64 b] W fun e w' => (∃ m d : Int, e = ret4 Y2 m d 0) ∧ W = w') := Lib.hid fun W hb => (date_yes b b1 b2 W (hM.below hb)).mono fun e w' ⟨h, h'⟩ => ⟨⟨_, _, by rw [e2]; exact h⟩, h'⟩
  have HY1 := Lib.hid e1
  have HY2 := Lib.hid e2
  clear hM hQ e1 e2
  go_enter Tryd.func51, Tryd.ntmps51
  go_wp2_with (first
    | ((with_reducible refine (HD1.out _ (below_a1 _ _)).mono ?_); rintro e w1 ⟨⟨m1, d1, rfl⟩, rfl⟩; unfold ret4)
    | ((with_reducible refine (HD2.out _ (below_a1 _ _)).mono ?_); rintro e w2 ⟨⟨m2, d2, rfl⟩, rfl⟩; unfold ret4))
  go_loopg [37] 2 (fun g s37 wr => ∃ k : Nat, k + g = 2 ∧ s37 = .int .i64 (k : Int) ∧ Hid (1 ≤ k → aro (Y1 + 5) ≠ (a, b, 0)) ∧ Hid (k = 2 → aro (Y2 - 4) ≠ (a, b, 0)) ∧ Hid (Blk wr w.heap.size (iv [a, b]) 30 ∧ Below w.heap.size w wr))
  case atStart => exact ⟨0, rfl, rfl, Lib.hid fun h => by omega, Lib.hid fun h => by omega, Lib.hid ⟨Blk.at w (iv [a, b]) _ 30 _ rfl rfl, below_a1 _ _⟩⟩
  case round =>
    obtain ⟨k, hk, rfl, HN0, HN1, HI⟩ := hrel
    have hk3 : k = 0 ∨ k = 1 ∨ k = 2 := by omega
    rcases hk3 with rfl | rfl | rfl
    · obtain rfl : gk = 1 + 1 := by omega
      obtain ⟨y, hy⟩ : ∃ y, y = Y1 + 5 := ⟨_, rfl⟩
      have hidx : ∀ W, (Instr.index 97 (.agg #[.int .i64 (Y1 + 5), .int .i64 (Y2 - 4)]) (.int .i64 0)).run Tryd.prog W = .ok (.int .i64 y) W := fun W => two_index (Y1 + 5) (Y2 - 4) 0 (by omega) _ (by rw [hy]; rfl) W
      rcases aro_err y with he | he
      · obtain ⟨⟨f, l, e0⟩, hr⟩ : ∃ r, r = aro y := ⟨_, rfl⟩
        rw [← hr] at he
        obtain rfl : e0 = 0 := he
        have HA : Hid (Calls Tryd.prog 44 #[.int .i64 y] wr fun e w' => e = .returned (.tuple #[.agg #[.int .i64 f, .int .i64 l], .int .i64 0]) ∧ Below wr.heap.size wr w') := Lib.hid ((around_any y wr (HM.out.below HI.out.2)).mono fun e w' ⟨h1, h2⟩ => ⟨by rw [h1, ← hr]; rfl, h2⟩)
        by_cases hq : f = a ∧ l = b
        · obtain ⟨rfl, rfl⟩ := hq
          have HEQ : Hid (aro (Y1 + 5) = (f, l, 0)) := Lib.hid (by rw [← hy, ← hr])
          have HY : Hid (y = Y1 + 5) := Lib.hid hy
          clear hr hy
          go_wp2_with (first
            | ((with_reducible refine HA.out.mono ?_); rintro e w4 ⟨rfl, hb4⟩; have HI4 : Hid (Blk w4 w.heap.size (iv [f, l]) 30 ∧ Below w.heap.size w w4) := Lib.hid ⟨HI.out.1.below hb4 HI.out.1.lt, below_next HI.out.2 hb4⟩; have hlt4 : w.heap.size < w4.heap.size := HI4.out.1.lt; clear hb4)
            | (refine wpList_load_spanW (by rfl) (.tmp 1) rfl w.heap.size rfl f l (HI4.out.1.alloc _) ?_))
          go_ret2
          exact .inl ⟨y, by rw [HQ.out, HY.out]; have h := HEQ.out; rw [HY1.out] at h ⊢; exact midP_first h, rfl, (below_al HI4.out.2 _)⟩
        · have HNE : Hid (aro (Y1 + 5) ≠ (a, b, 0)) := Lib.hid (by rw [← hy, ← hr]; intro h; simp only [Prod.mk.injEq] at h; exact hq ⟨h.1, h.2.1⟩)
          have heq : ∀ W, (Op.equalIn 10000 30 (.agg #[.int .i64 f, .int .i64 l]) (.agg #[.int .i64 a, .int .i64 b])).run Tryd.prog W = .ok false W := fun W => by
            rw [eq_span]
            by_cases h1 : f = a <;> by_cases h2 : l = b <;> simp [h1, h2]
            exact hq ⟨h1, h2⟩
          have hq1 : (f == a) = true → (l == b) = false := fun h => beq_eq_false_iff_ne.2 fun h' => hq ⟨by simpa using h, h'⟩
          clear hr hy hq
          go_wp2_with (first
            | ((with_reducible refine HA.out.mono ?_); rintro e w4 ⟨rfl, hb4⟩; have HI4 : Hid (Blk w4 w.heap.size (iv [a, b]) 30 ∧ Below w.heap.size w w4) := Lib.hid ⟨HI.out.1.below hb4 HI.out.1.lt, below_next HI.out.2 hb4⟩; have hlt4 : w.heap.size < w4.heap.size := HI4.out.1.lt; clear hb4)
            | (refine wpList_load_spanW (by rfl) (.tmp 1) rfl w.heap.size rfl a b (HI4.out.1.alloc _) ?_))
          go_roundg 1
          case rel => exact ⟨1, rfl, rfl, Lib.hid fun _ => HNE.out, Lib.hid fun h => by omega, Lib.hid ⟨HI4.out.1.alloc _, below_al HI4.out.2 _⟩⟩
          case measure => omega
      · have HNE : Hid (aro (Y1 + 5) ≠ (a, b, 0)) := Lib.hid (by rw [← hy, he]; unfold eRange; intro h; simp at h)
        have HA : Hid (Calls Tryd.prog 44 #[.int .i64 y] wr fun e w' => e = .returned (.tuple #[.agg #[.int .i64 0, .int .i64 0], .int .i64 5]) ∧ Below wr.heap.size wr w') := Lib.hid ((around_any y wr (HM.out.below HI.out.2)).mono fun e w' ⟨h1, h2⟩ => ⟨by rw [h1, he]; rfl, h2⟩)
        clear hy he
        go_wp2_with ((with_reducible refine HA.out.mono ?_); rintro e w4 ⟨rfl, hb4⟩; have HI4 : Hid (Blk w4 w.heap.size (iv [a, b]) 30 ∧ Below w.heap.size w w4) := Lib.hid ⟨HI.out.1.below hb4 HI.out.1.lt, below_next HI.out.2 hb4⟩; have hlt4 : w.heap.size < w4.heap.size := HI4.out.1.lt; clear hb4)
        go_roundg 1
        case rel => exact ⟨1, rfl, rfl, Lib.hid fun _ => HNE.out, Lib.hid fun h => by omega, Lib.hid ⟨HI4.out.1.alloc _, below_al HI4.out.2 _⟩⟩
        case measure => omega
    · obtain rfl : gk = 0 + 1 := by omega
      obtain ⟨y, hy⟩ : ∃ y, y = Y2 - 4 := ⟨_, rfl⟩
      have hidx : ∀ W, (Instr.index 97 (.agg #[.int .i64 (Y1 + 5), .int .i64 (Y2 - 4)]) (.int .i64 1)).run Tryd.prog W = .ok (.int .i64 y) W := fun W => two_index (Y1 + 5) (Y2 - 4) 1 (by omega) _ (by rw [hy]; rfl) W
      rcases aro_err y with he | he
      · obtain ⟨⟨f, l, e0⟩, hr⟩ : ∃ r, r = aro y := ⟨_, rfl⟩
        rw [← hr] at he
        obtain rfl : e0 = 0 := he
        have HA : Hid (Calls Tryd.prog 44 #[.int .i64 y] wr fun e w' => e = .returned (.tuple #[.agg #[.int .i64 f, .int .i64 l], .int .i64 0]) ∧ Below wr.heap.size wr w') := Lib.hid ((around_any y wr (HM.out.below HI.out.2)).mono fun e w' ⟨h1, h2⟩ => ⟨by rw [h1, ← hr]; rfl, h2⟩)
        by_cases hq : f = a ∧ l = b
        · obtain ⟨rfl, rfl⟩ := hq
          have HEQ : Hid (aro (Y2 - 4) = (f, l, 0)) := Lib.hid (by rw [← hy, ← hr])
          have HY : Hid (y = Y2 - 4) := Lib.hid hy
          clear hr hy
          go_wp2_with (first
            | ((with_reducible refine HA.out.mono ?_); rintro e w4 ⟨rfl, hb4⟩; have HI4 : Hid (Blk w4 w.heap.size (iv [f, l]) 30 ∧ Below w.heap.size w w4) := Lib.hid ⟨HI.out.1.below hb4 HI.out.1.lt, below_next HI.out.2 hb4⟩; have hlt4 : w.heap.size < w4.heap.size := HI4.out.1.lt; clear hb4)
            | (refine wpList_load_spanW (by rfl) (.tmp 1) rfl w.heap.size rfl f l (HI4.out.1.alloc _) ?_))
          go_ret2
          exact .inl ⟨y, by rw [HQ.out, HY.out]; have h0 := HN0.out (by omega); rw [HY1.out] at h0; have h := HEQ.out; rw [HY2.out] at h ⊢; exact midP_second h0 h, rfl, (below_al HI4.out.2 _)⟩
        · have HNE : Hid (aro (Y2 - 4) ≠ (a, b, 0)) := Lib.hid (by rw [← hy, ← hr]; intro h; simp only [Prod.mk.injEq] at h; exact hq ⟨h.1, h.2.1⟩)
          have heq : ∀ W, (Op.equalIn 10000 30 (.agg #[.int .i64 f, .int .i64 l]) (.agg #[.int .i64 a, .int .i64 b])).run Tryd.prog W = .ok false W := fun W => by
            rw [eq_span]
            by_cases h1 : f = a <;> by_cases h2 : l = b <;> simp [h1, h2]
            exact hq ⟨h1, h2⟩
          have hq1 : (f == a) = true → (l == b) = false := fun h => beq_eq_false_iff_ne.2 fun h' => hq ⟨by simpa using h, h'⟩
          clear hr hy hq
          go_wp2_with (first
            | ((with_reducible refine HA.out.mono ?_); rintro e w4 ⟨rfl, hb4⟩; have HI4 : Hid (Blk w4 w.heap.size (iv [a, b]) 30 ∧ Below w.heap.size w w4) := Lib.hid ⟨HI.out.1.below hb4 HI.out.1.lt, below_next HI.out.2 hb4⟩; have hlt4 : w.heap.size < w4.heap.size := HI4.out.1.lt; clear hb4)
            | (refine wpList_load_spanW (by rfl) (.tmp 1) rfl w.heap.size rfl a b (HI4.out.1.alloc _) ?_))
          go_roundg 0
          case rel => exact ⟨2, rfl, rfl, Lib.hid fun _ => HN0.out (by omega), Lib.hid fun _ => HNE.out, Lib.hid ⟨HI4.out.1.alloc _, below_al HI4.out.2 _⟩⟩
          case measure => omega
      · have HNE : Hid (aro (Y2 - 4) ≠ (a, b, 0)) := Lib.hid (by rw [← hy, he]; unfold eRange; intro h; simp at h)
        have HA : Hid (Calls Tryd.prog 44 #[.int .i64 y] wr fun e w' => e = .returned (.tuple #[.agg #[.int .i64 0, .int .i64 0], .int .i64 5]) ∧ Below wr.heap.size wr w') := Lib.hid ((around_any y wr (HM.out.below HI.out.2)).mono fun e w' ⟨h1, h2⟩ => ⟨by rw [h1, he]; rfl, h2⟩)
        clear hy he
        go_wp2_with ((with_reducible refine HA.out.mono ?_); rintro e w4 ⟨rfl, hb4⟩; have HI4 : Hid (Blk w4 w.heap.size (iv [a, b]) 30 ∧ Below w.heap.size w w4) := Lib.hid ⟨HI.out.1.below hb4 HI.out.1.lt, below_next HI.out.2 hb4⟩; have hlt4 : w.heap.size < w4.heap.size := HI4.out.1.lt; clear hb4)
        go_roundg 0
        case rel => exact ⟨2, rfl, rfl, Lib.hid fun _ => HN0.out (by omega), Lib.hid fun _ => HNE.out, Lib.hid ⟨HI4.out.1.alloc _, below_al HI4.out.2 _⟩⟩
        case measure => omega
    · obtain rfl : gk = 0 := by omega
      have HE : Hid (Q = none) := Lib.hid (by rw [HQ.out]; exact midP_none (by rw [← HY1.out]; exact HN0.out (by omega)) (by rw [← HY2.out]; exact HN1.out rfl))
      go_wp2_with fail
      go_ret2
      exact .inr ⟨HE.out, rfl, HI.out.2⟩
theorem middle_any (a b : Int) (a1 : 1 ≤ a) (a2 : a ≤ 1022679) (b1 : 1 ≤ b) (b2 : b ≤ 1022679) (w : World) (hM : MD w) : Calls Tryd.prog 51 #[.agg #[.int .i64 a, .int .i64 b]] w (MidPost w (midP a b)) :=
  middle_aux a b a1 a2 b1 b2 _ _ rfl rfl _ rfl w hM
end Go.Proofs.YtkaaejfochdjcaaDoor
