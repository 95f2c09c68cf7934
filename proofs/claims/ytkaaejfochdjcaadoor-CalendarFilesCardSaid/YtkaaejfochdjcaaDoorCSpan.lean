/-
  calendar.Before, Meet, First.
-/
import Derived.Test.YtkaaejfochdjcaaDoorCPer
import Derived.Deep.LoopGhost
namespace Go.Proofs.YtkaaejfochdjcaaDoor
open Go.RowKit
open Cal
set_option linter.unusedVariables false
set_option linter.unusedSimpArgs false

theorem vaB_yes {a b : Int} (h : vaB a b = true) : 1 ≤ a ∧ a ≤ b ∧ b ≤ 1022679 := of_decide_eq_true (p := okS a b) (by unfold vaB at h; exact h)
theorem vaB_no {a b : Int} (h : vaB a b = false) : ¬ (1 ≤ a ∧ a ≤ b ∧ b ≤ 1022679) := of_decide_eq_false (p := okS a b) (by unfold vaB at h; exact h)
theorem vaB_mk {a b : Int} (h : 1 ≤ a ∧ a ≤ b ∧ b ≤ 1022679) : vaB a b = true := by unfold vaB; exact decide_eq_true (p := okS a b) h
def befB (a b c d : Int) : Bool := vaB a b && vaB c d && decide (b < c)
def meetP (a b c d : Int) : Option (Int × Int) := if vaB a b && vaB c d && vaB (max a c) (min b d) then some (max a c, min b d) else none
def fgo : Int × Int → List (Int × Int) → Option (Int × Int)
  | acc, [] => some acc
  | acc, x :: t => if vaB x.1 x.2 then fgo (min acc.1 x.1, min acc.2 x.2) t else none
def firstP (l : List (Int × Int)) : Option (Int × Int) := if l = [] then none else fgo (1022679, 1022679) l
def retM : Option (Int × Int) → Ending
  | some (a, b) => .returned (.tuple #[.agg #[.int .i64 a, .int .i64 b], .bool true])
  | none => .returned (.tuple #[.agg #[.int .i64 0, .int .i64 0], .bool false])
theorem retM_some (a b : Int) : retM (some (a, b)) = .returned (.tuple #[.agg #[.int .i64 a, .int .i64 b], .bool true]) := rfl
theorem retM_none : retM none = .returned (.tuple #[.agg #[.int .i64 0, .int .i64 0], .bool false]) := rfl
theorem wpList_load_w2 {w : World} {ops : Array Oper} {rest : List Oper} {o : Oper} {a : Act} {Q : Exit → Act → World → Prop} (hw : Region.wanted o (yielded ops a.tmps) = true) (x : Operand) (ho : o.op = .load 30 x)
    (g : Nat) (hx : a.eval x = .pointer (some ⟨g, 0, none⟩)) (p q : Int) {T : TypeId} (hb : Blk w g (iv [p, q]) T)
    (h : wpList Tryd.prog ops Q rest (a.put o.dst (.agg #[.int .i64 p, .int .i64 q])) w) : wpList Tryd.prog ops Q (o :: rest) a w :=
  BigFrame.wpList_want hw fun _ hK => wp_load_mid 30 x ho g 0 hx (iv [p, q]) _ (fun j v hv => by rw [Nat.zero_add]; exact hb.cell hv) Tryd.underlying30 rfl Tryd.sizeSpan (hK _ _ h)
/-- The return of a struct that lies in a block, and of a bool. -/
theorem ret_m {fn : Func} {p q : Tmp} {R : Ending → World → Prop} {a : Act} {w : World} (hr : fn.results = #[.cell p 30, .tmp q]) (g : Nat) (hp : a.tmps.getD p undef = .pointer (some ⟨g, 0, none⟩)) (v : Value) (hq : a.tmps.getD q undef = v) {x z : Int} {T : TypeId} (hb : Blk w g (iv [x, z]) T)
    (hdf : a.defers = []) (hR : R (.returned (.tuple #[.agg #[.int .i64 x, .int .i64 z], v])) w) : bodyPost Tryd.prog fn R .ret a w :=
  ret_span hr g hp v hq hb _ Tryd.underlying30 rfl Tryd.sizeSpan hdf hR

set_option maxRecDepth 100000 in
set_option maxHeartbeats 1000000 in
theorem before_any (a b c d : Int) (w : World) : Calls Tryd.prog 23 #[.agg #[.int .i64 a, .int .i64 b], .agg #[.int .i64 c, .int .i64 d]] w fun e w' => e = .returned (.bool (befB a b c d)) ∧ Below w.heap.size w w' := by
  unfold befB
  cases hv : vaB a b
  · have HV : Hid (∀ W, Calls Tryd.prog 21 #[.agg #[.int .i64 (a), .int .i64 (b)]] W fun e w' => e = .returned (.bool false) ∧ Below W.heap.size W w') := Lib.hid fun W => valid_no _ _ hv W
    clear hv
    go_enter Tryd.func23, Tryd.ntmps23
    go_wp2_with ((with_reducible refine (HV.out _).mono ?_); rintro e w1 ⟨rfl, hb1⟩; have HX1 : Hid (Below w.heap.size w w1) := Lib.hid (below_next (below_al (below_a1 _ _) _) hb1); clear hb1)
    go_ret
    exact ⟨rfl, HX1.out⟩
  · have HV : Hid (∀ W, Calls Tryd.prog 21 #[.agg #[.int .i64 (a), .int .i64 (b)]] W fun e w' => e = .returned (.bool true) ∧ Below W.heap.size W w') := Lib.hid fun W => valid_yes _ _ hv W
    clear hv
    cases hu : vaB c d
    · have HU : Hid (∀ W, Calls Tryd.prog 21 #[.agg #[.int .i64 (c), .int .i64 (d)]] W fun e w' => e = .returned (.bool false) ∧ Below W.heap.size W w') := Lib.hid fun W => valid_no _ _ hu W
      clear hu
      go_enter Tryd.func23, Tryd.ntmps23
      go_wp2_with (first
        | ((with_reducible refine (HV.out _).mono ?_); rintro e w1 ⟨rfl, hb1⟩; have HB1 : Hid (Blk w1 w.heap.size (iv [a, b]) 30) := Lib.hid (((Blk.at w (iv [a, b]) _ 30 _ rfl rfl).alloc _).below hb1 (by simp; omega)); have HC1 : Hid (Blk w1 (w.heap.size + 1) (iv [c, d]) 30) := Lib.hid ((Blk.at _ (iv [c, d]) _ 30 _ rfl (by simp)).below hb1 (by simp)); have HX1 : Hid (Below w.heap.size w w1) := Lib.hid (below_next (below_al (below_a1 _ _) _) hb1); clear hb1)
        | (refine wpList_load_w2 (by rfl) (.tmp 3) rfl (w.heap.size + 1) rfl c d HC1.out ?_)
        | ((with_reducible refine (HU.out _).mono ?_); rintro e w2 ⟨rfl, hb2⟩; have HX2 : Hid (Below w.heap.size w w2) := Lib.hid (below_next HX1.out hb2); clear hb2))
      go_ret
      exact ⟨rfl, HX2.out⟩
    · have HU : Hid (∀ W, Calls Tryd.prog 21 #[.agg #[.int .i64 (c), .int .i64 (d)]] W fun e w' => e = .returned (.bool true) ∧ Below W.heap.size W w') := Lib.hid fun W => valid_yes _ _ hu W
      clear hu
      go_enter Tryd.func23, Tryd.ntmps23
      go_wp2_with (first
        | ((with_reducible refine (HV.out _).mono ?_); rintro e w1 ⟨rfl, hb1⟩; have HB1 : Hid (Blk w1 w.heap.size (iv [a, b]) 30) := Lib.hid (((Blk.at w (iv [a, b]) _ 30 _ rfl rfl).alloc _).below hb1 (by simp; omega)); have HC1 : Hid (Blk w1 (w.heap.size + 1) (iv [c, d]) 30) := Lib.hid ((Blk.at _ (iv [c, d]) _ 30 _ rfl (by simp)).below hb1 (by simp)); have HX1 : Hid (Below w.heap.size w w1) := Lib.hid (below_next (below_al (below_a1 _ _) _) hb1); clear hb1)
        | (refine wpList_load_w2 (by rfl) (.tmp 3) rfl (w.heap.size + 1) rfl c d HC1.out ?_)
        | ((with_reducible refine (HU.out _).mono ?_); rintro e w2 ⟨rfl, hb2⟩; have hcb : w2.cell? ⟨w.heap.size, 1, none⟩ = some (.int .i64 b) := (HB1.out.below hb2 HB1.out.lt).cell rfl; have hcc : w2.cell? ⟨w.heap.size + 1, 0, none⟩ = some (.int .i64 c) := (HC1.out.below hb2 HC1.out.lt).cell rfl; have HX2 : Hid (Below w.heap.size w w2) := Lib.hid (below_next HX1.out hb2); clear hb2))
      go_ret
      exact ⟨rfl, HX2.out⟩

theorem meet_no {a b c d : Int} (h : (vaB a b && vaB c d && vaB (max a c) (min b d)) = false) : meetP a b c d = none := by unfold meetP; rw [if_neg (by rw [h]; decide)]
set_option maxRecDepth 100000 in
set_option maxHeartbeats 1000000 in
theorem meet_any (a b c d : Int) (w : World) : Calls Tryd.prog 17 #[.agg #[.int .i64 a, .int .i64 b], .agg #[.int .i64 c, .int .i64 d]] w fun e w' => e = retM (meetP a b c d) ∧ Below w.heap.size w w' := by
  cases hv : vaB a b
  · rw [meet_no (by rw [hv]; rfl), retM_none]
    have HV : Hid (∀ W, Calls Tryd.prog 21 #[.agg #[.int .i64 (a), .int .i64 (b)]] W fun e w' => e = .returned (.bool false) ∧ Below W.heap.size W w') := Lib.hid fun W => valid_no _ _ hv W
    clear hv
    go_enter Tryd.func17, Tryd.ntmps17
    go_wp2_with (first
      | ((with_reducible refine (HV.out _).mono ?_); rintro e w1 ⟨rfl, hb1⟩; have HB1 : Hid (Blk w1 (w.heap.size + 1) (iv [c, d]) 30 ∧ Blk w1 (w.heap.size + 1 + 1) (iv [0, 0]) 30 ∧ Blk w1 (w.heap.size + 1 + 1 + 1) (iv [max a c, min b d]) 30) := Lib.hid ⟨(((Blk.at _ (iv [c, d]) _ 30 _ rfl (by first | (simp; done) | (simp; omega))).alloc _).alloc _).below hb1 (by first | (simp; done) | (simp; omega)), ((Blk.at _ (iv [0, 0]) _ 30 _ rfl (by first | (simp; done) | (simp; omega))).alloc _).below hb1 (by first | (simp; done) | (simp; omega)), (Blk.at _ (iv [max a c, min b d]) _ 30 _ rfl (by first | (simp; done) | (simp; omega))).below hb1 (by first | (simp; done) | (simp; omega))⟩; have HX1 : Hid (Below w.heap.size w w1) := Lib.hid (below_next (below_al (below_al (below_al (below_a1 _ _) _) _) _) hb1); clear hb1)
      | (refine wpList_store_blk rfl 30 (.tmp 4) (.tmp 31) rfl (w.heap.size + 1 + 1) 0 rfl (iv [0, 0]) rfl HB1.out.2.1 2 Tryd.sizeSpan rfl (by simp [iv]) (iv_one _) ?_; intro w9 hst9; have HX9 : Hid (Blk w9 (w.heap.size + 1 + 1) (iv [0, 0]) 30 ∧ Below w.heap.size w w9) := Lib.hid ⟨hst9.1, hst9.below HX1.out (by omega)⟩; clear hst9))
    exact ret_m rfl (w.heap.size + 1 + 1) rfl _ rfl HX9.out.1 rfl ⟨rfl, HX9.out.2⟩
  · have HV : Hid (∀ W, Calls Tryd.prog 21 #[.agg #[.int .i64 (a), .int .i64 (b)]] W fun e w' => e = .returned (.bool true) ∧ Below W.heap.size W w') := Lib.hid fun W => valid_yes _ _ hv W
    cases hu : vaB c d
    · rw [meet_no (by rw [hv, hu]; rfl), retM_none]
      have HU : Hid (∀ W, Calls Tryd.prog 21 #[.agg #[.int .i64 (c), .int .i64 (d)]] W fun e w' => e = .returned (.bool false) ∧ Below W.heap.size W w') := Lib.hid fun W => valid_no _ _ hu W
      clear hv hu
      go_enter Tryd.func17, Tryd.ntmps17
      go_wp2_with (first
        | ((with_reducible refine (HV.out _).mono ?_); rintro e w1 ⟨rfl, hb1⟩; have HB1 : Hid (Blk w1 (w.heap.size + 1) (iv [c, d]) 30 ∧ Blk w1 (w.heap.size + 1 + 1) (iv [0, 0]) 30 ∧ Blk w1 (w.heap.size + 1 + 1 + 1) (iv [max a c, min b d]) 30) := Lib.hid ⟨(((Blk.at _ (iv [c, d]) _ 30 _ rfl (by first | (simp; done) | (simp; omega))).alloc _).alloc _).below hb1 (by first | (simp; done) | (simp; omega)), ((Blk.at _ (iv [0, 0]) _ 30 _ rfl (by first | (simp; done) | (simp; omega))).alloc _).below hb1 (by first | (simp; done) | (simp; omega)), (Blk.at _ (iv [max a c, min b d]) _ 30 _ rfl (by first | (simp; done) | (simp; omega))).below hb1 (by first | (simp; done) | (simp; omega))⟩; have HX1 : Hid (Below w.heap.size w w1) := Lib.hid (below_next (below_al (below_al (below_al (below_a1 _ _) _) _) _) hb1); clear hb1)
        | (refine wpList_load_w2 (by rfl) (.tmp 3) rfl (w.heap.size + 1) rfl c d HB1.out.1 ?_)
        | ((with_reducible refine (HU.out _).mono ?_); rintro e w2 ⟨rfl, hb2⟩; have HB2 : Hid (Blk w2 (w.heap.size + 1) (iv [c, d]) 30 ∧ Blk w2 (w.heap.size + 1 + 1) (iv [0, 0]) 30 ∧ Blk w2 (w.heap.size + 1 + 1 + 1) (iv [max a c, min b d]) 30) := Lib.hid ⟨HB1.out.1.below hb2 HB1.out.1.lt, HB1.out.2.1.below hb2 HB1.out.2.1.lt, HB1.out.2.2.below hb2 HB1.out.2.2.lt⟩; have HX2 : Hid (Below w.heap.size w w2) := Lib.hid (below_next HX1.out hb2); clear hb2)
        | (refine wpList_store_blk rfl 30 (.tmp 4) (.tmp 31) rfl (w.heap.size + 1 + 1) 0 rfl (iv [0, 0]) rfl HB2.out.2.1 2 Tryd.sizeSpan rfl (by simp [iv]) (iv_one _) ?_; intro w9 hst9; have HX9 : Hid (Blk w9 (w.heap.size + 1 + 1) (iv [0, 0]) 30 ∧ Below w.heap.size w w9) := Lib.hid ⟨hst9.1, hst9.below HX2.out (by omega)⟩; clear hst9))
      exact ret_m rfl (w.heap.size + 1 + 1) rfl _ rfl HX9.out.1 rfl ⟨rfl, HX9.out.2⟩
    · have HU : Hid (∀ W, Calls Tryd.prog 21 #[.agg #[.int .i64 (c), .int .i64 (d)]] W fun e w' => e = .returned (.bool true) ∧ Below W.heap.size W w') := Lib.hid fun W => valid_yes _ _ hu W
      cases ht : vaB (max a c) (min b d)
      · rw [meet_no (by rw [hv, hu, ht]; rfl), retM_none]
        have HT : Hid (∀ W, Calls Tryd.prog 21 #[.agg #[.int .i64 (max a c), .int .i64 (min b d)]] W fun e w' => e = .returned (.bool false) ∧ Below W.heap.size W w') := Lib.hid fun W => valid_no _ _ ht W
        clear hv hu ht
        go_enter Tryd.func17, Tryd.ntmps17
        go_wp2_with (first
          | ((with_reducible refine (HV.out _).mono ?_); rintro e w1 ⟨rfl, hb1⟩; have HB1 : Hid (Blk w1 (w.heap.size + 1) (iv [c, d]) 30 ∧ Blk w1 (w.heap.size + 1 + 1) (iv [0, 0]) 30 ∧ Blk w1 (w.heap.size + 1 + 1 + 1) (iv [max a c, min b d]) 30) := Lib.hid ⟨(((Blk.at _ (iv [c, d]) _ 30 _ rfl (by first | (simp; done) | (simp; omega))).alloc _).alloc _).below hb1 (by first | (simp; done) | (simp; omega)), ((Blk.at _ (iv [0, 0]) _ 30 _ rfl (by first | (simp; done) | (simp; omega))).alloc _).below hb1 (by first | (simp; done) | (simp; omega)), (Blk.at _ (iv [max a c, min b d]) _ 30 _ rfl (by first | (simp; done) | (simp; omega))).below hb1 (by first | (simp; done) | (simp; omega))⟩; have HX1 : Hid (Below w.heap.size w w1) := Lib.hid (below_next (below_al (below_al (below_al (below_a1 _ _) _) _) _) hb1); clear hb1)
          | (refine wpList_load_w2 (by rfl) (.tmp 3) rfl (w.heap.size + 1) rfl c d HB1.out.1 ?_)
          | ((with_reducible refine (HU.out _).mono ?_); rintro e w2 ⟨rfl, hb2⟩; have HB2 : Hid (Blk w2 (w.heap.size + 1) (iv [c, d]) 30 ∧ Blk w2 (w.heap.size + 1 + 1) (iv [0, 0]) 30 ∧ Blk w2 (w.heap.size + 1 + 1 + 1) (iv [max a c, min b d]) 30) := Lib.hid ⟨HB1.out.1.below hb2 HB1.out.1.lt, HB1.out.2.1.below hb2 HB1.out.2.1.lt, HB1.out.2.2.below hb2 HB1.out.2.2.lt⟩; have HX2 : Hid (Below w.heap.size w w2) := Lib.hid (below_next HX1.out hb2); clear hb2)
          | (refine wpList_load_w2 (by rfl) (.tmp 6) rfl (w.heap.size + 1 + 1 + 1) rfl (max a c) (min b d) HB2.out.2.2 ?_)
          | ((with_reducible refine (HT.out _).mono ?_); rintro e w3 ⟨rfl, hb3⟩; have HB3 : Hid (Blk w3 (w.heap.size + 1) (iv [c, d]) 30 ∧ Blk w3 (w.heap.size + 1 + 1) (iv [0, 0]) 30 ∧ Blk w3 (w.heap.size + 1 + 1 + 1) (iv [max a c, min b d]) 30) := Lib.hid ⟨HB2.out.1.below hb3 HB2.out.1.lt, HB2.out.2.1.below hb3 HB2.out.2.1.lt, HB2.out.2.2.below hb3 HB2.out.2.2.lt⟩; have HX3 : Hid (Below w.heap.size w w3) := Lib.hid (below_next HX2.out hb3); clear hb3)
          | (refine wpList_store_blk rfl 30 (.tmp 4) (.tmp 31) rfl (w.heap.size + 1 + 1) 0 rfl (iv [0, 0]) rfl HB3.out.2.1 2 Tryd.sizeSpan rfl (by simp [iv]) (iv_one _) ?_; intro w9 hst9; have HX9 : Hid (Blk w9 (w.heap.size + 1 + 1) (iv [0, 0]) 30 ∧ Below w.heap.size w w9) := Lib.hid ⟨hst9.1, hst9.below HX3.out (by omega)⟩; clear hst9))
        exact ret_m rfl (w.heap.size + 1 + 1) rfl _ rfl HX9.out.1 rfl ⟨rfl, HX9.out.2⟩
      · have he : meetP a b c d = some (max a c, min b d) := by unfold meetP; rw [if_pos (by rw [hv, hu, ht]; rfl)]
        rw [he, retM_some]
        have HT : Hid (∀ W, Calls Tryd.prog 21 #[.agg #[.int .i64 (max a c), .int .i64 (min b d)]] W fun e w' => e = .returned (.bool true) ∧ Below W.heap.size W w') := Lib.hid fun W => valid_yes _ _ ht W
        clear hv hu ht he
        go_enter Tryd.func17, Tryd.ntmps17
        go_wp2_with (first
          | ((with_reducible refine (HV.out _).mono ?_); rintro e w1 ⟨rfl, hb1⟩; have HB1 : Hid (Blk w1 (w.heap.size + 1) (iv [c, d]) 30 ∧ Blk w1 (w.heap.size + 1 + 1) (iv [0, 0]) 30 ∧ Blk w1 (w.heap.size + 1 + 1 + 1) (iv [max a c, min b d]) 30) := Lib.hid ⟨(((Blk.at _ (iv [c, d]) _ 30 _ rfl (by first | (simp; done) | (simp; omega))).alloc _).alloc _).below hb1 (by first | (simp; done) | (simp; omega)), ((Blk.at _ (iv [0, 0]) _ 30 _ rfl (by first | (simp; done) | (simp; omega))).alloc _).below hb1 (by first | (simp; done) | (simp; omega)), (Blk.at _ (iv [max a c, min b d]) _ 30 _ rfl (by first | (simp; done) | (simp; omega))).below hb1 (by first | (simp; done) | (simp; omega))⟩; have HX1 : Hid (Below w.heap.size w w1) := Lib.hid (below_next (below_al (below_al (below_al (below_a1 _ _) _) _) _) hb1); clear hb1)
          | (refine wpList_load_w2 (by rfl) (.tmp 3) rfl (w.heap.size + 1) rfl c d HB1.out.1 ?_)
          | ((with_reducible refine (HU.out _).mono ?_); rintro e w2 ⟨rfl, hb2⟩; have HB2 : Hid (Blk w2 (w.heap.size + 1) (iv [c, d]) 30 ∧ Blk w2 (w.heap.size + 1 + 1) (iv [0, 0]) 30 ∧ Blk w2 (w.heap.size + 1 + 1 + 1) (iv [max a c, min b d]) 30) := Lib.hid ⟨HB1.out.1.below hb2 HB1.out.1.lt, HB1.out.2.1.below hb2 HB1.out.2.1.lt, HB1.out.2.2.below hb2 HB1.out.2.2.lt⟩; have HX2 : Hid (Below w.heap.size w w2) := Lib.hid (below_next HX1.out hb2); clear hb2)
          | (refine wpList_load_w2 (by rfl) (.tmp 6) rfl (w.heap.size + 1 + 1 + 1) rfl (max a c) (min b d) HB2.out.2.2 ?_)
          | ((with_reducible refine (HT.out _).mono ?_); rintro e w3 ⟨rfl, hb3⟩; have HB3 : Hid (Blk w3 (w.heap.size + 1) (iv [c, d]) 30 ∧ Blk w3 (w.heap.size + 1 + 1) (iv [0, 0]) 30 ∧ Blk w3 (w.heap.size + 1 + 1 + 1) (iv [max a c, min b d]) 30) := Lib.hid ⟨HB2.out.1.below hb3 HB2.out.1.lt, HB2.out.2.1.below hb3 HB2.out.2.1.lt, HB2.out.2.2.below hb3 HB2.out.2.2.lt⟩; have HX3 : Hid (Below w.heap.size w w3) := Lib.hid (below_next HX2.out hb3); clear hb3)
          | (refine wpList_load_w2 (by rfl) (.tmp 6) rfl (w.heap.size + 1 + 1 + 1) rfl (max a c) (min b d) HB3.out.2.2 ?_)
          | (refine wpList_store_blk rfl 30 (.tmp 4) (.tmp 32) rfl (w.heap.size + 1 + 1) 0 rfl (iv [max a c, min b d]) rfl HB3.out.2.1 2 Tryd.sizeSpan rfl (by simp [iv]) (iv_one _) ?_; intro w9 hst9; have HX9 : Hid (Blk w9 (w.heap.size + 1 + 1) (iv [max a c, min b d]) 30 ∧ Below w.heap.size w w9) := Lib.hid ⟨hst9.1, hst9.below HX3.out (by omega)⟩; clear hst9))
        exact ret_m rfl (w.heap.size + 1 + 1) rfl _ rfl HX9.out.1 rfl ⟨rfl, HX9.out.2⟩
theorem fgo_nil (acc : Int × Int) : fgo acc [] = some acc := rfl
theorem fgo_no (acc : Int × Int) (x : Int × Int) (t : List (Int × Int)) (h : vaB x.1 x.2 = false) : fgo acc (x :: t) = none := by rw [fgo, if_neg (by rw [h]; decide)]
theorem fgo_yes (acc : Int × Int) (x : Int × Int) (t : List (Int × Int)) (h : vaB x.1 x.2 = true) : fgo acc (x :: t) = fgo (min acc.1 x.1, min acc.2 x.2) t := by rw [fgo, if_pos h]
attribute [irreducible] fgo
end Go.Proofs.YtkaaejfochdjcaaDoor
