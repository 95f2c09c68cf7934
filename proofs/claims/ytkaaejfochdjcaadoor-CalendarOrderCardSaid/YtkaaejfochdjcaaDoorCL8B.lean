/-
  CalendarOrder: for every list of numbers and every day the law returns true, and leaves what was there as it was; the tables are as the program's text lays them (the card ties them).
-/
import Derived.Test.YtkaaejfochdjcaaDoorCL8A
import Derived.Deep.QuietTactic
import Derived.BigQuiet
namespace Go.Proofs.YtkaaejfochdjcaaDoor
open Go.ChangeShapes Go.WideShapes Go.ChangeAt Go.RowKit Go.ChangeMaps
open Cal
set_option linter.unusedVariables false
set_option linter.unusedSimpArgs false
namespace CL8B
open CL8A
set_option maxRecDepth 100000 in
set_option maxHeartbeats 8000000 in
theorem walk_1b (p q r s t u day e0 x0 x1 x2 x3 x4 x5 : Int) (A : Option Addr) (n cc : Nat) (w : World) (a1 : 1 ≤ p) (a2 : p ≤ q) (a3 : q ≤ 1022679) (b1 : 1 ≤ r) (b2 : r ≤ s) (b3 : s ≤ 1022679) (c1 : 1 ≤ t) (c2 : t ≤ u) (c3 : u ≤ 1022679) (e1 : 0 ≤ e0) (e2 : e0 < q - p + 1) (h1 : q < r) (h2 : ¬ s < t)
    (HL : Hid (∀ W, Below w.heap.size w W → Calls Tryd.prog 16 #[] W fun e w' => e = .returned (.bool true) ∧ Below W.heap.size W w'))
    (HA0 : Hid (∀ W, Below w.heap.size w W → Calls Tryd.prog 32 #[.slice A n cc, .int .i64 0, .int .i64 1022679] W fun e w' => e = .returned (.int .i64 x0) ∧ W = w'))
    (HA1 : Hid (∀ W, Below w.heap.size w W → Calls Tryd.prog 32 #[.slice A n cc, .int .i64 1, .int .i64 1048576] W fun e w' => e = .returned (.int .i64 x1) ∧ W = w'))
    (HA2 : Hid (∀ W, Below w.heap.size w W → Calls Tryd.prog 32 #[.slice A n cc, .int .i64 2, .int .i64 1022679] W fun e w' => e = .returned (.int .i64 x2) ∧ W = w'))
    (HA3 : Hid (∀ W, Below w.heap.size w W → Calls Tryd.prog 32 #[.slice A n cc, .int .i64 3, .int .i64 1048576] W fun e w' => e = .returned (.int .i64 x3) ∧ W = w'))
    (HA4 : Hid (∀ W, Below w.heap.size w W → Calls Tryd.prog 32 #[.slice A n cc, .int .i64 4, .int .i64 1022679] W fun e w' => e = .returned (.int .i64 x4) ∧ W = w'))
    (HA5 : Hid (∀ W, Below w.heap.size w W → Calls Tryd.prog 32 #[.slice A n cc, .int .i64 5, .int .i64 1048576] W fun e w' => e = .returned (.int .i64 x5) ∧ W = w'))
    (HMD0 : Hid (∀ W, Below w.heap.size w W → Calls Tryd.prog 27 #[.int .i64 x0, .int .i64 x1] W fun e w' => e = .returned (.agg #[.int .i64 p, .int .i64 q]) ∧ Below W.heap.size W w'))
    (HMD1 : Hid (∀ W, Below w.heap.size w W → Calls Tryd.prog 27 #[.int .i64 x2, .int .i64 x3] W fun e w' => e = .returned (.agg #[.int .i64 r, .int .i64 s]) ∧ Below W.heap.size W w'))
    (HMD2 : Hid (∀ W, Below w.heap.size w W → Calls Tryd.prog 27 #[.int .i64 x4, .int .i64 x5] W fun e w' => e = .returned (.agg #[.int .i64 t, .int .i64 u]) ∧ Below W.heap.size W w'))
    (HAR : Hid (∀ W, Calls Tryd.prog 30 #[.int .i64 day, .int .i64 (q - p + 1)] W fun e w' => e = .returned (.int .i64 e0) ∧ W = w')) :
    Calls Tryd.prog 10 #[.slice A n cc, .int .i64 day] w fun e w' => e = .returned (.bool true) ∧ Below w.heap.size w w' := by
  have HM1 : Hid (∀ W, Below w.heap.size w W → Calls Tryd.prog 17 #[.agg #[.int .i64 p, .int .i64 q], .agg #[.int .i64 r, .int .i64 s]] W fun e w' => e = .returned (.tuple #[.agg #[.int .i64 0, .int .i64 0], .bool false]) ∧ Below W.heap.size W w') := Lib.hid fun W _ => by have := meet_any p q r s W; rw [meet_none (by omega) (by omega) (by omega)] at this; exact this
  have HM2 : Hid (∀ W, Below w.heap.size w W → Calls Tryd.prog 17 #[.agg #[.int .i64 r, .int .i64 s], .agg #[.int .i64 p, .int .i64 q]] W fun e w' => e = .returned (.tuple #[.agg #[.int .i64 0, .int .i64 0], .bool false]) ∧ Below W.heap.size W w') := Lib.hid fun W _ => by have := meet_any r s p q W; rw [meet_none (by omega) (by omega) (by omega)] at this; exact this
  have HEab : Hid (∀ W, Below w.heap.size w W → Calls Tryd.prog 23 #[.agg #[.int .i64 p, .int .i64 q], .agg #[.int .i64 r, .int .i64 s]] W fun e w' => e = .returned (.bool true) ∧ Below W.heap.size W w') := Lib.hid fun W _ => by have := before_any p q r s W; rw [bef_yes (by omega) (by omega) (by omega)] at this; exact this
  have HEba : Hid (∀ W, Below w.heap.size w W → Calls Tryd.prog 23 #[.agg #[.int .i64 r, .int .i64 s], .agg #[.int .i64 p, .int .i64 q]] W fun e w' => e = .returned (.bool false) ∧ Below W.heap.size W w') := Lib.hid fun W _ => by have := before_any r s p q W; rw [bef_no (by omega) (by omega) (by omega)] at this; exact this
  have HEaa : Hid (∀ W, Below w.heap.size w W → Calls Tryd.prog 23 #[.agg #[.int .i64 p, .int .i64 q], .agg #[.int .i64 p, .int .i64 q]] W fun e w' => e = .returned (.bool false) ∧ Below W.heap.size W w') := Lib.hid fun W _ => by have := before_any p q p q W; rw [bef_no (by omega) (by omega) (by omega)] at this; exact this
  have HEbc : Hid (∀ W, Below w.heap.size w W → Calls Tryd.prog 23 #[.agg #[.int .i64 r, .int .i64 s], .agg #[.int .i64 t, .int .i64 u]] W fun e w' => e = .returned (.bool false) ∧ Below W.heap.size W w') := Lib.hid fun W _ => by have := before_any r s t u W; rw [bef_no (by omega) (by omega) (by omega)] at this; exact this
  have hq1 : ∀ W, (Op.equalIn 10000 30 (.agg #[.int .i64 (0), .int .i64 (0)]) (.agg #[.int .i64 (0), .int .i64 (0)])).run Tryd.prog W = .ok true W := fun W => by rw [eq_span]; simp
  go_enter Tryd.func10, Tryd.ntmps10
  go_wp2_with (first
    | ((with_reducible refine (HA0.out _ (Below.refl _ _)).mono ?_); rintro e w0 ⟨rfl, rfl⟩)
    | ((with_reducible refine (HA1.out _ (Below.refl _ _)).mono ?_); rintro e w0 ⟨rfl, rfl⟩)
    | ((with_reducible refine (HMD0.out _ (Below.refl _ _)).mono ?_); rintro e w1 ⟨rfl, hb1⟩; have HX1 : Hid (Below w.heap.size w w1) := Lib.hid (below_next (Below.refl _ _) hb1); clear hb1)
    | ((with_reducible refine (HA2.out _ (below_al HX1.out _)).mono ?_); rintro e w0 ⟨rfl, rfl⟩)
    | ((with_reducible refine (HA3.out _ (below_al HX1.out _)).mono ?_); rintro e w0 ⟨rfl, rfl⟩)
    | ((with_reducible refine (HMD1.out _ (below_al HX1.out _)).mono ?_); rintro e w2 ⟨rfl, hb2⟩; have HX2 : Hid (Blk w2 (w1.heap.size) (iv [p, q]) 30 ∧ Below w.heap.size w w2) := Lib.hid ⟨(Blk.at _ (iv [p, q]) _ 30 _ rfl (by first | rfl | simp)).below hb2 (by first | (simp; done) | (simp; omega)), below_next (below_al HX1.out _) hb2⟩; clear hb2)
    | ((with_reducible refine (HA4.out _ (below_al HX2.out.2 _)).mono ?_); rintro e w0 ⟨rfl, rfl⟩)
    | ((with_reducible refine (HA5.out _ (below_al HX2.out.2 _)).mono ?_); rintro e w0 ⟨rfl, rfl⟩)
    | ((with_reducible refine (HMD2.out _ (below_al HX2.out.2 _)).mono ?_); rintro e w3 ⟨rfl, hb3⟩; have HX3 : Hid (Blk w3 (w1.heap.size) (iv [p, q]) 30 ∧ Blk w3 (w2.heap.size) (iv [r, s]) 30 ∧ Below w.heap.size w w3) := Lib.hid ⟨(HX2.out.1.alloc _).below hb3 (by simp; have := HX2.out.1.lt; omega), (Blk.at _ (iv [r, s]) _ 30 _ rfl (by first | rfl | simp)).below hb3 (by first | (simp; done) | (simp; omega)), below_next (below_al HX2.out.2 _) hb3⟩; clear hb3)
    | (refine wpList_load_w2 (by rfl) (.tmp 5) rfl (w1.heap.size) rfl (p) (q) (HX3.out.1.alloc _) ?_)
    | (refine wpList_load_w2 (by rfl) (.tmp 6) rfl (w2.heap.size) rfl (r) (s) (HX3.out.2.1.alloc _) ?_)
    | ((with_reducible refine (HM1.out _ (below_al HX3.out.2.2 _)).mono ?_); rintro e w4 ⟨rfl, hb4⟩; have HX4 : Hid (Blk w4 (w1.heap.size) (iv [p, q]) 30 ∧ Blk w4 (w2.heap.size) (iv [r, s]) 30 ∧ Blk w4 (w3.heap.size) (iv [t, u]) 30 ∧ Below w.heap.size w w4) := Lib.hid ⟨(HX3.out.1.alloc _).below hb4 (by simp; have := HX3.out.1.lt; omega), (HX3.out.2.1.alloc _).below hb4 (by simp; have := HX3.out.2.1.lt; omega), (Blk.at _ (iv [t, u]) _ 30 _ rfl (by first | rfl | simp)).below hb4 (by first | (simp; done) | (simp; omega)), below_next (below_al HX3.out.2.2 _) hb4⟩; clear hb4)
    | (refine wpList_load_w2 (by rfl) (.tmp 6) rfl (w2.heap.size) rfl (r) (s) (HX4.out.2.1.alloc _) ?_)
    | (refine wpList_load_w2 (by rfl) (.tmp 5) rfl (w1.heap.size) rfl (p) (q) (HX4.out.1.alloc _) ?_)
    | ((with_reducible refine (HM2.out _ (below_al HX4.out.2.2.2 _)).mono ?_); rintro e w5 ⟨rfl, hb5⟩; have HX5 : Hid (Blk w5 (w1.heap.size) (iv [p, q]) 30 ∧ Blk w5 (w2.heap.size) (iv [r, s]) 30 ∧ Blk w5 (w3.heap.size) (iv [t, u]) 30 ∧ Blk w5 (w4.heap.size) (iv [0, 0]) 30 ∧ Below w.heap.size w w5) := Lib.hid ⟨(HX4.out.1.alloc _).below hb5 (by simp; have := HX4.out.1.lt; omega), (HX4.out.2.1.alloc _).below hb5 (by simp; have := HX4.out.2.1.lt; omega), (HX4.out.2.2.1.alloc _).below hb5 (by simp; have := HX4.out.2.2.1.lt; omega), (Blk.at _ (iv [0, 0]) _ 30 _ rfl (by first | rfl | simp)).below hb5 (by first | (simp; done) | (simp; omega)), below_next (below_al HX4.out.2.2.2 _) hb5⟩; clear hb5)
    | (refine wpList_load_w2 (by rfl) (.tmp 5) rfl (w1.heap.size) rfl (p) (q) (HX5.out.1.alloc _) ?_)
    | (refine wpList_load_w2 (by rfl) (.tmp 6) rfl (w2.heap.size) rfl (r) (s) (HX5.out.2.1.alloc _) ?_)
    | ((with_reducible refine (HEab.out _ (below_al HX5.out.2.2.2.2 _)).mono ?_); rintro e w6 ⟨rfl, hb6⟩; have HX6 : Hid (Blk w6 (w1.heap.size) (iv [p, q]) 30 ∧ Blk w6 (w2.heap.size) (iv [r, s]) 30 ∧ Blk w6 (w3.heap.size) (iv [t, u]) 30 ∧ Blk w6 (w4.heap.size) (iv [0, 0]) 30 ∧ Blk w6 (w5.heap.size) (iv [0, 0]) 30 ∧ Below w.heap.size w w6) := Lib.hid ⟨(HX5.out.1.alloc _).below hb6 (by simp; have := HX5.out.1.lt; omega), (HX5.out.2.1.alloc _).below hb6 (by simp; have := HX5.out.2.1.lt; omega), (HX5.out.2.2.1.alloc _).below hb6 (by simp; have := HX5.out.2.2.1.lt; omega), (HX5.out.2.2.2.1.alloc _).below hb6 (by simp; have := HX5.out.2.2.2.1.lt; omega), (Blk.at _ (iv [0, 0]) _ 30 _ rfl (by first | rfl | simp)).below hb6 (by first | (simp; done) | (simp; omega)), below_next (below_al HX5.out.2.2.2.2 _) hb6⟩; clear hb6)
    | (refine wpList_load_w2 (by rfl) (.tmp 6) rfl (w2.heap.size) rfl (r) (s) HX6.out.2.1 ?_)
    | (refine wpList_load_w2 (by rfl) (.tmp 5) rfl (w1.heap.size) rfl (p) (q) HX6.out.1 ?_)
    | ((with_reducible refine (HEba.out _ HX6.out.2.2.2.2.2).mono ?_); rintro e w7 ⟨rfl, hb7⟩; have HX7 : Hid (Blk w7 (w1.heap.size) (iv [p, q]) 30 ∧ Blk w7 (w2.heap.size) (iv [r, s]) 30 ∧ Blk w7 (w3.heap.size) (iv [t, u]) 30 ∧ Blk w7 (w4.heap.size) (iv [0, 0]) 30 ∧ Blk w7 (w5.heap.size) (iv [0, 0]) 30 ∧ Below w.heap.size w w7) := Lib.hid ⟨HX6.out.1.below hb7 HX6.out.1.lt, HX6.out.2.1.below hb7 HX6.out.2.1.lt, HX6.out.2.2.1.below hb7 HX6.out.2.2.1.lt, HX6.out.2.2.2.1.below hb7 HX6.out.2.2.2.1.lt, HX6.out.2.2.2.2.1.below hb7 HX6.out.2.2.2.2.1.lt, below_next HX6.out.2.2.2.2.2 hb7⟩; clear hb7)
    | (refine wpList_load_w2 (by rfl) (.tmp 8) rfl (w4.heap.size) rfl (0) (0) HX7.out.2.2.2.1 ?_)
    | (refine wpList_load_w2 (by rfl) (.tmp 10) rfl (w5.heap.size) rfl (0) (0) HX7.out.2.2.2.2.1 ?_)
    | (refine wpList_load_w2 (by rfl) (.tmp 5) rfl (w1.heap.size) rfl (p) (q) HX7.out.1 ?_)
    | ((with_reducible refine (HEaa.out _ HX7.out.2.2.2.2.2).mono ?_); rintro e w8 ⟨rfl, hb8⟩; have HX8 : Hid (Blk w8 (w1.heap.size) (iv [p, q]) 30 ∧ Blk w8 (w2.heap.size) (iv [r, s]) 30 ∧ Blk w8 (w3.heap.size) (iv [t, u]) 30 ∧ Blk w8 (w4.heap.size) (iv [0, 0]) 30 ∧ Blk w8 (w5.heap.size) (iv [0, 0]) 30 ∧ Below w.heap.size w w8) := Lib.hid ⟨HX7.out.1.below hb8 HX7.out.1.lt, HX7.out.2.1.below hb8 HX7.out.2.1.lt, HX7.out.2.2.1.below hb8 HX7.out.2.2.1.lt, HX7.out.2.2.2.1.below hb8 HX7.out.2.2.2.1.lt, HX7.out.2.2.2.2.1.below hb8 HX7.out.2.2.2.2.1.lt, below_next HX7.out.2.2.2.2.2 hb8⟩; clear hb8)
    | (refine wpList_load_w2 (by rfl) (.tmp 5) rfl (w1.heap.size) rfl (p) (q) HX8.out.1 ?_)
    | (refine wpList_load_w2 (by rfl) (.tmp 6) rfl (w2.heap.size) rfl (r) (s) HX8.out.2.1 ?_)
    | ((with_reducible refine (HEab.out _ HX8.out.2.2.2.2.2).mono ?_); rintro e w9 ⟨rfl, hb9⟩; have HX9 : Hid (Blk w9 (w1.heap.size) (iv [p, q]) 30 ∧ Blk w9 (w2.heap.size) (iv [r, s]) 30 ∧ Blk w9 (w3.heap.size) (iv [t, u]) 30 ∧ Blk w9 (w4.heap.size) (iv [0, 0]) 30 ∧ Blk w9 (w5.heap.size) (iv [0, 0]) 30 ∧ Below w.heap.size w w9) := Lib.hid ⟨HX8.out.1.below hb9 HX8.out.1.lt, HX8.out.2.1.below hb9 HX8.out.2.1.lt, HX8.out.2.2.1.below hb9 HX8.out.2.2.1.lt, HX8.out.2.2.2.1.below hb9 HX8.out.2.2.2.1.lt, HX8.out.2.2.2.2.1.below hb9 HX8.out.2.2.2.2.1.lt, below_next HX8.out.2.2.2.2.2 hb9⟩; clear hb9)
    | (refine wpList_load_w2 (by rfl) (.tmp 6) rfl (w2.heap.size) rfl (r) (s) HX9.out.2.1 ?_)
    | (refine wpList_load_w2 (by rfl) (.tmp 7) rfl (w3.heap.size) rfl (t) (u) HX9.out.2.2.1 ?_)
    | ((with_reducible refine (HEbc.out _ HX9.out.2.2.2.2.2).mono ?_); rintro e w10 ⟨rfl, hb10⟩; have HX10 : Hid (Blk w10 (w1.heap.size) (iv [p, q]) 30 ∧ Blk w10 (w2.heap.size) (iv [r, s]) 30 ∧ Blk w10 (w3.heap.size) (iv [t, u]) 30 ∧ Blk w10 (w4.heap.size) (iv [0, 0]) 30 ∧ Blk w10 (w5.heap.size) (iv [0, 0]) 30 ∧ Below w.heap.size w w10) := Lib.hid ⟨HX9.out.1.below hb10 HX9.out.1.lt, HX9.out.2.1.below hb10 HX9.out.2.1.lt, HX9.out.2.2.1.below hb10 HX9.out.2.2.1.lt, HX9.out.2.2.2.1.below hb10 HX9.out.2.2.2.1.lt, HX9.out.2.2.2.2.1.below hb10 HX9.out.2.2.2.2.1.lt, below_next HX9.out.2.2.2.2.2 hb10⟩; clear hb10))
  have hca0 : w10.cell? ⟨w1.heap.size, 0, none⟩ = some (.int .i64 (p)) := (HX10.out.1).cell rfl
  have hca1 : w10.cell? ⟨w1.heap.size, 1, none⟩ = some (.int .i64 (q)) := (HX10.out.1).cell rfl
  have hcb0 : w10.cell? ⟨w2.heap.size, 0, none⟩ = some (.int .i64 (r)) := (HX10.out.2.1).cell rfl
  have hcb1 : w10.cell? ⟨w2.heap.size, 1, none⟩ = some (.int .i64 (s)) := (HX10.out.2.1).cell rfl
  have hcm0 : w10.cell? ⟨w4.heap.size, 0, none⟩ = some (.int .i64 (0)) := (HX10.out.2.2.2.1).cell rfl
  have hcm1 : w10.cell? ⟨w4.heap.size, 1, none⟩ = some (.int .i64 (0)) := (HX10.out.2.2.2.1).cell rfl
  have HQ : Hid (∀ m, Calls Tryd.prog 30 #[.int .i64 day, .int .i64 (q - p + 1)] (w10.drewN m) fun e w' => e = .returned (.int .i64 e0) ∧ w' = w10.drewN m) := Lib.hid fun m => (HAR.out _).mono fun _ _ ⟨h, h'⟩ => ⟨h, h'.symm⟩
  go_quiet ((go_at_call 30; exact Calls.quiet_of_same (HQ.out _)))
  go_wp2_with ((with_reducible refine (HL.out _ (below_drewN HX10.out.2.2.2.2.2 _)).mono ?_); rintro e y1 ⟨rfl, hb⟩; have HY : Hid (Below w.heap.size w y1) := Lib.hid (below_next (below_drewN HX10.out.2.2.2.2.2 _) hb); clear hb)
  go_ret
  exact ⟨rfl, HY.out⟩
end CL8B
end Go.Proofs.YtkaaejfochdjcaaDoor
