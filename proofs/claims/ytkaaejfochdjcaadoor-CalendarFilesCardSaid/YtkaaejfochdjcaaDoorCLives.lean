/-
  The law's own examples (lives): they hold.
-/
import Derived.Test.YtkaaejfochdjcaaDoorCFirst
import Derived.Test.YtkaaejfochdjcaaDoorCPrint
namespace Go.Proofs.YtkaaejfochdjcaaDoor
open Go.RowKit
open Cal
set_option linter.unusedVariables false
set_option linter.unusedSimpArgs false

theorem lD1 : num 2000 2 29 = 730179 := by decide +kernel
theorem lD2 : num 2800 12 31 = 1022679 := by decide +kernel
theorem lE1 : Ex 2000 2 29 := by decide +kernel
theorem lE2 : Ex 2800 12 31 := by decide +kernel
theorem lE3 : ¬ Ex 1900 2 29 := by decide +kernel
def t1 : List UInt8 := [99, 49, 55, 53, 51]
def t2 : List UInt8 := [49, 55, 53, 51, 45, 48, 52, 47, 49, 55, 53, 51, 45, 48, 52, 45, 49, 49]
def t3 : List UInt8 := [49, 55, 53, 51, 45, 52]
def t4 : List UInt8 := [49, 55, 53, 52, 47, 49, 55, 53, 51]
theorem lP1 : pars t1 = (638079, 641731, 0) := by decide +kernel
theorem lP2 : pars t2 = (639996, 640006, 0) := by decide +kernel
theorem lP3 : pars t3 = (0, 0, 2) := by decide +kernel
theorem lP4 : pars t4 = (0, 0, 5) := by decide +kernel
theorem lF : firstP [(5, 9), (7, 8)] = some (5, 8) := by decide +kernel
theorem lT1 : prt 638079 641731 = t1 := by decide +kernel
theorem lT2 : prt 639996 640006 = t2 := by decide +kernel

set_option maxRecDepth 100000 in
set_option maxHeartbeats 4000000 in
theorem lives_any (w : World) (hK : KC w) : Calls Tryd.prog 16 #[] w fun e w' => e = .returned (.bool true) ∧ Below w.heap.size w w' := by
  have HD1 : Hid (Calls Tryd.prog 12 #[.int .i64 2000, .int .i64 2, .int .i64 29] w fun e w' => e = .returned (.tuple #[.int .i64 730179, .int .i64 0]) ∧ w = w') := Lib.hid ((day_yes 2000 2 29 lE1 w hK.1).mono fun e w' ⟨h, h'⟩ => ⟨by rw [h, lD1]; rfl, h'⟩)
  have HD2 : Hid (Calls Tryd.prog 12 #[.int .i64 2800, .int .i64 12, .int .i64 31] w fun e w' => e = .returned (.tuple #[.int .i64 1022679, .int .i64 0]) ∧ w = w') := Lib.hid ((day_yes 2800 12 31 lE2 w hK.1).mono fun e w' ⟨h, h'⟩ => ⟨by rw [h, lD2]; rfl, h'⟩)
  have HD3 : Hid (Calls Tryd.prog 12 #[.int .i64 1900, .int .i64 2, .int .i64 29] w fun e w' => e = .returned (.tuple #[.int .i64 0, .int .i64 5]) ∧ w = w') := Lib.hid ((day_no 1900 2 29 lE3 w hK.1).mono fun e w' ⟨h, h'⟩ => ⟨h, h'⟩)
  have HP1 : Hid (∀ W, Below w.heap.size w W → Calls Tryd.prog 25 #[.string ⟨#[99, 49, 55, 53, 51]⟩] W fun e w' => e = .returned (.tuple #[.agg #[.int .i64 (638079), .int .i64 (641731)], .int .i64 0]) ∧ Below W.heap.size W w') := Lib.hid fun W hb => (parse_any t1 W (hK.below hb).1).mono fun e w' ⟨h, h'⟩ => ⟨by rw [h, lP1]; rfl, h'⟩
  have HP2 : Hid (∀ W, Below w.heap.size w W → Calls Tryd.prog 25 #[.string ⟨#[49, 55, 53, 51, 45, 48, 52, 47, 49, 55, 53, 51, 45, 48, 52, 45, 49, 49]⟩] W fun e w' => e = .returned (.tuple #[.agg #[.int .i64 (639996), .int .i64 (640006)], .int .i64 0]) ∧ Below W.heap.size W w') := Lib.hid fun W hb => (parse_any t2 W (hK.below hb).1).mono fun e w' ⟨h, h'⟩ => ⟨by rw [h, lP2]; rfl, h'⟩
  have HP3 : Hid (∀ W, Below w.heap.size w W → Calls Tryd.prog 25 #[.string ⟨#[49, 55, 53, 51, 45, 52]⟩] W fun e w' => e = .returned (.tuple #[.agg #[.int .i64 (0), .int .i64 (0)], .int .i64 2]) ∧ Below W.heap.size W w') := Lib.hid fun W hb => (parse_any t3 W (hK.below hb).1).mono fun e w' ⟨h, h'⟩ => ⟨by rw [h, lP3]; rfl, h'⟩
  have HP4 : Hid (∀ W, Below w.heap.size w W → Calls Tryd.prog 25 #[.string ⟨#[49, 55, 53, 52, 47, 49, 55, 53, 51]⟩] W fun e w' => e = .returned (.tuple #[.agg #[.int .i64 (0), .int .i64 (0)], .int .i64 5]) ∧ Below W.heap.size W w') := Lib.hid fun W hb => (parse_any t4 W (hK.below hb).1).mono fun e w' ⟨h, h'⟩ => ⟨by rw [h, lP4]; rfl, h'⟩
  have HF : Hid (∀ W g, g = W.heap.size → Calls Tryd.prog 19 #[.slice (some ⟨g, 0, none⟩) 2 2] (W.alloc (.cells #[.int .i64 5, .int .i64 9, .int .i64 7, .int .i64 8] 30)) fun e w' => e = .returned (.tuple #[.agg #[.int .i64 5, .int .i64 8], .bool true]) ∧ Below W.heap.size W w') := Lib.hid fun W g hg => by subst hg; exact (first_any [(5, 9), (7, 8)] _ 2 2 rfl (by omega) (by unfold maxLen; omega) _ (rd_blk (Blk.at W (iv [5, 9, 7, 8]) _ 30 _ rfl rfl))).mono fun e w' ⟨h, h'⟩ => ⟨by rw [h, lF]; rfl, below_next (below_a1 _ _) h'⟩
  have HT1 : Hid (∀ W, Below w.heap.size w W → Calls Tryd.prog 28 #[.agg #[.int .i64 638079, .int .i64 641731]] W fun e w' => e = .returned (.string ⟨#[99, 49, 55, 53, 51]⟩) ∧ Below W.heap.size W w') := Lib.hid fun W hb => (print_any 638079 641731 W (hK.below hb)).mono fun e w' ⟨h, h'⟩ => ⟨by rw [h, lT1]; rfl, h'⟩
  have HT2 : Hid (∀ W, Below w.heap.size w W → Calls Tryd.prog 28 #[.agg #[.int .i64 639996, .int .i64 640006]] W fun e w' => e = .returned (.string ⟨#[49, 55, 53, 51, 45, 48, 52, 47, 49, 55, 53, 51, 45, 48, 52, 45, 49, 49]⟩) ∧ Below W.heap.size W w') := Lib.hid fun W hb => (print_any 639996 640006 W (hK.below hb)).mono fun e w' ⟨h, h'⟩ => ⟨by rw [h, lT2]; rfl, h'⟩
  clear hK
  go_enter Tryd.func16, Tryd.ntmps16
  go_wp2_with (first
    | ((with_reducible refine (HD1.out).mono ?_); rintro e w0 ⟨rfl, rfl⟩)
    | ((with_reducible refine (HD2.out).mono ?_); rintro e w0 ⟨rfl, rfl⟩)
    | ((with_reducible refine (HD3.out).mono ?_); rintro e w0 ⟨rfl, rfl⟩)
    | ((with_reducible refine (HP1.out _ (Below.refl _ _)).mono ?_); rintro e w1 ⟨rfl, hb1⟩; have HX1 : Hid (Below w.heap.size w w1) := Lib.hid (below_next (Below.refl _ _) hb1); clear hb1)
    | ((with_reducible refine (HP2.out _ (below_al HX1.out _)).mono ?_); rintro e w2 ⟨rfl, hb2⟩; have HX2 : Hid (Blk w2 w1.heap.size (iv [638079, 641731]) 30 ∧ Below w.heap.size w w2) := Lib.hid ⟨(Blk.at w1 (iv [638079, 641731]) _ 30 _ rfl rfl).below hb2 (by first | (simp; done) | (simp; omega)), below_next (below_al HX1.out _) hb2⟩; clear hb2)
    | ((with_reducible refine (HP3.out _ (below_al HX2.out.2 _)).mono ?_); rintro e w3 ⟨rfl, hb3⟩; have HX3 : Hid (Blk w3 w1.heap.size (iv [638079, 641731]) 30 ∧ Blk w3 w2.heap.size (iv [639996, 640006]) 30 ∧ Below w.heap.size w w3) := Lib.hid ⟨((HX2.out.1).alloc _).below hb3 (by simp; have := (HX2.out.1).lt; omega), (Blk.at w2 (iv [639996, 640006]) _ 30 _ rfl rfl).below hb3 (by first | (simp; done) | (simp; omega)), below_next (below_al HX2.out.2 _) hb3⟩; clear hb3)
    | ((with_reducible refine (HP4.out _ (below_al HX3.out.2.2 _)).mono ?_); rintro e w4 ⟨rfl, hb4⟩; have HX4 : Hid (Blk w4 w1.heap.size (iv [638079, 641731]) 30 ∧ Blk w4 w2.heap.size (iv [639996, 640006]) 30 ∧ Below w.heap.size w w4) := Lib.hid ⟨((HX3.out.1).alloc _).below hb4 (by simp; have := (HX3.out.1).lt; omega), ((HX3.out.2.1).alloc _).below hb4 (by simp; have := (HX3.out.2.1).lt; omega), below_next (below_al HX3.out.2.2 _) hb4⟩; clear hb4)
    | ((with_reducible refine (HF.out _ _ (by simp)).mono ?_); rintro e w5 ⟨rfl, hb5⟩; have HX5 : Hid (Blk w5 w1.heap.size (iv [638079, 641731]) 30 ∧ Blk w5 w2.heap.size (iv [639996, 640006]) 30 ∧ Below w.heap.size w w5) := Lib.hid ⟨((HX4.out.1).alloc _).below hb5 (by simp; have := (HX4.out.1).lt; omega), ((HX4.out.2.1).alloc _).below hb5 (by simp; have := (HX4.out.2.1).lt; omega), below_next (below_al HX4.out.2.2 _) hb5⟩; clear hb5)
    | (refine wpList_load_w2 (by rfl) (.tmp 7) rfl w1.heap.size rfl 638079 641731 (HX5.out.1.alloc _) ?_)
    | (refine wpList_load_w2 (by rfl) (.tmp 9) rfl w2.heap.size rfl 639996 640006 (HX5.out.2.1.alloc _) ?_)
    | ((with_reducible refine (HT1.out _ (below_al HX5.out.2.2 _)).mono ?_); rintro e w6 ⟨rfl, hb6⟩; have HX6 : Hid (Blk w6 w1.heap.size (iv [638079, 641731]) 30 ∧ Blk w6 w2.heap.size (iv [639996, 640006]) 30 ∧ Below w.heap.size w w6) := Lib.hid ⟨((HX5.out.1).alloc _).below hb6 (by simp; have := (HX5.out.1).lt; omega), ((HX5.out.2.1).alloc _).below hb6 (by simp; have := (HX5.out.2.1).lt; omega), below_next (below_al HX5.out.2.2 _) hb6⟩; clear hb6)
    | (refine wpList_load_w2 (by rfl) (.tmp 9) rfl w2.heap.size rfl 639996 640006 HX6.out.2.1 ?_)
    | ((with_reducible refine (HT2.out _ HX6.out.2.2).mono ?_); rintro e w7 ⟨rfl, hb7⟩; have HX7 : Hid (Below w.heap.size w w7) := Lib.hid (below_next HX6.out.2.2 hb7); clear hb7))
  go_ret
  exact ⟨rfl, HX7.out⟩
end Go.Proofs.YtkaaejfochdjcaaDoor
