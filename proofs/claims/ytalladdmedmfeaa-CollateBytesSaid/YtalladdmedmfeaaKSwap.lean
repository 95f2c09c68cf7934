/-
  The row that is being sorted; slices.swapRangeCmpFunc, rotateCmpFunc.
-/
import Derived.Test.YtalladdmedmfeaaKLev
import Derived.Test.YtalladdmedmfeaaKSPure
import Derived.BigRegion
namespace Go.Proofs.Ytalladdmedmfeaa
open Go.RowKit
open Alp
open Col
set_option linter.unusedVariables false
set_option linter.unusedSimpArgs false

/-- Since the world w only the row g has been written, which now holds d. -/
def SW (w : World) (g : Nat) (d : List Int) (wr : World) : Prop := Blk wr g (iv d) 3 ∧ w.grownBy wr (some g)
theorem SW.start {w : World} {g : Nat} {d : List Int} (h : Blk w g (iv d) 3) : SW w g d w := ⟨h, World.grownBy.refl w _⟩
theorem SW.below {w wr w2 : World} {g : Nat} {d : List Int} (h : SW w g d wr) (hb : Below wr.heap.size wr w2) : SW w g d w2 :=
  ⟨h.1.below hb h.1.lt, h.2.trans ⟨hb.os, hb.tape, hb.output, hb.size, fun k hk _ => hb.block k hk⟩⟩
theorem SW.drewN {w wr : World} {g : Nat} {d : List Int} (h : SW w g d wr) (n : Nat) : SW w g d (wr.drewN n) := h.below (below_drewN (Below.refl _ _) n)
theorem SW.cell {w wr : World} {g : Nat} {d : List Int} (h : SW w g d wr) {k : Nat} {x : Int} (hk : k < d.length) (hx : d.getD k 0 = x) : wr.cell? ⟨g, k, none⟩ = some (.int .i64 x) := h.1.cell (by rw [iv_get hk, hx])
theorem SW.frozen {w wr : World} {g : Nat} {d : List Int} (h : SW w g d wr) (k : Nat) : wr.frozen? ⟨g, k, none⟩ = false := h.1.frozen k
theorem SW.set {w wr : World} {g : Nat} {d : List Int} (h : SW w g d wr) (k : Nat) (x : Int) : SW w g (d.set k x) (wr.setCell ⟨g, k, none⟩ (.int .i64 x)) :=
  ⟨by rw [← iv_set]; exact h.1.set k _, h.2.trans ⟨rfl, rfl, rfl, by simp [World.setCell], fun j hj hne => heap_setCell_other _ _ _ _ (by rintro rfl; exact hne rfl)⟩⟩
theorem SW.grown {w wr : World} {g : Nat} {d : List Int} (h : SW w g d wr) : w.grownBy wr (some g) := h.2
theorem SW.trans {w w1 w2 : World} {g : Nat} {d e : List Int} (h : SW w g d w1) (k : SW w1 g e w2) : SW w g e w2 := ⟨k.1, h.2.trans k.2⟩
def SPost (w : World) (g : Nat) (d : List Int) (e : Ending) (w' : World) : Prop := e = .returned (.tuple #[]) ∧ SW w g d w'
theorem s_out {w w' : World} {g : Nat} {d : List Int} {e : Ending} (h : SPost w g d e w') : e = .returned (.tuple #[]) ∧ SW w g d w' := h
set_option maxRecDepth 1000000 in
set_option maxHeartbeats 4000000 in
theorem swapr_any (F : Value) (P X Z Y S : List Int) (g N cN a b n : Nat) (hN : N = (P ++ X ++ Z ++ Y ++ S).length) (hN2 : N ≤ 1000000) (hc : N ≤ cN) (hm : cN ≤ maxLen) (ha : a = P.length) (hX : X.length = n) (hY : Y.length = n) (hb : b = (P ++ X ++ Z).length) (w : World) (hw : Blk w g (iv (P ++ X ++ Z ++ Y ++ S)) 3) :
    Calls Try.prog 75 #[.slice (some ⟨g, 0, none⟩) N cN, .int .i64 (a : Int), .int .i64 (b : Int), .int .i64 (n : Int), F] w (SPost w g (P ++ Y ++ Z ++ X ++ S)) := by
  have hm' : cN ≤ 9223372036854775807 := by unfold maxLen at hm; omega
  have hbN : b + n ≤ N := by rw [hb, hN]; simp only [List.length_append]; omega
  have haN : a + n ≤ b := by rw [hb, ha]; simp only [List.length_append]; omega
  have HX : Hid (N = (P ++ X ++ Z ++ Y ++ S).length ∧ a = P.length ∧ X.length = n ∧ Y.length = n ∧ b = (P ++ X ++ Z).length) := Lib.hid ⟨hN, ha, hX, hY, hb⟩
  have HW := Lib.hid (SW.start hw)
  clear hN ha hX hY hb hw
  go_enter Try.func75, Try.ntmps75
  go_wp2_with fail
  go_loopg [10] n (fun gg s10 wr => ∃ (k : Nat) (X1 X2 Y1 Y2 : List Int), k + gg = n ∧ s10 = .int .i64 (k : Int) ∧ Hid (X = X1 ++ X2 ∧ Y = Y1 ++ Y2 ∧ X1.length = k ∧ Y1.length = k ∧ SW w g (P ++ (Y1 ++ X2) ++ Z ++ (X1 ++ Y2) ++ S) wr))
  case atStart => exact ⟨0, [], X, [], Y, by omega, rfl, Lib.hid ⟨rfl, rfl, rfl, rfl, HW.out⟩⟩
  case round =>
    obtain ⟨k, X1, X2, Y1, Y2, hk, rfl, HI⟩ := hrel
    by_cases hlt : k < n
    · obtain ⟨gg, rfl⟩ : ∃ x, gk = x + 1 := ⟨gk - 1, by omega⟩
      obtain ⟨eX, eY, l1, l2, hsw⟩ := HI.out
      obtain ⟨rfl⟩ | ⟨x, X3, rfl⟩ := cons_cases X2
      · have := HX.out.2.2.1; rw [eX, List.append_nil] at this; omega
      obtain ⟨rfl⟩ | ⟨y, Y3, rfl⟩ := cons_cases Y2
      · have := HX.out.2.2.2.1; rw [eY, List.append_nil] at this; omega
      have eA : (P ++ Y1).length = a + k := by rw [List.length_append, HX.out.2.1, l2]
      have eB : (P ++ Y1).length + 1 + (X3 ++ Z ++ X1).length = b + k := by
        have h1 := HX.out.2.2.2.2
        rw [eX] at h1
        simp only [List.length_append, List.length_cons] at h1 ⊢
        omega
      have ed : P ++ (Y1 ++ x :: X3) ++ Z ++ (X1 ++ y :: Y3) ++ S = (P ++ Y1) ++ x :: (X3 ++ Z ++ X1) ++ y :: (Y3 ++ S) := by simp
      have ed2 : (P ++ Y1) ++ y :: (X3 ++ Z ++ X1) ++ x :: (Y3 ++ S) = P ++ ((Y1 ++ [y]) ++ X3) ++ Z ++ ((X1 ++ [x]) ++ Y3) ++ S := by simp
      rw [ed] at hsw
      obtain ⟨D, hD⟩ : ∃ D, D = (P ++ Y1) ++ x :: (X3 ++ Z ++ X1) ++ y :: (Y3 ++ S) := ⟨_, rfl⟩
      rw [← hD] at hsw
      obtain ⟨i, hi⟩ : ∃ i, i = a + k := ⟨_, rfl⟩
      obtain ⟨j, hj⟩ : ∃ j, j = b + k := ⟨_, rfl⟩
      have hDl : i < D.length ∧ j < D.length := by rw [hD]; simp only [List.length_append, List.length_cons] at eA eB ⊢; omega
      have hgi : D.getD i 0 = x := by rw [hD]; exact getD_mid' (A := P ++ Y1) (B := (X3 ++ Z ++ X1) ++ y :: (Y3 ++ S)) (by simp) (by omega)
      have hgj : D.getD j 0 = y := by rw [hD]; exact getD_mid' (A := (P ++ Y1) ++ x :: (X3 ++ Z ++ X1)) (B := Y3 ++ S) (by simp) (by simp only [List.length_append, List.length_cons] at eA eB ⊢; omega)
      have c1 := hsw.cell hDl.1 hgi
      have c2 := hsw.cell hDl.2 hgj
      have f1 := hsw.frozen i
      have f2 := hsw.frozen j
      have hne : i ≠ j := by omega
      have c3 : (wr.setCell ⟨g, i, none⟩ (.int .i64 y)).cell? ⟨g, j, none⟩ = some (.int .i64 y) := (World.cell?_setCell_other _ _ _ _ (by intro e; simp only [Addr.mk.injEq] at e; omega)).trans c2
      have f3 : (wr.setCell ⟨g, i, none⟩ (.int .i64 y)).frozen? ⟨g, j, none⟩ = false := (hsw.set i y).frozen j
      have hik : (a : Int) + (k : Int) = (i : Int) := by omega
      have hjk : (b : Int) + (k : Int) = (j : Int) := by omega
      have hiN : i < N := by omega
      have hjN : j < N := by omega
      have HSW : Hid (SW w g (P ++ ((Y1 ++ [y]) ++ X3) ++ Z ++ ((X1 ++ [x]) ++ Y3) ++ S) ((wr.setCell ⟨g, i, none⟩ (.int .i64 y)).setCell ⟨g, j, none⟩ (.int .i64 x))) := Lib.hid (by
        have h := (hsw.set i y).set j x
        rw [hD, swap_far (by omega) (by omega), ed2] at h
        exact h)
      have HL : Hid (X = (X1 ++ [x]) ++ X3 ∧ Y = (Y1 ++ [y]) ++ Y3 ∧ (X1 ++ [x]).length = k + 1 ∧ (Y1 ++ [y]).length = k + 1) := Lib.hid ⟨by rw [eX]; simp, by rw [eY]; simp, by simp [l1], by simp [l2]⟩
      clear hsw hD hgi hgj hDl ed ed2 eA eB eX eY l1 l2 HI hi hj hne
      go_wp2_with fail
      go_region
      go_wp2_with fail
      go_roundg gg
      case rel => exact ⟨k + 1, X1 ++ [x], X3, Y1 ++ [y], Y3, by omega, by go_num, Lib.hid ⟨HL.out.1, HL.out.2.1, HL.out.2.2.1, HL.out.2.2.2, HSW.out.drewN _⟩⟩
      case measure => omega
    · obtain rfl : k = n := by omega
      have HE : Hid (SW w g (P ++ Y ++ Z ++ X ++ S) wr) := Lib.hid (by
        obtain ⟨eX, eY, l1, l2, hsw⟩ := HI.out
        have h1 := HX.out.2.2.1
        have h2 := HX.out.2.2.2.1
        rw [eX, List.length_append] at h1
        rw [eY, List.length_append] at h2
        obtain rfl : X2 = [] := List.eq_nil_of_length_eq_zero (by omega)
        obtain rfl : Y2 = [] := List.eq_nil_of_length_eq_zero (by omega)
        rw [List.append_nil] at eX eY
        subst eX eY
        simpa using hsw)
      go_wp2_with fail
      go_end0
      exact ⟨rfl, HE.out⟩
end Go.Proofs.Ytalladdmedmfeaa
