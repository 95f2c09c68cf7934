/-
  slices.rotateCmpFunc.
-/
import Derived.Test.YtalladdmedmfeaaKSwap
namespace Go.Proofs.Ytalladdmedmfeaa
open Go.RowKit
open Alp
open Col
set_option linter.unusedVariables false
set_option linter.unusedSimpArgs false

set_option maxRecDepth 1000000 in
set_option maxHeartbeats 4000000 in
theorem rot_any (F : Value) (P A B S : List Int) (g N cN a m b : Nat) (hN : N = (P ++ A ++ B ++ S).length) (hN2 : N ≤ 1000000) (hc : N ≤ cN) (hm : cN ≤ maxLen) (ha : a = P.length) (hmA : m = (P ++ A).length) (hbB : b = (P ++ A ++ B).length) (hA : A ≠ []) (hB : B ≠ []) (w : World) (hw : Blk w g (iv (P ++ A ++ B ++ S)) 3) :
    Calls Try.prog 73 #[.slice (some ⟨g, 0, none⟩) N cN, .int .i64 (a : Int), .int .i64 (m : Int), .int .i64 (b : Int), F] w (SPost w g (P ++ B ++ A ++ S)) := by
  have hm' : cN ≤ 9223372036854775807 := by unfold maxLen at hm; omega
  have hA0 : 0 < A.length := List.length_pos_iff.2 hA
  have hB0 : 0 < B.length := List.length_pos_iff.2 hB
  have ham : a < m := by rw [ha, hmA, List.length_append]; omega
  have hmb : m < b := by rw [hmA, hbB, List.length_append (bs := B)]; omega
  have hbN : b ≤ N := by rw [hbB, hN]; simp only [List.length_append]; omega
  obtain ⟨i0, hi0⟩ : ∃ i0, i0 + a = m := ⟨m - a, by omega⟩
  obtain ⟨j0, hj0⟩ : ∃ j0, j0 + m = b := ⟨b - m, by omega⟩
  have hAl : A.length = i0 := by rw [hmA, List.length_append, ← ha] at hi0; omega
  have hBl : B.length = j0 := by rw [hbB, hmA, List.length_append (bs := B)] at hj0; omega
  have e1 : (m : Int) - (a : Int) = (i0 : Int) := by omega
  have e2 : (b : Int) - (m : Int) = (j0 : Int) := by omega
  have HW := Lib.hid (SW.start hw)
  have HN := Lib.hid hN
  have HX : Hid (P.length + i0 = m ∧ A.length = i0 ∧ B.length = j0) := Lib.hid ⟨by rw [← ha]; omega, hAl, hBl⟩
  have hi1 : 1 ≤ i0 := by omega
  have hj1 : 1 ≤ j0 := by omega
  have hjN : m + j0 ≤ N := by omega
  have him : i0 ≤ m := by omega
  clear hN ha hmA hbB hA hB hA0 hB0 hAl hBl hw
  go_enter Try.func73, Try.ntmps73
  go_wp2_with fail
  go_loopg [10, 11] (i0 + j0) (fun gg s10 s11 wr => ∃ (i j : Nat) (P1 X Y S1 : List Int), i + j ≤ gg ∧ 1 ≤ i ∧ 1 ≤ j ∧ i ≤ m ∧ m + j ≤ N ∧ s10 = .int .i64 (i : Int) ∧ s11 = .int .i64 (j : Int) ∧ Hid (P1.length + i = m ∧ X.length = i ∧ Y.length = j ∧ P ++ B ++ A ++ S = P1 ++ Y ++ X ++ S1 ∧ SW w g (P1 ++ X ++ Y ++ S1) wr))
  case atStart => exact ⟨i0, j0, P, A, B, S, by omega, hi1, hj1, him, hjN, rfl, rfl, Lib.hid ⟨HX.out.1, HX.out.2.1, HX.out.2.2, rfl, HW.out⟩⟩
  case round =>
    clear e1 e2 hi0 hj0 hi1 hj1 hjN him HX HW
    obtain ⟨i, j, P1, X, Y, S1, hg, hi1, hj1, him, hjN, rfl, rfl, HI⟩ := hrel
    obtain ⟨u, hu⟩ : ∃ u, u + i = m := ⟨m - i, by omega⟩
    have e3 : (m : Int) - (i : Int) = (u : Int) := by omega
    have HNW : Hid (N = (P1 ++ X ++ Y ++ S1).length) := Lib.hid (by
      have h := congrArg List.length HI.out.2.2.2.1
      rw [HN.out]
      simp only [List.length_append] at h ⊢
      omega)
    by_cases hij : i = j
    · subst hij
      have hne : ((i : Int) != (i : Int)) = false := by simp
      have HC : Hid (Calls Try.prog 75 #[.slice (some ⟨g, 0, none⟩) N cN, .int .i64 (u : Int), .int .i64 (m : Int), .int .i64 (i : Int), F] wr (SPost wr g (P1 ++ Y ++ [] ++ X ++ S1))) := Lib.hid (by
        obtain ⟨k1, k2, k3, k4, k5⟩ := HI.out
        exact swapr_any F P1 X [] Y S1 g N cN u m i (by rw [HNW.out]; simp) hN2 hc hm (by omega) k2 k3 (by simp [k2]; omega) wr (by simpa using k5.1))
      go_wp2_with ((with_reducible refine (HC.out).mono ?_); rintro e w3 hp; obtain ⟨rfl, hs3⟩ := s_out hp; have HS3 := Lib.hid hs3; clear hp hs3)
      go_end0
      exact ⟨rfl, by rw [HI.out.2.2.2.1]; have h := HI.out.2.2.2.2.trans HS3.out; simpa using h⟩
    · have hne : ((i : Int) != (j : Int)) = true := bne_iff_ne.2 (by omega)
      by_cases hgt : j < i
      · obtain ⟨d, hd⟩ : ∃ d, d + j = i := ⟨i - j, by omega⟩
        have e4 : (i : Int) - (j : Int) = (d : Int) := by omega
        obtain ⟨X1, X2, eX, lX⟩ := split_at X j (by rw [HI.out.2.1]; omega)
        have HC : Hid (Calls Try.prog 75 #[.slice (some ⟨g, 0, none⟩) N cN, .int .i64 (u : Int), .int .i64 (m : Int), .int .i64 (j : Int), F] wr (SPost wr g (P1 ++ Y ++ X2 ++ X1 ++ S1))) := Lib.hid (by
          obtain ⟨k1, k2, k3, k4, k5⟩ := HI.out
          subst eX
          exact swapr_any F P1 X1 X2 Y S1 g N cN u m j (by rw [HNW.out]; simp) hN2 hc hm (by omega) lX k3 (by rw [List.append_assoc, List.length_append, k2]; omega) wr (by simpa using k5.1))
        have HE : Hid ((P1 ++ Y).length + d = m ∧ X2.length = d ∧ X1.length = j ∧ P ++ B ++ A ++ S = (P1 ++ Y) ++ X1 ++ X2 ++ S1) := Lib.hid (by
          obtain ⟨k1, k2, k3, k4, k5⟩ := HI.out
          subst eX
          rw [List.length_append] at k2
          exact ⟨by rw [List.length_append, k3]; omega, by omega, lX, by rw [k4]; simp⟩)
        clear eX lX
        go_wp2_with ((with_reducible refine (HC.out).mono ?_); rintro e w3 hp; obtain ⟨rfl, hs3⟩ := s_out hp; have HS3 := Lib.hid hs3; clear hp hs3)
        go_roundg (d + j)
        case rel => exact ⟨d, j, P1 ++ Y, X2, X1, S1, Nat.le_refl _, by omega, hj1, by omega, hjN, by go_num, rfl, Lib.hid ⟨HE.out.1, HE.out.2.1, HE.out.2.2.1, HE.out.2.2.2, HI.out.2.2.2.2.trans HS3.out⟩⟩
        case measure => omega
      · obtain ⟨d, hd⟩ : ∃ d, d + i = j := ⟨j - i, by omega⟩
        have e4 : (j : Int) - (i : Int) = (d : Int) := by omega
        obtain ⟨v, hv⟩ : ∃ v, v = m + d := ⟨_, rfl⟩
        have e5 : (m : Int) + (j : Int) - (i : Int) = (v : Int) := by omega
        have hngt : ¬ (j : Int) < (i : Int) := by omega
        obtain ⟨Y1, Y2, eY, lY⟩ := split_at Y d (by rw [HI.out.2.2.1]; omega)
        have HC : Hid (Calls Try.prog 75 #[.slice (some ⟨g, 0, none⟩) N cN, .int .i64 (u : Int), .int .i64 (v : Int), .int .i64 (i : Int), F] wr (SPost wr g (P1 ++ Y2 ++ Y1 ++ X ++ S1))) := Lib.hid (by
          obtain ⟨k1, k2, k3, k4, k5⟩ := HI.out
          subst eY
          rw [List.length_append] at k3
          exact swapr_any F P1 X Y1 Y2 S1 g N cN u v i (by rw [HNW.out]; simp) hN2 hc hm (by omega) k2 (by omega) (by rw [hv, List.length_append, List.length_append, k2]; omega) wr (by simpa using k5.1))
        have HE : Hid (P1.length + i = m ∧ Y2.length = i ∧ Y1.length = d ∧ P ++ B ++ A ++ S = P1 ++ Y1 ++ Y2 ++ (X ++ S1)) := Lib.hid (by
          obtain ⟨k1, k2, k3, k4, k5⟩ := HI.out
          subst eY
          rw [List.length_append] at k3
          exact ⟨k1, by omega, lY, by rw [k4]; simp⟩)
        clear eY lY hv
        go_wp2_with ((with_reducible refine (HC.out).mono ?_); rintro e w3 hp; obtain ⟨rfl, hs3⟩ := s_out hp; have HS3 := Lib.hid hs3; clear hp hs3)
        go_roundg (i + d)
        case rel => exact ⟨i, d, P1, Y2, Y1, X ++ S1, Nat.le_refl _, hi1, by omega, him, by omega, rfl, by go_num, Lib.hid ⟨HE.out.1, HE.out.2.1, HE.out.2.2.1, HE.out.2.2.2, by have h := HI.out.2.2.2.2.trans HS3.out; simpa using h⟩⟩
        case measure => omega
end Go.Proofs.Ytalladdmedmfeaa
