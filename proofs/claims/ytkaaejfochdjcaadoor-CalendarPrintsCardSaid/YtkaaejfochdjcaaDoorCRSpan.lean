/-
  The reference's Valid, Before, Meet, First.
-/
import Derived.Test.YtkaaejfochdjcaaDoorCFirst
import Derived.Test.YtkaaejfochdjcaaDoorCRead
import Derived.StillTailTactics
namespace Go.Proofs.YtkaaejfochdjcaaDoor
open Go.RowKit
open Cal
set_option linter.unusedVariables false
set_option linter.unusedSimpArgs false

set_option maxHeartbeats 400000 in
theorem rvalid_yes (a b : Int) (h : vaB a b = true) (w : World) : Calls Tryd.prog 22 #[.agg #[.int .i64 a, .int .i64 b]] w fun e w' => e = .returned (.bool true) ∧ Below w.heap.size w w' := by
  obtain ⟨h1, h2, h3⟩ := vaB_yes h
  clear h
  go_enter Tryd.func22, Tryd.ntmps22
  go_wp2
  go_ret
  exact ⟨rfl, below_a1 _ _⟩
set_option maxHeartbeats 400000 in
theorem rvalid_no (a b : Int) (h : vaB a b = false) (w : World) : Calls Tryd.prog 22 #[.agg #[.int .i64 a, .int .i64 b]] w fun e w' => e = .returned (.bool false) ∧ Below w.heap.size w w' := by
  have hn := vaB_no h
  clear h
  by_cases h1 : 1 ≤ a
  · by_cases h2 : a ≤ b
    · have h3 : ¬ b ≤ 1022679 := fun h3 => hn ⟨h1, h2, h3⟩
      clear hn
      go_enter Tryd.func22, Tryd.ntmps22
      go_wp2
      go_ret
      exact ⟨rfl, below_a1 _ _⟩
    · clear hn
      go_enter Tryd.func22, Tryd.ntmps22
      go_wp2
      go_ret
      exact ⟨rfl, below_a1 _ _⟩
  · clear hn
    go_enter Tryd.func22, Tryd.ntmps22
    go_wp2
    go_ret
    exact ⟨rfl, below_a1 _ _⟩

set_option maxRecDepth 100000 in
set_option maxHeartbeats 1000000 in
theorem rbefore_any (a b c d : Int) (w : World) : Calls Tryd.prog 24 #[.agg #[.int .i64 a, .int .i64 b], .agg #[.int .i64 c, .int .i64 d]] w fun e w' => e = .returned (.bool (befB a b c d)) ∧ Below w.heap.size w w' := by
  unfold befB
  cases hv : vaB a b
  · have HV : Hid (∀ W, Calls Tryd.prog 22 #[.agg #[.int .i64 (a), .int .i64 (b)]] W fun e w' => e = .returned (.bool false) ∧ Below W.heap.size W w') := Lib.hid fun W => rvalid_no _ _ hv W
    clear hv
    go_enter Tryd.func24, Tryd.ntmps24
    go_wp2_with ((with_reducible refine (HV.out _).mono ?_); rintro e w1 ⟨rfl, hb1⟩; have HX1 : Hid (Below w.heap.size w w1) := Lib.hid (below_next (below_al (below_a1 _ _) _) hb1); clear hb1)
    go_ret
    exact ⟨rfl, HX1.out⟩
  · have HV : Hid (∀ W, Calls Tryd.prog 22 #[.agg #[.int .i64 (a), .int .i64 (b)]] W fun e w' => e = .returned (.bool true) ∧ Below W.heap.size W w') := Lib.hid fun W => rvalid_yes _ _ hv W
    clear hv
    cases hu : vaB c d
    · have HU : Hid (∀ W, Calls Tryd.prog 22 #[.agg #[.int .i64 (c), .int .i64 (d)]] W fun e w' => e = .returned (.bool false) ∧ Below W.heap.size W w') := Lib.hid fun W => rvalid_no _ _ hu W
      clear hu
      go_enter Tryd.func24, Tryd.ntmps24
      go_wp2_with (first
        | ((with_reducible refine (HV.out _).mono ?_); rintro e w1 ⟨rfl, hb1⟩; have HB1 : Hid (Blk w1 w.heap.size (iv [a, b]) 30) := Lib.hid (((Blk.at w (iv [a, b]) _ 30 _ rfl rfl).alloc _).below hb1 (by simp; omega)); have HC1 : Hid (Blk w1 (w.heap.size + 1) (iv [c, d]) 30) := Lib.hid ((Blk.at _ (iv [c, d]) _ 30 _ rfl (by simp)).below hb1 (by simp)); have HX1 : Hid (Below w.heap.size w w1) := Lib.hid (below_next (below_al (below_a1 _ _) _) hb1); clear hb1)
        | (refine wpList_load_w2 (by rfl) (.tmp 3) rfl (w.heap.size + 1) rfl c d HC1.out ?_)
        | ((with_reducible refine (HU.out _).mono ?_); rintro e w2 ⟨rfl, hb2⟩; have HX2 : Hid (Below w.heap.size w w2) := Lib.hid (below_next HX1.out hb2); clear hb2))
      go_ret
      exact ⟨rfl, HX2.out⟩
    · have HU : Hid (∀ W, Calls Tryd.prog 22 #[.agg #[.int .i64 (c), .int .i64 (d)]] W fun e w' => e = .returned (.bool true) ∧ Below W.heap.size W w') := Lib.hid fun W => rvalid_yes _ _ hu W
      clear hu
      go_enter Tryd.func24, Tryd.ntmps24
      go_wp2_with (first
        | ((with_reducible refine (HV.out _).mono ?_); rintro e w1 ⟨rfl, hb1⟩; have HB1 : Hid (Blk w1 w.heap.size (iv [a, b]) 30) := Lib.hid (((Blk.at w (iv [a, b]) _ 30 _ rfl rfl).alloc _).below hb1 (by simp; omega)); have HC1 : Hid (Blk w1 (w.heap.size + 1) (iv [c, d]) 30) := Lib.hid ((Blk.at _ (iv [c, d]) _ 30 _ rfl (by simp)).below hb1 (by simp)); have HX1 : Hid (Below w.heap.size w w1) := Lib.hid (below_next (below_al (below_a1 _ _) _) hb1); clear hb1)
        | (refine wpList_load_w2 (by rfl) (.tmp 3) rfl (w.heap.size + 1) rfl c d HC1.out ?_)
        | ((with_reducible refine (HU.out _).mono ?_); rintro e w2 ⟨rfl, hb2⟩; have hcb : w2.cell? ⟨w.heap.size, 1, none⟩ = some (.int .i64 b) := (HB1.out.below hb2 HB1.out.lt).cell rfl; have hcc : w2.cell? ⟨w.heap.size + 1, 0, none⟩ = some (.int .i64 c) := (HC1.out.below hb2 HC1.out.lt).cell rfl; have HX2 : Hid (Below w.heap.size w w2) := Lib.hid (below_next HX1.out hb2); clear hb2))
      go_ret
      exact ⟨rfl, HX2.out⟩

set_option maxRecDepth 100000 in
set_option maxHeartbeats 2000000 in
theorem rmeet_any (a b c d : Int) (w : World) : Calls Tryd.prog 18 #[.agg #[.int .i64 a, .int .i64 b], .agg #[.int .i64 c, .int .i64 d]] w fun e w' => e = retM (meetP a b c d) ∧ Below w.heap.size w w' := by
  cases hv : vaB a b
  · rw [meet_no (by rw [hv]; rfl), retM_none]
    have HV : Hid (∀ W, Calls Tryd.prog 22 #[.agg #[.int .i64 (a), .int .i64 (b)]] W fun e w' => e = .returned (.bool false) ∧ Below W.heap.size W w') := Lib.hid fun W => rvalid_no _ _ hv W
    clear hv
    go_enter Tryd.func18, Tryd.ntmps18
    go_wp2_with (first
      | ((with_reducible refine (HV.out _).mono ?_); rintro e w1 ⟨rfl, hb1⟩; have HB1 : Hid (Blk w1 w.heap.size (iv [a, b]) 30 ∧ Blk w1 (w.heap.size + 1) (iv [c, d]) 30 ∧ Blk w1 (w.heap.size + 1 + 1) (iv [0, 0]) 30) := Lib.hid ⟨(((Blk.at w (iv [a, b]) _ 30 _ rfl rfl).alloc _).alloc _).below hb1 (by first | (simp; done) | (simp; omega)), ((Blk.at _ (iv [c, d]) _ 30 _ rfl (by first | (simp; done) | (simp; omega))).alloc _).below hb1 (by first | (simp; done) | (simp; omega)), (Blk.at _ (iv [0, 0]) _ 30 _ rfl (by first | (simp; done) | (simp; omega))).below hb1 (by first | (simp; done) | (simp; omega))⟩; have HX1 : Hid (Below w.heap.size w w1) := Lib.hid (below_next (below_al (below_al (below_a1 _ _) _) _) hb1); clear hb1)
      | (refine wpList_store_blk rfl 30 (.tmp 4) (.tmp 28) rfl (w.heap.size + 1 + 1) 0 rfl (iv [0, 0]) rfl HB1.out.2.2 2 Tryd.sizeSpan rfl (by simp [iv]) (iv_one _) ?_; intro w9 hst9; have HX9 : Hid (Blk w9 (w.heap.size + 1 + 1) (iv [0, 0]) 30 ∧ Below w.heap.size w w9) := Lib.hid ⟨hst9.1, hst9.below HX1.out (by omega)⟩; clear hst9))
    exact ret_m rfl (w.heap.size + 1 + 1) rfl _ rfl HX9.out.1 rfl ⟨rfl, HX9.out.2⟩
  · have HV : Hid (∀ W, Calls Tryd.prog 22 #[.agg #[.int .i64 (a), .int .i64 (b)]] W fun e w' => e = .returned (.bool true) ∧ Below W.heap.size W w') := Lib.hid fun W => rvalid_yes _ _ hv W
    cases hu : vaB c d
    · rw [meet_no (by rw [hv, hu]; rfl), retM_none]
      have HU : Hid (∀ W, Calls Tryd.prog 22 #[.agg #[.int .i64 (c), .int .i64 (d)]] W fun e w' => e = .returned (.bool false) ∧ Below W.heap.size W w') := Lib.hid fun W => rvalid_no _ _ hu W
      clear hv hu
      go_enter Tryd.func18, Tryd.ntmps18
      go_wp2_with (first
        | ((with_reducible refine (HV.out _).mono ?_); rintro e w1 ⟨rfl, hb1⟩; have HB1 : Hid (Blk w1 w.heap.size (iv [a, b]) 30 ∧ Blk w1 (w.heap.size + 1) (iv [c, d]) 30 ∧ Blk w1 (w.heap.size + 1 + 1) (iv [0, 0]) 30) := Lib.hid ⟨(((Blk.at w (iv [a, b]) _ 30 _ rfl rfl).alloc _).alloc _).below hb1 (by first | (simp; done) | (simp; omega)), ((Blk.at _ (iv [c, d]) _ 30 _ rfl (by first | (simp; done) | (simp; omega))).alloc _).below hb1 (by first | (simp; done) | (simp; omega)), (Blk.at _ (iv [0, 0]) _ 30 _ rfl (by first | (simp; done) | (simp; omega))).below hb1 (by first | (simp; done) | (simp; omega))⟩; have HX1 : Hid (Below w.heap.size w w1) := Lib.hid (below_next (below_al (below_al (below_a1 _ _) _) _) hb1); clear hb1)
        | (refine wpList_load_w2 (by rfl) (.tmp 3) rfl (w.heap.size + 1) rfl c d HB1.out.2.1 ?_)
        | ((with_reducible refine (HU.out _).mono ?_); rintro e w2 ⟨rfl, hb2⟩; have HB2 : Hid (Blk w2 w.heap.size (iv [a, b]) 30 ∧ Blk w2 (w.heap.size + 1) (iv [c, d]) 30 ∧ Blk w2 (w.heap.size + 1 + 1) (iv [0, 0]) 30) := Lib.hid ⟨HB1.out.1.below hb2 HB1.out.1.lt, HB1.out.2.1.below hb2 HB1.out.2.1.lt, HB1.out.2.2.below hb2 HB1.out.2.2.lt⟩; have HX2 : Hid (Below w.heap.size w w2) := Lib.hid (below_next HX1.out hb2); clear hb2)
        | (refine wpList_store_blk rfl 30 (.tmp 4) (.tmp 28) rfl (w.heap.size + 1 + 1) 0 rfl (iv [0, 0]) rfl HB2.out.2.2 2 Tryd.sizeSpan rfl (by simp [iv]) (iv_one _) ?_; intro w9 hst9; have HX9 : Hid (Blk w9 (w.heap.size + 1 + 1) (iv [0, 0]) 30 ∧ Below w.heap.size w w9) := Lib.hid ⟨hst9.1, hst9.below HX2.out (by omega)⟩; clear hst9))
      exact ret_m rfl (w.heap.size + 1 + 1) rfl _ rfl HX9.out.1 rfl ⟨rfl, HX9.out.2⟩
    · have HU : Hid (∀ W, Calls Tryd.prog 22 #[.agg #[.int .i64 (c), .int .i64 (d)]] W fun e w' => e = .returned (.bool true) ∧ Below W.heap.size W w') := Lib.hid fun W => rvalid_yes _ _ hu W
      have hv' := vaB_yes hv
      have hu' := vaB_yes hu
      by_cases h1 : b < c
      · rw [meet_no (by rw [hv, hu]; simp only [Bool.and_true, Bool.true_and]; exact Bool.eq_false_iff.2 fun h => by have := vaB_yes h; omega), retM_none]
        clear hv hu hv' hu'
        go_enter Tryd.func18, Tryd.ntmps18
        go_wp2_with (first
          | ((with_reducible refine (HV.out _).mono ?_); rintro e w1 ⟨rfl, hb1⟩; have HB1 : Hid (Blk w1 w.heap.size (iv [a, b]) 30 ∧ Blk w1 (w.heap.size + 1) (iv [c, d]) 30 ∧ Blk w1 (w.heap.size + 1 + 1) (iv [0, 0]) 30) := Lib.hid ⟨(((Blk.at w (iv [a, b]) _ 30 _ rfl rfl).alloc _).alloc _).below hb1 (by first | (simp; done) | (simp; omega)), ((Blk.at _ (iv [c, d]) _ 30 _ rfl (by first | (simp; done) | (simp; omega))).alloc _).below hb1 (by first | (simp; done) | (simp; omega)), (Blk.at _ (iv [0, 0]) _ 30 _ rfl (by first | (simp; done) | (simp; omega))).below hb1 (by first | (simp; done) | (simp; omega))⟩; have HX1 : Hid (Below w.heap.size w w1) := Lib.hid (below_next (below_al (below_al (below_a1 _ _) _) _) hb1); clear hb1)
          | (refine wpList_load_w2 (by rfl) (.tmp 3) rfl (w.heap.size + 1) rfl c d HB1.out.2.1 ?_)
          | ((with_reducible refine (HU.out _).mono ?_); rintro e w2 ⟨rfl, hb2⟩; have HB2 : Hid (Blk w2 w.heap.size (iv [a, b]) 30 ∧ Blk w2 (w.heap.size + 1) (iv [c, d]) 30 ∧ Blk w2 (w.heap.size + 1 + 1) (iv [0, 0]) 30) := Lib.hid ⟨HB1.out.1.below hb2 HB1.out.1.lt, HB1.out.2.1.below hb2 HB1.out.2.1.lt, HB1.out.2.2.below hb2 HB1.out.2.2.lt⟩; have hca : w2.cell? ⟨w.heap.size, 0, none⟩ = some (.int .i64 a) := HB2.out.1.cell rfl; have hcb : w2.cell? ⟨w.heap.size, 1, none⟩ = some (.int .i64 b) := HB2.out.1.cell rfl; have hcc : w2.cell? ⟨w.heap.size + 1, 0, none⟩ = some (.int .i64 c) := HB2.out.2.1.cell rfl; have hcd : w2.cell? ⟨w.heap.size + 1, 1, none⟩ = some (.int .i64 d) := HB2.out.2.1.cell rfl; have HX2 : Hid (Below w.heap.size w w2) := Lib.hid (below_next HX1.out hb2); clear hb2)
          | (refine wpList_store_blk rfl 30 (.tmp 4) (.tmp 28) rfl (w.heap.size + 1 + 1) 0 rfl (iv [0, 0]) rfl HB2.out.2.2 2 Tryd.sizeSpan rfl (by simp [iv]) (iv_one _) ?_; intro w9 hst9; have HX9 : Hid (Blk w9 (w.heap.size + 1 + 1) (iv [0, 0]) 30 ∧ Below w.heap.size w w9) := Lib.hid ⟨hst9.1, hst9.below HX2.out (by omega)⟩; clear hst9))
        exact ret_m rfl (w.heap.size + 1 + 1) rfl _ rfl HX9.out.1 rfl ⟨rfl, HX9.out.2⟩
      · by_cases h2 : d < a
        · rw [meet_no (by rw [hv, hu]; simp only [Bool.and_true, Bool.true_and]; exact Bool.eq_false_iff.2 fun h => by have := vaB_yes h; omega), retM_none]
          clear hv hu hv' hu'
          go_enter Tryd.func18, Tryd.ntmps18
          go_wp2_with (first
            | ((with_reducible refine (HV.out _).mono ?_); rintro e w1 ⟨rfl, hb1⟩; have HB1 : Hid (Blk w1 w.heap.size (iv [a, b]) 30 ∧ Blk w1 (w.heap.size + 1) (iv [c, d]) 30 ∧ Blk w1 (w.heap.size + 1 + 1) (iv [0, 0]) 30) := Lib.hid ⟨(((Blk.at w (iv [a, b]) _ 30 _ rfl rfl).alloc _).alloc _).below hb1 (by first | (simp; done) | (simp; omega)), ((Blk.at _ (iv [c, d]) _ 30 _ rfl (by first | (simp; done) | (simp; omega))).alloc _).below hb1 (by first | (simp; done) | (simp; omega)), (Blk.at _ (iv [0, 0]) _ 30 _ rfl (by first | (simp; done) | (simp; omega))).below hb1 (by first | (simp; done) | (simp; omega))⟩; have HX1 : Hid (Below w.heap.size w w1) := Lib.hid (below_next (below_al (below_al (below_a1 _ _) _) _) hb1); clear hb1)
            | (refine wpList_load_w2 (by rfl) (.tmp 3) rfl (w.heap.size + 1) rfl c d HB1.out.2.1 ?_)
            | ((with_reducible refine (HU.out _).mono ?_); rintro e w2 ⟨rfl, hb2⟩; have HB2 : Hid (Blk w2 w.heap.size (iv [a, b]) 30 ∧ Blk w2 (w.heap.size + 1) (iv [c, d]) 30 ∧ Blk w2 (w.heap.size + 1 + 1) (iv [0, 0]) 30) := Lib.hid ⟨HB1.out.1.below hb2 HB1.out.1.lt, HB1.out.2.1.below hb2 HB1.out.2.1.lt, HB1.out.2.2.below hb2 HB1.out.2.2.lt⟩; have hca : w2.cell? ⟨w.heap.size, 0, none⟩ = some (.int .i64 a) := HB2.out.1.cell rfl; have hcb : w2.cell? ⟨w.heap.size, 1, none⟩ = some (.int .i64 b) := HB2.out.1.cell rfl; have hcc : w2.cell? ⟨w.heap.size + 1, 0, none⟩ = some (.int .i64 c) := HB2.out.2.1.cell rfl; have hcd : w2.cell? ⟨w.heap.size + 1, 1, none⟩ = some (.int .i64 d) := HB2.out.2.1.cell rfl; have HX2 : Hid (Below w.heap.size w w2) := Lib.hid (below_next HX1.out hb2); clear hb2)
            | (refine wpList_store_blk rfl 30 (.tmp 4) (.tmp 28) rfl (w.heap.size + 1 + 1) 0 rfl (iv [0, 0]) rfl HB2.out.2.2 2 Tryd.sizeSpan rfl (by simp [iv]) (iv_one _) ?_; intro w9 hst9; have HX9 : Hid (Blk w9 (w.heap.size + 1 + 1) (iv [0, 0]) 30 ∧ Below w.heap.size w w9) := Lib.hid ⟨hst9.1, hst9.below HX2.out (by omega)⟩; clear hst9))
          exact ret_m rfl (w.heap.size + 1 + 1) rfl _ rfl HX9.out.1 rfl ⟨rfl, HX9.out.2⟩
        · have he : meetP a b c d = some (max a c, min b d) := by unfold meetP; rw [if_pos (by rw [hv, hu, vaB_mk (by omega)]; rfl)]
          rw [he, retM_some]
          clear hv hu hv' hu' he
          go_enter Tryd.func18, Tryd.ntmps18
          go_wp2_with (first
            | ((with_reducible refine (HV.out _).mono ?_); rintro e w1 ⟨rfl, hb1⟩; have HB1 : Hid (Blk w1 w.heap.size (iv [a, b]) 30 ∧ Blk w1 (w.heap.size + 1) (iv [c, d]) 30 ∧ Blk w1 (w.heap.size + 1 + 1) (iv [0, 0]) 30) := Lib.hid ⟨(((Blk.at w (iv [a, b]) _ 30 _ rfl rfl).alloc _).alloc _).below hb1 (by first | (simp; done) | (simp; omega)), ((Blk.at _ (iv [c, d]) _ 30 _ rfl (by first | (simp; done) | (simp; omega))).alloc _).below hb1 (by first | (simp; done) | (simp; omega)), (Blk.at _ (iv [0, 0]) _ 30 _ rfl (by first | (simp; done) | (simp; omega))).below hb1 (by first | (simp; done) | (simp; omega))⟩; have HX1 : Hid (Below w.heap.size w w1) := Lib.hid (below_next (below_al (below_al (below_a1 _ _) _) _) hb1); clear hb1)
            | (refine wpList_load_w2 (by rfl) (.tmp 3) rfl (w.heap.size + 1) rfl c d HB1.out.2.1 ?_)
            | ((with_reducible refine (HU.out _).mono ?_); rintro e w2 ⟨rfl, hb2⟩; have HB2 : Hid (Blk w2 w.heap.size (iv [a, b]) 30 ∧ Blk w2 (w.heap.size + 1) (iv [c, d]) 30 ∧ Blk w2 (w.heap.size + 1 + 1) (iv [0, 0]) 30) := Lib.hid ⟨HB1.out.1.below hb2 HB1.out.1.lt, HB1.out.2.1.below hb2 HB1.out.2.1.lt, HB1.out.2.2.below hb2 HB1.out.2.2.lt⟩; have hca : w2.cell? ⟨w.heap.size, 0, none⟩ = some (.int .i64 a) := HB2.out.1.cell rfl; have hcb : w2.cell? ⟨w.heap.size, 1, none⟩ = some (.int .i64 b) := HB2.out.1.cell rfl; have hcc : w2.cell? ⟨w.heap.size + 1, 0, none⟩ = some (.int .i64 c) := HB2.out.2.1.cell rfl; have hcd : w2.cell? ⟨w.heap.size + 1, 1, none⟩ = some (.int .i64 d) := HB2.out.2.1.cell rfl; have HX2 : Hid (Below w.heap.size w w2) := Lib.hid (below_next HX1.out hb2); clear hb2)
            | (refine wpList_store_blk rfl 30 (.tmp 4) (.tmp 39) rfl (w.heap.size + 1 + 1) 0 rfl (iv [max a c, min b d]) rfl HB2.out.2.2 2 Tryd.sizeSpan rfl (by simp [iv]) (iv_one _) ?_; intro w9 hst9; have HX9 : Hid (Blk w9 (w.heap.size + 1 + 1) (iv [max a c, min b d]) 30 ∧ Below w.heap.size w w9) := Lib.hid ⟨hst9.1, hst9.below HX2.out (by omega)⟩; clear hst9))
          exact ret_m rfl (w.heap.size + 1 + 1) rfl _ rfl HX9.out.1 rfl ⟨rfl, HX9.out.2⟩

theorem fgo_self (p q : Int) (t : List (Int × Int)) (h : vaB p q = true) : fgo (1022679, 1022679) ((p, q) :: t) = fgo (p, q) ((p, q) :: t) := by
  have := vaB_yes h
  rw [fgo_yes _ _ _ h, fgo_yes _ _ _ h]
  congr 1
  simp only [Prod.mk.injEq]
  omega
/-- What the reference's First starts from is what comes first: the acc may be the first one. -/
theorem fgo_start (x : Int × Int) (t : List (Int × Int)) : fgo (1022679, 1022679) (x :: t) = fgo x (x :: t) := by
  obtain ⟨p, q⟩ := x
  cases h : vaB p q
  · rw [fgo_no _ _ _ h, fgo_no _ _ _ h]
  · exact fgo_self p q t h
set_option maxRecDepth 100000 in
set_option maxHeartbeats 2000000 in
theorem rfirst_nil (A : Option Addr) (c : Nat) (w : World) : Calls Tryd.prog 20 #[.slice A 0 c] w fun e w' => e = retM none ∧ Below w.heap.size w w' := by
  rw [retM_none]
  go_enter Tryd.func20, Tryd.ntmps20
  go_wp2_with (refine wpList_store_blk rfl 30 (.tmp 2) (.tmp 9) rfl w.heap.size 0 rfl (iv [0, 0]) rfl (Blk.at w (iv [0, 0]) _ 30 _ rfl rfl) 2 Tryd.sizeSpan rfl (by simp [iv]) (iv_one _) ?_; intro w9 hst9; have HX9 : Hid (Blk w9 w.heap.size (iv [0, 0]) 30 ∧ Below w.heap.size w w9) := Lib.hid ⟨hst9.1, hst9.below (below_a1 _ _) (by omega)⟩; clear hst9)
  exact ret_m rfl w.heap.size rfl _ rfl HX9.out.1 rfl ⟨rfl, HX9.out.2⟩
set_option maxRecDepth 100000 in
set_option maxHeartbeats 4000000 in
theorem rfirst_aux (l : List (Int × Int)) (n : Nat) (hn : n = l.length) (h0 : 0 < n) (Q : Option (Int × Int)) (hQ : Q = fgo (l.getD 0 (0, 0)) l) (b o c : Nat) (hc : n ≤ c) (hm : c ≤ maxLen) (w : World) (hr : ∀ j v, (sv l)[j]? = some v → w.cell? ⟨b, o + j, none⟩ = some v) :
    Calls Tryd.prog 20 #[.slice (some ⟨b, o, none⟩) n c] w fun e w' => e = retM Q ∧ Below w.heap.size w w' := by
  have hm' : c ≤ 9223372036854775807 := by unfold maxLen at hm; omega
  have hn0 : ((n : Int) == 0) = false := beq_eq_false_iff_ne.2 (by omega)
  have HR : Hid (∀ k, k < n → w.cell? ⟨b, o + k * 2, none⟩ = some (.int .i64 (l.getD k (0, 0)).1) ∧ w.cell? ⟨b, o + k * 2 + 1, none⟩ = some (.int .i64 (l.getD k (0, 0)).2) ∧ b < w.heap.size) := Lib.hid fun k hk => by
    have hg := sv_get l k (by omega)
    have h1 := hr _ _ hg.1
    have h2 := hr _ _ hg.2
    rw [Nat.mul_comm]
    exact ⟨h1, by rw [Nat.add_assoc]; exact h2, World.block_lt_of_cell? w _ h1⟩
  obtain ⟨⟨x0, z0⟩, hx0⟩ : ∃ y, y = l.getD 0 (0, 0) := ⟨_, rfl⟩
  have hf := HR.out 0 h0
  rw [← hx0] at hf hQ
  have hf0 : w.cell? ⟨b, o, none⟩ = some (.int .i64 x0) := by simpa using hf.1
  have hf1 : w.cell? ⟨b, o + 1, none⟩ = some (.int .i64 z0) := by simpa using hf.2.1
  have hfb := hf.2.2
  have hbne : b ≠ w.heap.size := by omega
  have hA0 : (w.alloc (.cells #[.int .i64 0, .int .i64 0] 30)).cell? ⟨b, o, none⟩ = some (.int .i64 x0) := ((below_a1 w _).cell (p := ⟨b, o, none⟩) hfb).trans hf0
  have hA1 : (w.alloc (.cells #[.int .i64 0, .int .i64 0] 30)).cell? ⟨b, o + 1, none⟩ = some (.int .i64 z0) := ((below_a1 w _).cell (p := ⟨b, o + 1, none⟩) hfb).trans hf1
  have HN := Lib.hid hn
  have HQ := Lib.hid hQ
  clear hr hn hQ hf hx0
  go_enter Tryd.func20, Tryd.ntmps20
  go_wp2_with fail
  go_loopg [5] n (fun g s5 wr => ∃ (k : Nat) (x z : Int), k + g = n ∧ s5 = .int .i64 (k : Int) ∧ Hid (Q = fgo (x, z) (l.drop k)) ∧ Hid (Blk wr w.heap.size (iv [0, 0]) 30 ∧ Blk wr (w.heap.size + 1) (iv [x, z]) 30 ∧ Below w.heap.size w wr))
  case atStart => exact ⟨0, x0, z0, by omega, rfl, HQ, Lib.hid ⟨(Blk.at w (iv [0, 0]) _ 30 _ rfl rfl).alloc _, Blk.at _ (iv [x0, z0]) _ 30 _ rfl (by simp), below_al (below_a1 _ _) _⟩⟩
  case round =>
    clear hA0 hA1 hf0 hf1
    obtain ⟨k, x, z, hk, rfl, HF, HI⟩ := hrel
    by_cases hlt : k < n
    · obtain ⟨g, rfl⟩ : ∃ g, gk = g + 1 := ⟨gk - 1, by omega⟩
      obtain ⟨y, hy⟩ : ∃ y, y = l.getD k (0, 0) := ⟨_, rfl⟩
      have hr := HR.out k hlt
      rw [← hy] at hr
      obtain ⟨p, q⟩ := y
      have hc0 : wr.cell? ⟨b, o + k * 2, none⟩ = some (.int .i64 p) := (HI.out.2.2.cell (p := ⟨b, o + k * 2, none⟩) hr.2.2).trans hr.1
      have hc1 : wr.cell? ⟨b, o + k * 2 + 1, none⟩ = some (.int .i64 q) := (HI.out.2.2.cell (p := ⟨b, o + k * 2 + 1, none⟩) hr.2.2).trans hr.2.1
      have HP : Hid (∀ W, Below w.heap.size w W → W.cell? ⟨b, o + k * 2, none⟩ = some (.int .i64 p) ∧ W.cell? ⟨b, o + k * 2 + 1, none⟩ = some (.int .i64 q)) := Lib.hid fun W hb => ⟨(hb.cell (p := ⟨b, o + k * 2, none⟩) hr.2.2).trans hr.1, (hb.cell (p := ⟨b, o + k * 2 + 1, none⟩) hr.2.2).trans hr.2.1⟩
      have HD : Hid (l.drop k = (p, q) :: l.drop (k + 1)) := Lib.hid (by rw [hy]; exact drop_getD l k (by rw [← HN.out]; exact hlt))
      clear hr hy
      cases hv : vaB p q
      · have HV : Hid (∀ W, Calls Tryd.prog 22 #[.agg #[.int .i64 p, .int .i64 q]] W fun e w' => e = .returned (.bool false) ∧ Below W.heap.size W w') := Lib.hid fun W => rvalid_no _ _ hv W
        have HE : Hid (Q = none) := Lib.hid (by rw [HF.out, HD.out]; exact fgo_no _ _ _ hv)
        clear hv
        go_wp2_with (first
          | ((with_reducible refine (HV.out _).mono ?_); rintro e w1 ⟨rfl, hb1⟩; have HX1 : Hid (Blk w1 w.heap.size (iv [0, 0]) 30 ∧ Below w.heap.size w w1) := Lib.hid ⟨HI.out.1.below hb1 HI.out.1.lt, below_next HI.out.2.2 hb1⟩; clear hb1)
          | (refine wpList_store_blk rfl 30 (.tmp 2) (.tmp 25) rfl w.heap.size 0 rfl (iv [0, 0]) rfl HX1.out.1 2 Tryd.sizeSpan rfl (by simp [iv]) (iv_one _) ?_; intro w9 hst9; have HX9 : Hid (Blk w9 w.heap.size (iv [0, 0]) 30 ∧ Below w.heap.size w w9) := Lib.hid ⟨hst9.1, hst9.below HX1.out.2 (by omega)⟩; clear hst9))
        rw [HE.out, retM_none]
        exact ret_m rfl w.heap.size rfl _ rfl HX9.out.1 rfl ⟨rfl, HX9.out.2⟩
      · have HV : Hid (∀ W, Calls Tryd.prog 22 #[.agg #[.int .i64 p, .int .i64 q]] W fun e w' => e = .returned (.bool true) ∧ Below W.heap.size W w') := Lib.hid fun W => rvalid_yes _ _ hv W
        have HE : Hid (Q = fgo (min x p, min z q) (l.drop (k + 1))) := Lib.hid (by rw [HF.out, HD.out]; exact fgo_yes _ _ _ hv)
        clear hv
        go_wp2_with ((with_reducible refine (HV.out _).mono ?_); rintro e w1 ⟨rfl, hb1⟩; have HX1 : Hid (Blk w1 w.heap.size (iv [0, 0]) 30 ∧ Blk w1 (w.heap.size + 1) (iv [x, z]) 30 ∧ Below w.heap.size w w1) := Lib.hid ⟨HI.out.1.below hb1 HI.out.1.lt, HI.out.2.1.below hb1 HI.out.2.1.lt, below_next HI.out.2.2 hb1⟩; clear hb1)
        clear hc0 hc1
        have hca : w1.cell? ⟨w.heap.size + 1, 0, none⟩ = some (.int .i64 x) := HX1.out.2.1.cell rfl
        have hcp := (HP.out _ HX1.out.2.2).1
        go_still_tail 9, (by kernel_rfl)
        have HX2 : Hid (Blk w1.drew w.heap.size (iv [0, 0]) 30 ∧ Blk w1.drew (w.heap.size + 1) (iv [x, z]) 30 ∧ Below w.heap.size w w1.drew) := Lib.hid ⟨HX1.out.1.drew, HX1.out.2.1.drew, HX1.out.2.2.drew⟩
        change wpList _ _ _ _ _ w1.drew
        clear hca hcp
        generalize w1.drew = v1 at *
        (refine wpList_store_one rfl 3 (.tmp 34) (.tmp 33) rfl (w.heap.size + 1) 0 rfl (.int .i64 (min x p)) rfl rfl rfl HX2.out.2.1 (by simp [iv]) rfl ?_; intro v2 hst2; have HX3 : Hid (Blk v2 w.heap.size (iv [0, 0]) 30 ∧ Blk v2 (w.heap.size + 1) (iv [min x p, z]) 30 ∧ Below w.heap.size w v2) := Lib.hid ⟨hst2.other HX2.out.1 (by omega), hst2.1, hst2.below HX2.out.2.2 (by omega)⟩; clear hst2)
        go_wp2_with fail
        have hca : v2.cell? ⟨w.heap.size + 1, 1, none⟩ = some (.int .i64 z) := HX3.out.2.1.cell rfl
        have hcp := (HP.out _ HX3.out.2.2).2
        go_still_tail 9, (by kernel_rfl)
        have HX4 : Hid (Blk v2.drew w.heap.size (iv [0, 0]) 30 ∧ Blk v2.drew (w.heap.size + 1) (iv [min x p, z]) 30 ∧ Below w.heap.size w v2.drew) := Lib.hid ⟨HX3.out.1.drew, HX3.out.2.1.drew, HX3.out.2.2.drew⟩
        change wpList _ _ _ _ _ v2.drew
        clear hca hcp
        generalize v2.drew = v3 at *
        (refine wpList_store_one rfl 3 (.tmp 43) (.tmp 42) rfl (w.heap.size + 1) 1 rfl (.int .i64 (min z q)) rfl rfl rfl HX4.out.2.1 (by simp [iv]) rfl ?_; intro v4 hst4; have HX5 : Hid (Blk v4 w.heap.size (iv [0, 0]) 30 ∧ Blk v4 (w.heap.size + 1) (iv [min x p, min z q]) 30 ∧ Below w.heap.size w v4) := Lib.hid ⟨hst4.other HX4.out.1 (by omega), hst4.1, hst4.below HX4.out.2.2 (by omega)⟩; clear hst4)
        go_wp2_with fail
        go_roundg g
        case rel => exact ⟨k + 1, _, _, by omega, by go_num, HE, HX5⟩
        case measure => omega
    · obtain rfl : k = n := by omega
      have HE : Hid (Q = some (x, z)) := Lib.hid (by rw [HF.out, HN.out, List.drop_length, fgo_nil])
      go_wp2_with (first
        | (refine wpList_load_w2 (by rfl) (.tmp 4) rfl (w.heap.size + 1) rfl x z HI.out.2.1 ?_)
        | (refine wpList_store_blk rfl 30 (.tmp 2) (.tmp 44) rfl w.heap.size 0 rfl (iv [x, z]) rfl HI.out.1 2 Tryd.sizeSpan rfl (by simp [iv]) (iv_one _) ?_; intro w9 hst9; have HX9 : Hid (Blk w9 w.heap.size (iv [x, z]) 30 ∧ Below w.heap.size w w9) := Lib.hid ⟨hst9.1, hst9.below HI.out.2.2 (by omega)⟩; clear hst9))
      rw [HE.out, retM_some]
      exact ret_m rfl w.heap.size rfl _ rfl HX9.out.1 rfl ⟨rfl, HX9.out.2⟩
theorem rfirst_any (l : List (Int × Int)) (A : Option Addr) (n c : Nat) (hn : n = l.length) (hc : n ≤ c) (hm : c ≤ maxLen) (w : World) (hr : Rd w A (sv l)) : Calls Tryd.prog 20 #[.slice A n c] w fun e w' => e = retM (firstP l) ∧ Below w.heap.size w w' := by
  cases l with
  | nil =>
    obtain rfl : n = 0 := hn
    exact rfirst_nil A c w
  | cons x t =>
    obtain ⟨b, o, rfl, hcell⟩ := hr.open (by simp [sv])
    exact rfirst_aux (x :: t) n hn (by rw [hn]; simp) _ (by unfold firstP; rw [if_neg (by simp), fgo_start]; rfl) b o c hc hm w hcell
end Go.Proofs.YtkaaejfochdjcaaDoor
