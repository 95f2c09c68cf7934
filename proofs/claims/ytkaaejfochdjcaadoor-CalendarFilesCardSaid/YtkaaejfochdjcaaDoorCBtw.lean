/-
  calendar.between and around.
-/
import Derived.Test.YtkaaejfochdjcaaDoorCPer
namespace Go.Proofs.YtkaaejfochdjcaaDoor
open Go.RowKit
open Cal
set_option linter.unusedVariables false
set_option linter.unusedSimpArgs false

theorem btw_no1 {p q : List Int} (h : ¬ ExP p) : btw p q = eRange := by
  unfold btw btwR
  rw [if_neg]
  rintro ⟨a, _⟩
  exact h (per_no a)
theorem btw_no2 {p q : List Int} (h : ¬ ExP q) : btw p q = eRange := by
  unfold btw btwR
  rw [if_neg]
  rintro ⟨_, a, _⟩
  exact h (per_no a)
theorem btw_no3 {p q : List Int} (hp : ExP p) (hq : ExP q) (h : vaB (fst p) (lst q) = false) : btw p q = eRange := by
  have hn : ¬ okS (fst p) (lst q) := of_decide_eq_false (by unfold vaB at h; exact h)
  have h1 := per_len hp
  have h2 := per_len hq
  unfold btw btwR
  rw [if_neg]
  rintro ⟨_, _, a⟩
  exact hn ⟨h1.1, a, h2.2.1⟩
theorem btw_yes {p q : List Int} (hp : ExP p) (hq : ExP q) (h : vaB (fst p) (lst q) = true) : btw p q = (fst p, lst q, 0) := by
  have hn : okS (fst p) (lst q) := of_decide_eq_true (by unfold vaB at h; exact h)
  exact btw_mk hp hq rfl rfl hn.2.1

theorem below_from {w w0 w1 : World} (h0 : Below w.heap.size w w0) (h : Below w0.heap.size w0 w1) : Below w.heap.size w w1 := below_next h0 h

set_option maxRecDepth 100000 in
set_option maxHeartbeats 1000000 in
theorem between_any (p q : List Int) (hp : Part p) (hq : Part q) (A B : Option Addr) (n c m d : Nat) (hn : n = p.length) (hc : n ≤ c) (hcm : c ≤ maxLen) (hm : m = q.length) (hd : m ≤ d) (hdm : d ≤ maxLen) (w : World) (hr : Rd w A (iv p)) (hr2 : Rd w B (iv q)) (hM : MD w) :
    Calls Tryd.prog 45 #[.slice A n c, .slice B m d] w fun e w' => e = retR (btw p q) ∧ Below w.heap.size w w' := by
  by_cases hxp : ExP p
  · have HP : Hid (∀ W, Below w.heap.size w W → Calls Tryd.prog 68 #[.slice A n c] W fun e w' => e = .returned (.tuple #[.agg #[.int .i64 (fst p), .int .i64 (lst p)], .int .i64 0]) ∧ Below W.heap.size W w') := Lib.hid fun W hb => period_yes p hxp A n c hn hc hcm W (hr.below hb) (hM.below hb)
    by_cases hxq : ExP q
    · have HQ : Hid (∀ W, Below w.heap.size w W → Calls Tryd.prog 68 #[.slice B m d] W fun e w' => e = .returned (.tuple #[.agg #[.int .i64 (fst q), .int .i64 (lst q)], .int .i64 0]) ∧ Below W.heap.size W w') := Lib.hid fun W hb => period_yes q hxq B m d hm hd hdm W (hr2.below hb) (hM.below hb)
      cases hv : vaB (fst p) (lst q)
      · rw [btw_no3 hxp hxq hv]
        have HV : Hid (∀ W, Calls Tryd.prog 21 #[.agg #[.int .i64 (fst p), .int .i64 (lst q)]] W fun e w' => e = .returned (.bool false) ∧ Below W.heap.size W w') := Lib.hid fun W => valid_no _ _ hv W
        unfold eRange
        clear hv hxq
        unfold retR
        clear hr hr2 hM hn hm hxp hp hq
        generalize fst p = f at *
        generalize lst p = l at *
        generalize fst q = f2 at *
        generalize lst q = l2 at *
        go_enter Tryd.func45, Tryd.ntmps45
        go_wp2_with (first
            | ((with_reducible refine (HP.out _ (below_a1 _ _)).mono ?_); rintro e w1 ⟨rfl, hb1⟩; have HX1 : Hid (Blk w1 w.heap.size (iv [0, 0]) 30 ∧ Below w.heap.size w w1) := Lib.hid ⟨(Blk.at w (iv [0, 0]) _ 30 _ rfl rfl).below hb1 (by simp), below_next (below_a1 _ _) hb1⟩; clear hb1)
            | ((with_reducible refine (HQ.out _ (below_al HX1.out.2 _)).mono ?_); rintro e w2 ⟨rfl, hb2⟩; have HX2 : Hid (Blk w2 w.heap.size (iv [0, 0]) 30 ∧ Below w.heap.size w w2) := Lib.hid ⟨(HX1.out.1.alloc _).below hb2 (by simp; have := HX1.out.1.lt; omega), below_next (below_al HX1.out.2 _) hb2⟩; have hlt2 : w1.heap.size < w2.heap.size := (by have := hb2.size; simp at this; omega); have hcA : w2.cell? ⟨w1.heap.size, 0, none⟩ = some (.int .i64 f) := ((Blk.at w1 (iv [f, l]) _ 30 _ rfl rfl).below hb2 (by simp)).cell rfl; clear hb2)
            | ((with_reducible refine (HV.out _).mono ?_); rintro e w3 ⟨rfl, hb3⟩; have HX3 : Hid (Blk w3 w.heap.size (iv [0, 0]) 30 ∧ Blk w3 (w2.heap.size + 1) (iv [f, l2]) 30 ∧ Below w.heap.size w w3) := Lib.hid ⟨((HX2.out.1.alloc _).alloc _).below hb3 (by simp; have := HX2.out.1.lt; omega), (Blk.at _ (iv [f, l2]) _ 30 _ rfl (by simp)).below hb3 (by simp), below_next (below_al (below_al HX2.out.2 _) _) hb3⟩; clear hb3)
            | (refine wpList_store_blk rfl 30 (.tmp 4) (.tmp 36) rfl w.heap.size 0 rfl (iv [0, 0]) rfl HX3.out.1 2 Tryd.sizeSpan rfl (by simp [iv]) (iv_one _) ?_; intro w4 hst4; have HX4 : Hid (Blk w4 w.heap.size (iv [0, 0]) 30 ∧ Below w.heap.size w w4) := Lib.hid ⟨hst4.1, hst4.below HX3.out.2.2 (by omega)⟩; clear hst4))
        exact ret_span rfl w.heap.size rfl _ rfl HX4.out.1 _ Tryd.underlying30 rfl Tryd.sizeSpan rfl ⟨rfl, HX4.out.2⟩
      · rw [btw_yes hxp hxq hv]
        have HV : Hid (∀ W, Calls Tryd.prog 21 #[.agg #[.int .i64 (fst p), .int .i64 (lst q)]] W fun e w' => e = .returned (.bool true) ∧ Below W.heap.size W w') := Lib.hid fun W => valid_yes _ _ hv W
        clear hv hxq
        unfold retR
        clear hr hr2 hM hn hm hxp hp hq
        generalize fst p = f at *
        generalize lst p = l at *
        generalize fst q = f2 at *
        generalize lst q = l2 at *
        go_enter Tryd.func45, Tryd.ntmps45
        go_wp2_with (first
            | ((with_reducible refine (HP.out _ (below_a1 _ _)).mono ?_); rintro e w1 ⟨rfl, hb1⟩; have HX1 : Hid (Blk w1 w.heap.size (iv [0, 0]) 30 ∧ Below w.heap.size w w1) := Lib.hid ⟨(Blk.at w (iv [0, 0]) _ 30 _ rfl rfl).below hb1 (by simp), below_next (below_a1 _ _) hb1⟩; clear hb1)
            | ((with_reducible refine (HQ.out _ (below_al HX1.out.2 _)).mono ?_); rintro e w2 ⟨rfl, hb2⟩; have HX2 : Hid (Blk w2 w.heap.size (iv [0, 0]) 30 ∧ Below w.heap.size w w2) := Lib.hid ⟨(HX1.out.1.alloc _).below hb2 (by simp; have := HX1.out.1.lt; omega), below_next (below_al HX1.out.2 _) hb2⟩; have hlt2 : w1.heap.size < w2.heap.size := (by have := hb2.size; simp at this; omega); have hcA : w2.cell? ⟨w1.heap.size, 0, none⟩ = some (.int .i64 f) := ((Blk.at w1 (iv [f, l]) _ 30 _ rfl rfl).below hb2 (by simp)).cell rfl; clear hb2)
            | ((with_reducible refine (HV.out _).mono ?_); rintro e w3 ⟨rfl, hb3⟩; have HX3 : Hid (Blk w3 w.heap.size (iv [0, 0]) 30 ∧ Blk w3 (w2.heap.size + 1) (iv [f, l2]) 30 ∧ Below w.heap.size w w3) := Lib.hid ⟨((HX2.out.1.alloc _).alloc _).below hb3 (by simp; have := HX2.out.1.lt; omega), (Blk.at _ (iv [f, l2]) _ 30 _ rfl (by simp)).below hb3 (by simp), below_next (below_al (below_al HX2.out.2 _) _) hb3⟩; clear hb3)
            | (refine wpList_load_blk rfl 30 (.tmp 9) rfl (w2.heap.size + 1) 0 rfl HX3.out.2.1 _ Tryd.underlying30 rfl 2 Tryd.sizeSpan (by simp [iv]) ?_)
            | (refine wpList_store_blk rfl 30 (.tmp 4) (.tmp 37) rfl w.heap.size 0 rfl (iv [f, l2]) rfl HX3.out.1 2 Tryd.sizeSpan rfl (by simp [iv]) (iv_one _) ?_; intro w4 hst4; have HX4 : Hid (Blk w4 w.heap.size (iv [f, l2]) 30 ∧ Below w.heap.size w w4) := Lib.hid ⟨hst4.1, hst4.below HX3.out.2.2 (by omega)⟩; clear hst4))
        exact ret_span rfl w.heap.size rfl _ rfl HX4.out.1 _ Tryd.underlying30 rfl Tryd.sizeSpan rfl ⟨rfl, HX4.out.2⟩
    · rw [btw_no2 hxq]
      have HQ : Hid (∀ W, Below w.heap.size w W → Calls Tryd.prog 68 #[.slice B m d] W fun e w' => e = .returned (.tuple #[.agg #[.int .i64 0, .int .i64 0], .int .i64 5]) ∧ Below W.heap.size W w') := Lib.hid fun W hb => period_no q hq hxq B m d hm hd hdm W (hr2.below hb) (hM.below hb)
      unfold eRange
      clear hxq
      unfold retR
      clear hr hr2 hM hn hm hxp hp hq
      generalize fst p = f at *
      generalize lst p = l at *
      go_enter Tryd.func45, Tryd.ntmps45
      go_wp2_with (first
          | ((with_reducible refine (HP.out _ (below_a1 _ _)).mono ?_); rintro e w1 ⟨rfl, hb1⟩; have HX1 : Hid (Blk w1 w.heap.size (iv [0, 0]) 30 ∧ Below w.heap.size w w1) := Lib.hid ⟨(Blk.at w (iv [0, 0]) _ 30 _ rfl rfl).below hb1 (by simp), below_next (below_a1 _ _) hb1⟩; clear hb1)
          | ((with_reducible refine (HQ.out _ (below_al HX1.out.2 _)).mono ?_); rintro e w2 ⟨rfl, hb2⟩; have HX2 : Hid (Blk w2 w.heap.size (iv [0, 0]) 30 ∧ Below w.heap.size w w2) := Lib.hid ⟨(HX1.out.1.alloc _).below hb2 (by simp; have := HX1.out.1.lt; omega), below_next (below_al HX1.out.2 _) hb2⟩; have hlt2 : w1.heap.size < w2.heap.size := (by have := hb2.size; simp at this; omega); have hcA : w2.cell? ⟨w1.heap.size, 0, none⟩ = some (.int .i64 f) := ((Blk.at w1 (iv [f, l]) _ 30 _ rfl rfl).below hb2 (by simp)).cell rfl; clear hb2)
          | (refine wpList_store_blk rfl 30 (.tmp 4) (.tmp 26) rfl w.heap.size 0 rfl (iv [0, 0]) rfl (HX2.out.1.alloc _) 2 Tryd.sizeSpan rfl (by simp [iv]) (iv_one _) ?_; intro w4 hst4; have HX4 : Hid (Blk w4 w.heap.size (iv [0, 0]) 30 ∧ Below w.heap.size w w4) := Lib.hid ⟨hst4.1, hst4.below (below_al HX2.out.2 _) (by omega)⟩; clear hst4))
      exact ret_span rfl w.heap.size rfl _ rfl HX4.out.1 _ Tryd.underlying30 rfl Tryd.sizeSpan rfl ⟨rfl, HX4.out.2⟩
  · rw [btw_no1 hxp]
    have HP : Hid (∀ W, Below w.heap.size w W → Calls Tryd.prog 68 #[.slice A n c] W fun e w' => e = .returned (.tuple #[.agg #[.int .i64 0, .int .i64 0], .int .i64 5]) ∧ Below W.heap.size W w') := Lib.hid fun W hb => period_no p hp hxp A n c hn hc hcm W (hr.below hb) (hM.below hb)
    unfold eRange
    unfold retR
    clear hr hr2 hM hn hm hxp hp hq
    go_enter Tryd.func45, Tryd.ntmps45
    go_wp2_with (first
        | ((with_reducible refine (HP.out _ (below_a1 _ _)).mono ?_); rintro e w1 ⟨rfl, hb1⟩; have HX1 : Hid (Blk w1 w.heap.size (iv [0, 0]) 30 ∧ Below w.heap.size w w1) := Lib.hid ⟨(Blk.at w (iv [0, 0]) _ 30 _ rfl rfl).below hb1 (by simp), below_next (below_a1 _ _) hb1⟩; clear hb1)
        | (refine wpList_store_blk rfl 30 (.tmp 4) (.tmp 17) rfl w.heap.size 0 rfl (iv [0, 0]) rfl (HX1.out.1.alloc _) 2 Tryd.sizeSpan rfl (by simp [iv]) (iv_one _) ?_; intro w4 hst4; have HX4 : Hid (Blk w4 w.heap.size (iv [0, 0]) 30 ∧ Below w.heap.size w w4) := Lib.hid ⟨hst4.1, hst4.below (below_al HX1.out.2 _) (by omega)⟩; clear hst4))
    exact ret_span rfl w.heap.size rfl _ rfl HX4.out.1 _ Tryd.underlying30 rfl Tryd.sizeSpan rfl ⟨rfl, HX4.out.2⟩

/-! ## the years about a year -/
theorem aro_btw {y : Int} (h1 : 1 ≤ y) (h2 : y ≤ 2800) : btw [max 1 (y - 5)] [min 2800 (y + 4)] = aro y := by
  have a := ex_first (y := max 1 (y - 5)) (by omega) (by omega)
  have b := ex_first (y := min 2800 (y + 4)) (by omega) (by omega)
  have e1 := (fst1 (y := max 1 (y - 5)) a).1
  have e2 := (fst1 (y := min 2800 (y + 4)) b).2
  have hd := dby_far (a := max 1 (y - 5)) (b := min 2800 (y + 4) + 1) (by omega)
  rw [btw_mk (p := [max 1 (y - 5)]) (q := [min 2800 (y + 4)]) a b rfl rfl (by rw [e1, e2, num_first, num_last]; omega), e1, e2]
  unfold aro
  rw [if_pos ⟨h1, h2⟩]
theorem aro_no {y : Int} (h : ¬ (1 ≤ y ∧ y ≤ 2800)) : aro y = eRange := by unfold aro; rw [if_neg h]
theorem rd_blk {w : World} {g : Nat} {C : List Value} {T : TypeId} (h : Blk w g C T) : Rd w (some ⟨g, 0, none⟩) C := .inr ⟨g, 0, rfl, fun k v hv => by rw [Nat.zero_add]; exact h.cell hv⟩
set_option maxRecDepth 100000 in
set_option maxHeartbeats 1000000 in
theorem around_no (y : Int) (h : ¬ (1 ≤ y ∧ y ≤ 2800)) (w : World) : Calls Tryd.prog 44 #[.int .i64 y] w fun e w' => e = retR (aro y) ∧ Below w.heap.size w w' := by
  rw [aro_no h]
  unfold retR eRange
  have HY := Lib.hid h
  clear h
  go_enter Tryd.func44, Tryd.ntmps44
  go_wp2_with ((with_reducible refine (vyear_no y HY.out _).mono ?_); rintro e w' ⟨rfl, rfl⟩)
  exact ret_span rfl w.heap.size rfl _ rfl (Blk.at w (iv [0, 0]) _ 30 _ rfl rfl) _ Tryd.underlying30 rfl Tryd.sizeSpan rfl ⟨rfl, below_a1 _ _⟩
set_option maxRecDepth 100000 in
set_option maxHeartbeats 1000000 in
theorem around_yes (y : Int) (h1 : 1 ≤ y) (h2 : y ≤ 2800) (w : World) (hM : MD w) : Calls Tryd.prog 44 #[.int .i64 y] w fun e w' => e = retR (aro y) ∧ Below w.heap.size w w' := by
  have HB : Hid (∀ M N : Int, M = max 1 (y - 5) → N = min 2800 (y + 4) → Calls Tryd.prog 45 #[.slice (some ⟨w.heap.size + 1, 0, none⟩) 1 1, .slice (some ⟨w.heap.size + 2, 0, none⟩) 1 1]
      (((w.alloc (.cells #[.int .i64 0, .int .i64 0] 30)).alloc (.cells #[.int .i64 M] 3)).alloc (.cells #[.int .i64 N] 3)) fun e w' => e = retR (aro y) ∧ Blk w' w.heap.size (iv [0, 0]) 30 ∧ Below w.heap.size w w') := Lib.hid fun M N eM eN => by
    have hb : Below w.heap.size w (((w.alloc (.cells #[.int .i64 0, .int .i64 0] 30)).alloc (.cells #[.int .i64 M] 3)).alloc (.cells #[.int .i64 N] 3)) := below_al (below_al (below_a1 _ _) _) _
    refine (between_any [M] [N] ⟨by omega, by omega⟩ ⟨by omega, by omega⟩ _ _ 1 1 1 1 rfl (by omega) (by unfold maxLen; omega) rfl (by omega) (by unfold maxLen; omega) _ (rd_blk ((Blk.at _ (iv [M]) _ 3 _ rfl (by simp)).alloc _)) (rd_blk (Blk.at _ (iv [N]) _ 3 _ rfl (by simp))) (hM.below hb)).mono ?_
    rintro e w' ⟨rfl, hb'⟩
    subst eM eN
    exact ⟨by rw [aro_btw h1 h2], (((Blk.at w (iv [0, 0]) _ 30 _ rfl rfl).alloc _).alloc _).below hb' (by simp; omega), below_next hb hb'⟩
  clear hM
  obtain ⟨r, hr⟩ : ∃ r, r = aro y := ⟨_, rfl⟩
  rw [← hr] at HB ⊢
  clear hr
  obtain ⟨a, b, c⟩ := r
  unfold retR at HB ⊢
  · go_enter Tryd.func44, Tryd.ntmps44
    go_wp2_with (first
      | ((with_reducible refine (vyear_yes y h1 h2 _).mono ?_); rintro e w' ⟨rfl, rfl⟩)
      | ((refine (HB.out _ _ (by omega) (by omega)).mono ?_); rintro e w1 ⟨rfl, hb1, hb2⟩)
      | (refine wpList_store_blk rfl 30 (.tmp 2) (.tmp 17) rfl w.heap.size 0 rfl (iv [a, b]) rfl hb1 2 Tryd.sizeSpan rfl (by simp [iv]) (iv_one _) ?_; intro w4 hst4; have HX4 : Hid (Blk w4 w.heap.size (iv [a, b]) 30 ∧ Below w.heap.size w w4) := Lib.hid ⟨hst4.1, hst4.below hb2 (by omega)⟩; clear hst4))
    exact ret_span rfl w.heap.size rfl _ rfl HX4.out.1 _ Tryd.underlying30 rfl Tryd.sizeSpan rfl ⟨rfl, HX4.out.2⟩
theorem around_any (y : Int) (w : World) (hM : MD w) : Calls Tryd.prog 44 #[.int .i64 y] w fun e w' => e = retR (aro y) ∧ Below w.heap.size w w' := by
  by_cases h : 1 ≤ y ∧ y ≤ 2800
  · exact around_yes y h.1 h.2 w hM
  · exact around_no y h w
end Go.Proofs.YtkaaejfochdjcaaDoor
