/-
  calendar.Parse: it reads a text as the pure reading says.
-/
import Derived.Test.YtkaaejfochdjcaaDoorCRdD
namespace Go.Proofs.YtkaaejfochdjcaaDoor
open Go.RowKit
open Cal
set_option linter.unusedVariables false
set_option linter.unusedSimpArgs false

theorem hp_one (c : UInt8) (r : List UInt8) : Lib.hasPrefix r [c] = decide (r.head? = some c) := by
  cases r with
  | nil => rfl
  | cons d t =>
    by_cases h : d = c
    · subst h
      have h2 : ((d : UInt8) == d) = true := beq_self_eq_true d
      simp [Lib.hasPrefix, List.isPrefixOf, h2]
    · have h2 : (c == d) = false := beq_eq_false_iff_ne.2 (Ne.symm h)
      have h3 : ¬ ((d :: t).head? = some c) := fun e => h (Option.some.inj e)
      rw [decide_eq_false h3]
      simp [Lib.hasPrefix, List.isPrefixOf, h2]
theorem cut_yes (c : UInt8) (t : List UInt8) (w : World) : Calls Tryd.prog 42 #[.string (tb (c :: t)), .string ⟨#[c]⟩] w fun e w' => e = .returned (.tuple #[.string (tb t), .bool true]) ∧ w = w' :=
  (Tryd.strings_CutPrefix _ _ w).mono fun e w' ⟨he, hw⟩ => ⟨by
    rw [he, tb_list]
    have h1 : Lib.hasPrefix (c :: t) [c] = true := by rw [hp_one]; simp
    have h2 : Lib.trimPrefix (c :: t) [c] = t := by unfold Lib.trimPrefix; rw [if_pos h1]; rfl
    show Ending.returned (.tuple #[.string ⟨(Lib.trimPrefix (c :: t) [c]).toArray⟩, .bool (Lib.hasPrefix (c :: t) [c])]) = _
    rw [h1, h2]
    rfl, hw.symm⟩
theorem cut_no (c : UInt8) (r : List UInt8) (h : r.head? ≠ some c) (w : World) : Calls Tryd.prog 42 #[.string (tb r), .string ⟨#[c]⟩] w fun e w' => e = .returned (.tuple #[.string (tb r), .bool false]) ∧ w = w' :=
  (Tryd.strings_CutPrefix _ _ w).mono fun e w' ⟨he, hw⟩ => ⟨by
    rw [he, tb_list]
    have h1 : Lib.hasPrefix r [c] = false := by rw [hp_one, decide_eq_false h]
    have h2 : Lib.trimPrefix r [c] = r := by unfold Lib.trimPrefix; rw [if_neg (by rw [h1]; decide)]
    show Ending.returned (.tuple #[.string ⟨(Lib.trimPrefix r [c]).toArray⟩, .bool (Lib.hasPrefix r [c])]) = _
    rw [h1, h2]
    rfl, hw.symm⟩
theorem pars_c_no {t : List UInt8} (h : ∀ y, rd t ≠ some ([y], [])) : pars (99 :: t) = eForm := by
  unfold pars
  simp only [List.head?_cons, if_true, List.tail_cons]
theorem pars_c_yes {t : List UInt8} {y : Int} (h : rd t = some ([y], [])) : pars (99 :: t) = aro y := by
  unfold pars
  simp only [List.head?_cons, if_true, List.tail_cons, h]
theorem pars_none {l : List UInt8} (hc : l.head? ≠ some 99) (h : rd l = none) : pars l = eForm := by unfold pars; rw [if_neg hc, h]
theorem pars_rest {l r : List UInt8} {p : List Int} (hc : l.head? ≠ some 99) (h : rd l = some (p, r)) (h1 : r.head? ≠ some 47) (h2 : r ≠ []) : pars l = eForm := by unfold pars; rw [if_neg hc, h]; simp only; rw [if_neg h1, if_neg h2]
theorem pars_self {l : List UInt8} {p : List Int} (hc : l.head? ≠ some 99) (h : rd l = some (p, [])) : pars l = btw p p := by unfold pars; rw [if_neg hc, h]; simp
theorem pars_no2 {l t : List UInt8} {p : List Int} (hc : l.head? ≠ some 99) (h : rd l = some (p, 47 :: t)) (h2 : ∀ q, rd t ≠ some (q, [])) : pars l = eForm := by
  unfold pars
  rw [if_neg hc, h]
  simp only [List.head?_cons, if_true, List.tail_cons]
theorem pars_yes2 {l t : List UInt8} {p q : List Int} (hc : l.head? ≠ some 99) (h : rd l = some (p, 47 :: t)) (h2 : rd t = some (q, [])) : pars l = btw p q := by
  unfold pars
  rw [if_neg hc, h]
  simp only [List.head?_cons, if_true, List.tail_cons, h2]

set_option maxRecDepth 100000 in
set_option maxHeartbeats 2000000 in
theorem parse_c (t : List UInt8) (Q : R) (hQ : Q = pars (99 :: t)) (w : World) (hM : MD w) : Calls Tryd.prog 25 #[.string (tb (99 :: t))] w fun e w' => e = retR Q ∧ Below w.heap.size w w' := by
  have HQ := Lib.hid hQ
  have HM := Lib.hid hM
  clear hQ hM
  unfold retR
  go_enter Tryd.func25, Tryd.ntmps25
  go_wp2_with (first
    | ((with_reducible refine (cut_yes 99 t _).mono ?_); rintro e w' ⟨rfl, rfl⟩)
    | (refine (readDate_any t _).mono ?_; rintro e w1 ⟨A1, c1, n1, p1, r1, b1, rfl, hn1, hrd1, hnc1, hcm1, hb1, hcase1⟩; have HX1 : Hid (Blk w1 w.heap.size (iv [0, 0]) 30 ∧ Below w.heap.size w w1) := Lib.hid ⟨(Blk.at w (iv [0, 0]) _ 30 _ rfl rfl).below hb1 (by simp), below_next (below_a1 _ _) hb1⟩; have HN1 := Lib.hid hn1; clear hb1 hn1; refine Hid.out ?_))
  refine Lib.hid ?_
  rcases hcase1 with ⟨rfl, hr⟩ | ⟨rfl, hr⟩
  · have hp := (rd_inv hr).2
    cases r1 with
    | cons c0 t0 =>
      have hte : (tb (c0 :: t0)).toList = c0 :: t0 := tb_toList _
      have HE : Hid (Q = eForm) := Lib.hid (by rw [HQ.out]; exact pars_c_no fun y e => by rw [hr] at e; simp at e)
      clear hr hp hrd1
      go_wp2_with (refine wpList_store_blk rfl 30 (.tmp 2) (.tmp 38) rfl w.heap.size 0 rfl (iv [0, 0]) rfl HX1.out.1 2 Tryd.sizeSpan rfl (by simp [iv]) (iv_one _) ?_; intro w9 hst9; have HX9 : Hid (Blk w9 w.heap.size (iv [0, 0]) 30 ∧ Below w.heap.size w w9) := Lib.hid ⟨hst9.1, hst9.below HX1.out.2 (by omega)⟩; clear hst9)
      exact ret_span rfl w.heap.size rfl _ rfl HX9.out.1 _ Tryd.underlying30 rfl Tryd.sizeSpan rfl ⟨by rw [HE.out]; rfl, HX9.out.2⟩
    | nil =>
      have hte : (tb []).toList = [] := tb_toList _
      rcases part_cases hp with ⟨y, rfl⟩ | ⟨y, m, rfl⟩ | ⟨y, m, d, rfl⟩
      · obtain rfl : n1 = 1 := HN1.out
        obtain ⟨b0, o0, rfl, hcell⟩ := hrd1.open (by simp [iv])
        have hc0 : w1.cell? ⟨b0, o0, none⟩ = some (.int .i64 y) := hcell 0 _ rfl
        have hcm' : c1 ≤ 9223372036854775807 := by unfold maxLen at hcm1; omega
        have HE : Hid (Q = aro y) := Lib.hid (by rw [HQ.out]; exact pars_c_yes hr)
        have HC : Hid (Calls Tryd.prog 44 #[.int .i64 y] w1 fun e w' => e = retR Q ∧ Below w1.heap.size w1 w') := Lib.hid (by rw [HE.out]; exact around_any y w1 (HM.out.below HX1.out.2))
        clear hr hp hrd1 hcell HE HQ
        obtain ⟨a, b, c⟩ := Q
        unfold retR at HC
        go_wp2_with (first
          | ((refine HC.out.mono ?_); rintro e w7 ⟨rfl, hb7⟩; have HX7 : Hid (Blk w7 w.heap.size (iv [0, 0]) 30 ∧ Below w.heap.size w w7) := Lib.hid ⟨HX1.out.1.below hb7 HX1.out.1.lt, below_next HX1.out.2 hb7⟩; clear hb7)
          | (refine wpList_store_blk rfl 30 (.tmp 2) (.tmp 43) rfl w.heap.size 0 rfl (iv [a, b]) rfl HX7.out.1 2 Tryd.sizeSpan rfl (by simp [iv]) (iv_one _) ?_; intro w9 hst9; have HX9 : Hid (Blk w9 w.heap.size (iv [a, b]) 30 ∧ Below w.heap.size w w9) := Lib.hid ⟨hst9.1, hst9.below HX7.out.2 (by omega)⟩; clear hst9))
        exact ret_span rfl w.heap.size rfl _ rfl HX9.out.1 _ Tryd.underlying30 rfl Tryd.sizeSpan rfl ⟨rfl, HX9.out.2⟩
      · obtain rfl : n1 = 2 := HN1.out
        have HE : Hid (Q = eForm) := Lib.hid (by rw [HQ.out]; exact pars_c_no fun y e => by rw [hr] at e; simp at e)
        clear hr hp hrd1
        go_wp2_with (refine wpList_store_blk rfl 30 (.tmp 2) (.tmp 38) rfl w.heap.size 0 rfl (iv [0, 0]) rfl HX1.out.1 2 Tryd.sizeSpan rfl (by simp [iv]) (iv_one _) ?_; intro w9 hst9; have HX9 : Hid (Blk w9 w.heap.size (iv [0, 0]) 30 ∧ Below w.heap.size w w9) := Lib.hid ⟨hst9.1, hst9.below HX1.out.2 (by omega)⟩; clear hst9)
        exact ret_span rfl w.heap.size rfl _ rfl HX9.out.1 _ Tryd.underlying30 rfl Tryd.sizeSpan rfl ⟨by rw [HE.out]; rfl, HX9.out.2⟩
      · obtain rfl : n1 = 3 := HN1.out
        have HE : Hid (Q = eForm) := Lib.hid (by rw [HQ.out]; exact pars_c_no fun y e => by rw [hr] at e; simp at e)
        clear hr hp hrd1
        go_wp2_with (refine wpList_store_blk rfl 30 (.tmp 2) (.tmp 38) rfl w.heap.size 0 rfl (iv [0, 0]) rfl HX1.out.1 2 Tryd.sizeSpan rfl (by simp [iv]) (iv_one _) ?_; intro w9 hst9; have HX9 : Hid (Blk w9 w.heap.size (iv [0, 0]) 30 ∧ Below w.heap.size w w9) := Lib.hid ⟨hst9.1, hst9.below HX1.out.2 (by omega)⟩; clear hst9)
        exact ret_span rfl w.heap.size rfl _ rfl HX9.out.1 _ Tryd.underlying30 rfl Tryd.sizeSpan rfl ⟨by rw [HE.out]; rfl, HX9.out.2⟩
  · have HE : Hid (Q = eForm) := Lib.hid (by rw [HQ.out]; exact pars_c_no fun y e => by rw [hr] at e; cases e)
    clear hr hrd1
    go_wp2_with (refine wpList_store_blk rfl 30 (.tmp 2) (.tmp 38) rfl w.heap.size 0 rfl (iv [0, 0]) rfl HX1.out.1 2 Tryd.sizeSpan rfl (by simp [iv]) (iv_one _) ?_; intro w9 hst9; have HX9 : Hid (Blk w9 w.heap.size (iv [0, 0]) 30 ∧ Below w.heap.size w w9) := Lib.hid ⟨hst9.1, hst9.below HX1.out.2 (by omega)⟩; clear hst9)
    exact ret_span rfl w.heap.size rfl _ rfl HX9.out.1 _ Tryd.underlying30 rfl Tryd.sizeSpan rfl ⟨by rw [HE.out]; rfl, HX9.out.2⟩

set_option maxRecDepth 100000 in
set_option maxHeartbeats 4000000 in
theorem parse_n (l : List UInt8) (hc : l.head? ≠ some 99) (Q : R) (hQ : Q = pars l) (w : World) (hM : MD w) : Calls Tryd.prog 25 #[.string (tb l)] w fun e w' => e = retR Q ∧ Below w.heap.size w w' := by
  have HQ := Lib.hid hQ
  have HM := Lib.hid hM
  have HC99 := Lib.hid hc
  clear hQ hM hc
  unfold retR
  go_enter Tryd.func25, Tryd.ntmps25
  go_wp2_with (first
    | ((with_reducible refine (cut_no 99 l HC99.out _).mono ?_); rintro e w' ⟨rfl, rfl⟩)
    | (refine (readDate_any l _).mono ?_; rintro e w1 ⟨A1, c1, n1, p1, r1, b1, rfl, hn1, hrd1, hnc1, hcm1, hb1, hcase1⟩; have HX1 : Hid (Blk w1 w.heap.size (iv [0, 0]) 30 ∧ Below w.heap.size w w1) := Lib.hid ⟨(Blk.at w (iv [0, 0]) _ 30 _ rfl rfl).below hb1 (by simp), below_next (below_a1 _ _) hb1⟩; have HN1 := Lib.hid hn1; clear hb1 hn1; refine Hid.out ?_))
  refine Lib.hid ?_
  rcases hcase1 with ⟨rfl, hr⟩ | ⟨rfl, hr⟩
  · have hp1 := (rd_inv hr).2
    cases r1 with
    | nil =>
      have hte : (tb []).toList = [] := tb_toList _
      have HE : Hid (Q = btw p1 p1) := Lib.hid (by rw [HQ.out]; exact pars_self HC99.out hr)
      have HC : Hid (Calls Tryd.prog 45 #[.slice A1 n1 c1, .slice A1 n1 c1] w1 fun e w' => e = retR Q ∧ Below w1.heap.size w1 w') := Lib.hid (by rw [HE.out]; exact between_any p1 p1 hp1 hp1 A1 A1 n1 c1 n1 c1 HN1.out hnc1 hcm1 HN1.out hnc1 hcm1 w1 hrd1 hrd1 (HM.out.below HX1.out.2))
      clear hr hrd1 HE HQ
      obtain ⟨a, b, c⟩ := Q
      unfold retR at HC
      go_wp2_with (first
        | ((with_reducible refine (cut_no 47 [] (by simp) _).mono ?_); rintro e w' ⟨rfl, rfl⟩)
        | ((refine HC.out.mono ?_); rintro e w7 ⟨rfl, hb7⟩; have HX7 : Hid (Blk w7 w.heap.size (iv [0, 0]) 30 ∧ Below w.heap.size w w7) := Lib.hid ⟨HX1.out.1.below hb7 HX1.out.1.lt, below_next HX1.out.2 hb7⟩; clear hb7)
        | (refine wpList_store_blk rfl 30 (.tmp 2) (.tmp 77) rfl w.heap.size 0 rfl (iv [a, b]) rfl HX7.out.1 2 Tryd.sizeSpan rfl (by simp [iv]) (iv_one _) ?_; intro w9 hst9; have HX9 : Hid (Blk w9 w.heap.size (iv [a, b]) 30 ∧ Below w.heap.size w w9) := Lib.hid ⟨hst9.1, hst9.below HX7.out.2 (by omega)⟩; clear hst9))
      exact ret_span rfl w.heap.size rfl _ rfl HX9.out.1 _ Tryd.underlying30 rfl Tryd.sizeSpan rfl ⟨rfl, HX9.out.2⟩
    | cons c0 t =>
      have hte : (tb (c0 :: t)).toList = c0 :: t := tb_toList _
      by_cases h47 : c0 = 47
      · subst h47
        have HRD1 := Lib.hid hrd1
        have HR := Lib.hid hr
        clear hr hrd1
        go_wp2_with (first
          | ((with_reducible refine (cut_yes 47 t _).mono ?_); rintro e w' ⟨rfl, rfl⟩)
          | (refine (readDate_any t _).mono ?_; rintro e w2 ⟨A2, c2, n2, p2, r2, b2, rfl, hn2, hrd2, hnc2, hcm2, hb2, hcase2⟩; have HX2 : Hid (Blk w2 w.heap.size (iv [0, 0]) 30 ∧ Below w.heap.size w w2) := Lib.hid ⟨HX1.out.1.below hb2 (by exact HX1.out.1.lt), below_next HX1.out.2 hb2⟩; have HRD2 : Hid (Rd w2 A1 (iv p1)) := Lib.hid (HRD1.out.below hb2); have HN2 := Lib.hid hn2; clear hb2 hn2; refine Hid.out ?_))
        refine Lib.hid ?_
        rcases hcase2 with ⟨rfl, hr⟩ | ⟨rfl, hr⟩
        · have hp2 := (rd_inv hr).2
          cases r2 with
          | nil =>
            have hte2 : (tb []).toList = [] := tb_toList _
            have hrd1 : True := trivial
            have HE : Hid (Q = btw p1 p2) := Lib.hid (by rw [HQ.out]; exact pars_yes2 HC99.out HR.out hr)
            have HC : Hid (Calls Tryd.prog 45 #[.slice A1 n1 c1, .slice A2 n2 c2] w2 fun e w' => e = retR Q ∧ Below w2.heap.size w2 w') := Lib.hid (by rw [HE.out]; exact between_any p1 p2 hp1 hp2 A1 A2 n1 c1 n2 c2 HN1.out hnc1 hcm1 HN2.out hnc2 hcm2 w2 HRD2.out hrd2 (HM.out.below HX2.out.2))
            clear hr hrd1 hrd2 HE HQ
            obtain ⟨a, b, c⟩ := Q
            unfold retR at HC
            go_wp2_with (first
              | ((refine HC.out.mono ?_); rintro e w7 ⟨rfl, hb7⟩; have HX7 : Hid (Blk w7 w.heap.size (iv [0, 0]) 30 ∧ Below w.heap.size w w7) := Lib.hid ⟨HX2.out.1.below hb7 HX2.out.1.lt, below_next HX2.out.2 hb7⟩; clear hb7)
              | (refine wpList_store_blk rfl 30 (.tmp 2) (.tmp 77) rfl w.heap.size 0 rfl (iv [a, b]) rfl HX7.out.1 2 Tryd.sizeSpan rfl (by simp [iv]) (iv_one _) ?_; intro w9 hst9; have HX9 : Hid (Blk w9 w.heap.size (iv [a, b]) 30 ∧ Below w.heap.size w w9) := Lib.hid ⟨hst9.1, hst9.below HX7.out.2 (by omega)⟩; clear hst9))
            exact ret_span rfl w.heap.size rfl _ rfl HX9.out.1 _ Tryd.underlying30 rfl Tryd.sizeSpan rfl ⟨rfl, HX9.out.2⟩
          | cons c2 t2 =>
            have hte2 : (tb (c2 :: t2)).toList = c2 :: t2 := tb_toList _
            have hrd1 : True := trivial
            have HE : Hid (Q = eForm) := Lib.hid (by rw [HQ.out]; exact pars_no2 HC99.out HR.out fun q e => by rw [hr] at e; simp at e)
            clear hr hrd1
            go_wp2_with (refine wpList_store_blk rfl 30 (.tmp 2) (.tmp 73) rfl w.heap.size 0 rfl (iv [0, 0]) rfl HX2.out.1 2 Tryd.sizeSpan rfl (by simp [iv]) (iv_one _) ?_; intro w9 hst9; have HX9 : Hid (Blk w9 w.heap.size (iv [0, 0]) 30 ∧ Below w.heap.size w w9) := Lib.hid ⟨hst9.1, hst9.below HX2.out.2 (by omega)⟩; clear hst9)
            exact ret_span rfl w.heap.size rfl _ rfl HX9.out.1 _ Tryd.underlying30 rfl Tryd.sizeSpan rfl ⟨by rw [HE.out]; rfl, HX9.out.2⟩
        · have hrd1 : True := trivial
          have HE : Hid (Q = eForm) := Lib.hid (by rw [HQ.out]; exact pars_no2 HC99.out HR.out fun q e => by rw [hr] at e; cases e)
          clear hr hrd1
          go_wp2_with (refine wpList_store_blk rfl 30 (.tmp 2) (.tmp 73) rfl w.heap.size 0 rfl (iv [0, 0]) rfl HX2.out.1 2 Tryd.sizeSpan rfl (by simp [iv]) (iv_one _) ?_; intro w9 hst9; have HX9 : Hid (Blk w9 w.heap.size (iv [0, 0]) 30 ∧ Below w.heap.size w w9) := Lib.hid ⟨hst9.1, hst9.below HX2.out.2 (by omega)⟩; clear hst9)
          exact ret_span rfl w.heap.size rfl _ rfl HX9.out.1 _ Tryd.underlying30 rfl Tryd.sizeSpan rfl ⟨by rw [HE.out]; rfl, HX9.out.2⟩
      · have HH : Hid ((c0 :: t).head? ≠ some 47) := Lib.hid fun e => h47 (Option.some.inj e)
        clear h47
        have HE : Hid (Q = eForm) := Lib.hid (by rw [HQ.out]; exact pars_rest HC99.out hr HH.out (by simp))
        clear hr hrd1
        go_wp2_with (first
            | ((with_reducible refine (cut_no 47 (c0 :: t) HH.out _).mono ?_); rintro e w' ⟨rfl, rfl⟩)
            | (refine wpList_store_blk rfl 30 (.tmp 2) (.tmp 73) rfl w.heap.size 0 rfl (iv [0, 0]) rfl HX1.out.1 2 Tryd.sizeSpan rfl (by simp [iv]) (iv_one _) ?_; intro w9 hst9; have HX9 : Hid (Blk w9 w.heap.size (iv [0, 0]) 30 ∧ Below w.heap.size w w9) := Lib.hid ⟨hst9.1, hst9.below HX1.out.2 (by omega)⟩; clear hst9))
        exact ret_span rfl w.heap.size rfl _ rfl HX9.out.1 _ Tryd.underlying30 rfl Tryd.sizeSpan rfl ⟨by rw [HE.out]; rfl, HX9.out.2⟩
  · by_cases h47 : r1.head? = some 47
    · obtain ⟨t, rfl⟩ : ∃ t, r1 = 47 :: t := by cases r1 <;> simp at h47; subst h47; exact ⟨_, rfl⟩
      clear h47
      have HE : Hid (Q = eForm) := Lib.hid (by rw [HQ.out]; exact pars_none HC99.out hr)
      clear hr hrd1
      go_wp2_with (first
          | ((with_reducible refine (cut_yes 47 t _).mono ?_); rintro e w' ⟨rfl, rfl⟩)
          | (refine wpList_store_blk rfl 30 (.tmp 2) (.tmp 73) rfl w.heap.size 0 rfl (iv [0, 0]) rfl HX1.out.1 2 Tryd.sizeSpan rfl (by simp [iv]) (iv_one _) ?_; intro w9 hst9; have HX9 : Hid (Blk w9 w.heap.size (iv [0, 0]) 30 ∧ Below w.heap.size w w9) := Lib.hid ⟨hst9.1, hst9.below HX1.out.2 (by omega)⟩; clear hst9))
      exact ret_span rfl w.heap.size rfl _ rfl HX9.out.1 _ Tryd.underlying30 rfl Tryd.sizeSpan rfl ⟨by rw [HE.out]; rfl, HX9.out.2⟩
    · have HH := Lib.hid h47
      clear h47
      have HE : Hid (Q = eForm) := Lib.hid (by rw [HQ.out]; exact pars_none HC99.out hr)
      clear hr hrd1
      go_wp2_with (first
          | ((with_reducible refine (cut_no 47 r1 HH.out _).mono ?_); rintro e w' ⟨rfl, rfl⟩)
          | (refine wpList_store_blk rfl 30 (.tmp 2) (.tmp 73) rfl w.heap.size 0 rfl (iv [0, 0]) rfl HX1.out.1 2 Tryd.sizeSpan rfl (by simp [iv]) (iv_one _) ?_; intro w9 hst9; have HX9 : Hid (Blk w9 w.heap.size (iv [0, 0]) 30 ∧ Below w.heap.size w w9) := Lib.hid ⟨hst9.1, hst9.below HX1.out.2 (by omega)⟩; clear hst9))
      exact ret_span rfl w.heap.size rfl _ rfl HX9.out.1 _ Tryd.underlying30 rfl Tryd.sizeSpan rfl ⟨by rw [HE.out]; rfl, HX9.out.2⟩
theorem parse_any (l : List UInt8) (w : World) (hM : MD w) : Calls Tryd.prog 25 #[.string (tb l)] w fun e w' => e = retR (pars l) ∧ Below w.heap.size w w' := by
  by_cases hc : l.head? = some 99
  · obtain ⟨t, rfl⟩ : ∃ t, l = 99 :: t := by cases l <;> simp at hc; subst hc; exact ⟨_, rfl⟩
    exact parse_c t _ rfl w hM
  · exact parse_n l hc _ rfl w hM
end Go.Proofs.YtkaaejfochdjcaaDoor
