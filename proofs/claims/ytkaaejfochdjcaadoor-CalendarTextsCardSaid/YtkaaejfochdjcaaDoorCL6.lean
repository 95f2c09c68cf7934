/-
  CalendarTexts: for every pair of numbers and every string the law returns true, and leaves what was there as it was; the tables are as the program's text lays them (the card ties them).
-/
import Derived.Test.YtkaaejfochdjcaaDoorCLaw
import Derived.Test.YtkaaejfochdjcaaDoorCRMade
namespace Go.Proofs.YtkaaejfochdjcaaDoor
open Go.ChangeShapes Go.WideShapes Go.ChangeAt Go.RowKit Go.ChangeMaps
open Cal
set_option linter.unusedVariables false
set_option linter.unusedSimpArgs false
namespace CL6

theorem made_out {w w' : World} {e : Ending} (h : MadePost w e w') : ∃ p q : Int, e = .returned (.agg #[.int .i64 p, .int .i64 q]) ∧ vaB p q = true ∧ Below w.heap.size w w' := h
theorem aro_c (y : Int) : aro y = eForm ∨ aro y = eRange ∨ ∃ a b, aro y = (a, b, 0) := by unfold aro; split; exact .inr (.inr ⟨_, _, rfl⟩); exact .inr (.inl rfl)
theorem btwR_c (a b : R) : btwR a b = eForm ∨ btwR a b = eRange ∨ ∃ x y, btwR a b = (x, y, 0) := by unfold btwR; split; exact .inr (.inr ⟨_, _, rfl⟩); exact .inr (.inl rfl)
theorem pars_cases (l : List UInt8) : pars l = eForm ∨ pars l = eRange ∨ ∃ a b, pars l = (a, b, 0) := by
  unfold pars
  split
  · split
    · exact aro_c _
    · exact .inl rfl
  · split
    · exact .inl rfl
    · split
      · split
        · exact btwR_c _ _
        · exact .inl rfl
      · split
        · exact btwR_c _ _
        · exact .inl rfl
set_option maxRecDepth 100000 in
set_option maxHeartbeats 8000000 in
theorem walk (a b : Int) (s : List UInt8) (ha : inI a) (hb : inI b) (hz : s.length ≤ maxLen) (w : World) (hK : KC w) : Calls Tryd.prog 8 #[.int .i64 a, .int .i64 b, .string (tb s)] w fun e w' => e = .returned (.bool true) ∧ Below w.heap.size w w' := by
  have HL : Hid (∀ W, Below w.heap.size w W → Calls Tryd.prog 16 #[] W fun e w' => e = .returned (.bool true) ∧ Below W.heap.size W w') := Lib.hid fun W hb => lives_any W (hK.below hb)
  have HM : Hid (∀ W, Below w.heap.size w W → Calls Tryd.prog 27 #[.int .i64 a, .int .i64 b] W (MadePost W)) := Lib.hid fun W _ => made_any a b ha hb W
  have HT0 : Hid (∀ p q : Int, ∀ W, Below w.heap.size w W → Calls Tryd.prog 28 #[.agg #[.int .i64 p, .int .i64 q]] W fun e w' => e = .returned (.string (tb (prt p q))) ∧ Below W.heap.size W w') := Lib.hid fun p q W hb => print_any p q W (hK.below hb)
  have HB0 : Hid (∀ p q : Int, vaB p q = true → ∀ W, Below w.heap.size w W → Calls Tryd.prog 25 #[.string (tb (prt p q))] W fun e w' => e = .returned (.tuple #[.agg #[.int .i64 p, .int .i64 q], .int .i64 0]) ∧ Below W.heap.size W w') := Lib.hid fun p q hv W hb => by have := parse_any (prt p q) W (hK.below hb).1; rw [pars_prt hv] at this; exact this
  have HQ0 : Hid (∀ (p q : Int) W, (Op.equalIn 10000 30 (.agg #[.int .i64 p, .int .i64 q]) (.agg #[.int .i64 p, .int .i64 q])).run Tryd.prog W = .ok true W) := Lib.hid fun p q W => by rw [eq_span]; simp
  clear ha hb
  rcases pars_cases s with hp | hp | ⟨x, y, hp⟩
  · have HS : Hid (∀ W, Below w.heap.size w W → Calls Tryd.prog 25 #[.string (tb s)] W fun e w' => e = .returned (.tuple #[.agg #[.int .i64 0, .int .i64 0], .int .i64 2]) ∧ Below W.heap.size W w') := Lib.hid fun W hb => by have := parse_any s W (hK.below hb).1; rw [hp] at this; exact this
    have heq0 := HQ0.out 0 0
    clear hp hK hz
    go_enter Tryd.func8, Tryd.ntmps8
    go_wp2_with (first
      | ((with_reducible refine (HM.out _ (Below.refl _ _)).mono ?_); rintro e w1 hm1; obtain ⟨p, q, rfl, hv, hb1⟩ := made_out hm1; clear hm1; have HT := Lib.hid (HT0.out p q); have HB := Lib.hid (HB0.out p q hv); have heq := HQ0.out p q; clear hv;  have HX1 : Hid (Below w.heap.size w w1) := Lib.hid (below_next (Below.refl _ _) hb1); clear hb1)
      | (refine wpList_load_w2 (by rfl) (.tmp 7) rfl (w1.heap.size) rfl (p) (q) (Blk.at _ (iv [p, q]) _ 30 _ rfl (by first | rfl | simp)) ?_)
      | ((with_reducible refine (HT.out _ (below_al HX1.out _)).mono ?_); rintro e w2 ⟨rfl, hb2⟩; have HX2 : Hid (Blk w2 (w1.heap.size) (iv [p, q]) 30 ∧ Below w.heap.size w w2) := Lib.hid ⟨(Blk.at _ (iv [p, q]) _ 30 _ rfl (by first | rfl | simp)).below hb2 (by first | (simp; done) | (simp; omega)), below_next (below_al HX1.out _) hb2⟩; clear hb2)
      | ((with_reducible refine (HB.out _ HX2.out.2).mono ?_); rintro e w3 ⟨rfl, hb3⟩; have HX3 : Hid (Blk w3 (w1.heap.size) (iv [p, q]) 30 ∧ Below w.heap.size w w3) := Lib.hid ⟨HX2.out.1.below hb3 HX2.out.1.lt, below_next HX2.out.2 hb3⟩; clear hb3)
      | (refine wpList_load_w2 (by rfl) (.tmp 9) rfl (w3.heap.size) rfl (p) (q) (Blk.at _ (iv [p, q]) _ 30 _ rfl (by first | rfl | simp)) ?_)
      | (refine wpList_load_w2 (by rfl) (.tmp 7) rfl (w1.heap.size) rfl (p) (q) (HX3.out.1.alloc _) ?_)
      | ((with_reducible refine (HS.out _ (below_al HX3.out.2 _)).mono ?_); rintro e w4 ⟨rfl, hb4⟩; have HX4 : Hid (Blk w4 (w1.heap.size) (iv [p, q]) 30 ∧ Blk w4 (w3.heap.size) (iv [p, q]) 30 ∧ Below w.heap.size w w4) := Lib.hid ⟨(HX3.out.1.alloc _).below hb4 (by simp; have := HX3.out.1.lt; omega), (Blk.at _ (iv [p, q]) _ 30 _ rfl (by first | rfl | simp)).below hb4 (by first | (simp; done) | (simp; omega)), below_next (below_al HX3.out.2 _) hb4⟩; clear hb4)
      | (refine wpList_load_w2 (by rfl) (.tmp 11) rfl (w4.heap.size) rfl (0) (0) (Blk.at _ (iv [0, 0]) _ 30 _ rfl (by first | rfl | simp)) ?_)
      | ((with_reducible refine (HL.out _ (below_al HX4.out.2.2 _)).mono ?_); rintro e w5 ⟨rfl, hb5⟩; have HX5 : Hid (Blk w5 (w1.heap.size) (iv [p, q]) 30 ∧ Blk w5 (w3.heap.size) (iv [p, q]) 30 ∧ Blk w5 (w4.heap.size) (iv [0, 0]) 30 ∧ Below w.heap.size w w5) := Lib.hid ⟨(HX4.out.1.alloc _).below hb5 (by simp; have := HX4.out.1.lt; omega), (HX4.out.2.1.alloc _).below hb5 (by simp; have := HX4.out.2.1.lt; omega), (Blk.at _ (iv [0, 0]) _ 30 _ rfl (by first | rfl | simp)).below hb5 (by first | (simp; done) | (simp; omega)), below_next (below_al HX4.out.2.2 _) hb5⟩; clear hb5))
    go_ret
    exact ⟨rfl, HX5.out.2.2.2⟩
  · have HS : Hid (∀ W, Below w.heap.size w W → Calls Tryd.prog 25 #[.string (tb s)] W fun e w' => e = .returned (.tuple #[.agg #[.int .i64 0, .int .i64 0], .int .i64 5]) ∧ Below W.heap.size W w') := Lib.hid fun W hb => by have := parse_any s W (hK.below hb).1; rw [hp] at this; exact this
    have heq0 := HQ0.out 0 0
    clear hp hK hz
    go_enter Tryd.func8, Tryd.ntmps8
    go_wp2_with (first
      | ((with_reducible refine (HM.out _ (Below.refl _ _)).mono ?_); rintro e w1 hm1; obtain ⟨p, q, rfl, hv, hb1⟩ := made_out hm1; clear hm1; have HT := Lib.hid (HT0.out p q); have HB := Lib.hid (HB0.out p q hv); have heq := HQ0.out p q; clear hv;  have HX1 : Hid (Below w.heap.size w w1) := Lib.hid (below_next (Below.refl _ _) hb1); clear hb1)
      | (refine wpList_load_w2 (by rfl) (.tmp 7) rfl (w1.heap.size) rfl (p) (q) (Blk.at _ (iv [p, q]) _ 30 _ rfl (by first | rfl | simp)) ?_)
      | ((with_reducible refine (HT.out _ (below_al HX1.out _)).mono ?_); rintro e w2 ⟨rfl, hb2⟩; have HX2 : Hid (Blk w2 (w1.heap.size) (iv [p, q]) 30 ∧ Below w.heap.size w w2) := Lib.hid ⟨(Blk.at _ (iv [p, q]) _ 30 _ rfl (by first | rfl | simp)).below hb2 (by first | (simp; done) | (simp; omega)), below_next (below_al HX1.out _) hb2⟩; clear hb2)
      | ((with_reducible refine (HB.out _ HX2.out.2).mono ?_); rintro e w3 ⟨rfl, hb3⟩; have HX3 : Hid (Blk w3 (w1.heap.size) (iv [p, q]) 30 ∧ Below w.heap.size w w3) := Lib.hid ⟨HX2.out.1.below hb3 HX2.out.1.lt, below_next HX2.out.2 hb3⟩; clear hb3)
      | (refine wpList_load_w2 (by rfl) (.tmp 9) rfl (w3.heap.size) rfl (p) (q) (Blk.at _ (iv [p, q]) _ 30 _ rfl (by first | rfl | simp)) ?_)
      | (refine wpList_load_w2 (by rfl) (.tmp 7) rfl (w1.heap.size) rfl (p) (q) (HX3.out.1.alloc _) ?_)
      | ((with_reducible refine (HS.out _ (below_al HX3.out.2 _)).mono ?_); rintro e w4 ⟨rfl, hb4⟩; have HX4 : Hid (Blk w4 (w1.heap.size) (iv [p, q]) 30 ∧ Blk w4 (w3.heap.size) (iv [p, q]) 30 ∧ Below w.heap.size w w4) := Lib.hid ⟨(HX3.out.1.alloc _).below hb4 (by simp; have := HX3.out.1.lt; omega), (Blk.at _ (iv [p, q]) _ 30 _ rfl (by first | rfl | simp)).below hb4 (by first | (simp; done) | (simp; omega)), below_next (below_al HX3.out.2 _) hb4⟩; clear hb4)
      | (refine wpList_load_w2 (by rfl) (.tmp 11) rfl (w4.heap.size) rfl (0) (0) (Blk.at _ (iv [0, 0]) _ 30 _ rfl (by first | rfl | simp)) ?_)
      | ((with_reducible refine (HL.out _ (below_al HX4.out.2.2 _)).mono ?_); rintro e w5 ⟨rfl, hb5⟩; have HX5 : Hid (Blk w5 (w1.heap.size) (iv [p, q]) 30 ∧ Blk w5 (w3.heap.size) (iv [p, q]) 30 ∧ Blk w5 (w4.heap.size) (iv [0, 0]) 30 ∧ Below w.heap.size w w5) := Lib.hid ⟨(HX4.out.1.alloc _).below hb5 (by simp; have := HX4.out.1.lt; omega), (HX4.out.2.1.alloc _).below hb5 (by simp; have := HX4.out.2.1.lt; omega), (Blk.at _ (iv [0, 0]) _ 30 _ rfl (by first | rfl | simp)).below hb5 (by first | (simp; done) | (simp; omega)), below_next (below_al HX4.out.2.2 _) hb5⟩; clear hb5))
    go_ret
    exact ⟨rfl, HX5.out.2.2.2⟩
  · have HS : Hid (∀ W, Below w.heap.size w W → Calls Tryd.prog 25 #[.string (tb s)] W fun e w' => e = .returned (.tuple #[.agg #[.int .i64 x, .int .i64 y], .int .i64 0]) ∧ Below W.heap.size W w') := Lib.hid fun W hb => by have := parse_any s W (hK.below hb).1; rw [hp] at this; exact this
    have heq0 := HQ0.out x y
    obtain ⟨hvx, hl⟩ := prt_least hp
    have HT2 := Lib.hid (HT0.out x y)
    have HB2 := Lib.hid (HB0.out x y hvx)
    have HVA : Hid (∀ W, Below w.heap.size w W → Calls Tryd.prog 21 #[.agg #[.int .i64 x, .int .i64 y]] W fun e w' => e = .returned (.bool true) ∧ Below W.heap.size W w') := Lib.hid fun W _ => valid_yes x y hvx W
    obtain ⟨n, hn⟩ : ∃ n, n = s.length := ⟨_, rfl⟩
    obtain ⟨m, hm⟩ : ∃ m, m = (prt x y).length := ⟨_, rfl⟩
    have hs1 : (tb s).size = n := by rw [tb_size, hn]
    have hs2 : (tb (prt x y)).size = m := by rw [tb_size, hm]
    have hmn : m ≤ n := by
      rcases hl with e | e
      · rw [hn, hm, ← e]; exact Nat.le_refl _
      · omega
    have hnb : n ≤ 9223372036854775807 := by unfold maxLen at hz; omega
    clear hp hK hz hvx hl hn hm
    generalize tb (prt x y) = S2 at *
    generalize tb s = S at *
    go_enter Tryd.func8, Tryd.ntmps8
    go_wp2_with (first
      | ((with_reducible refine (HM.out _ (Below.refl _ _)).mono ?_); rintro e w1 hm1; obtain ⟨p, q, rfl, hv, hb1⟩ := made_out hm1; clear hm1; have HT := Lib.hid (HT0.out p q); have HB := Lib.hid (HB0.out p q hv); have heq := HQ0.out p q; clear hv;  have HX1 : Hid (Below w.heap.size w w1) := Lib.hid (below_next (Below.refl _ _) hb1); clear hb1)
      | (refine wpList_load_w2 (by rfl) (.tmp 7) rfl (w1.heap.size) rfl (p) (q) (Blk.at _ (iv [p, q]) _ 30 _ rfl (by first | rfl | simp)) ?_)
      | ((with_reducible refine (HT.out _ (below_al HX1.out _)).mono ?_); rintro e w2 ⟨rfl, hb2⟩; have HX2 : Hid (Blk w2 (w1.heap.size) (iv [p, q]) 30 ∧ Below w.heap.size w w2) := Lib.hid ⟨(Blk.at _ (iv [p, q]) _ 30 _ rfl (by first | rfl | simp)).below hb2 (by first | (simp; done) | (simp; omega)), below_next (below_al HX1.out _) hb2⟩; clear hb2)
      | ((with_reducible refine (HB.out _ HX2.out.2).mono ?_); rintro e w3 ⟨rfl, hb3⟩; have HX3 : Hid (Blk w3 (w1.heap.size) (iv [p, q]) 30 ∧ Below w.heap.size w w3) := Lib.hid ⟨HX2.out.1.below hb3 HX2.out.1.lt, below_next HX2.out.2 hb3⟩; clear hb3)
      | (refine wpList_load_w2 (by rfl) (.tmp 9) rfl (w3.heap.size) rfl (p) (q) (Blk.at _ (iv [p, q]) _ 30 _ rfl (by first | rfl | simp)) ?_)
      | (refine wpList_load_w2 (by rfl) (.tmp 7) rfl (w1.heap.size) rfl (p) (q) (HX3.out.1.alloc _) ?_)
      | ((with_reducible refine (HS.out _ (below_al HX3.out.2 _)).mono ?_); rintro e w4 ⟨rfl, hb4⟩; have HX4 : Hid (Blk w4 (w1.heap.size) (iv [p, q]) 30 ∧ Blk w4 (w3.heap.size) (iv [p, q]) 30 ∧ Below w.heap.size w w4) := Lib.hid ⟨(HX3.out.1.alloc _).below hb4 (by simp; have := HX3.out.1.lt; omega), (Blk.at _ (iv [p, q]) _ 30 _ rfl (by first | rfl | simp)).below hb4 (by first | (simp; done) | (simp; omega)), below_next (below_al HX3.out.2 _) hb4⟩; clear hb4)
      | (refine wpList_load_w2 (by rfl) (.tmp 11) rfl (w4.heap.size) rfl (x) (y) (Blk.at _ (iv [x, y]) _ 30 _ rfl (by first | rfl | simp)) ?_)
      | ((with_reducible refine (HT2.out _ (below_al HX4.out.2.2 _)).mono ?_); rintro e w5 ⟨rfl, hb5⟩; have HX5 : Hid (Blk w5 (w1.heap.size) (iv [p, q]) 30 ∧ Blk w5 (w3.heap.size) (iv [p, q]) 30 ∧ Blk w5 (w4.heap.size) (iv [x, y]) 30 ∧ Below w.heap.size w w5) := Lib.hid ⟨(HX4.out.1.alloc _).below hb5 (by simp; have := HX4.out.1.lt; omega), (HX4.out.2.1.alloc _).below hb5 (by simp; have := HX4.out.2.1.lt; omega), (Blk.at _ (iv [x, y]) _ 30 _ rfl (by first | rfl | simp)).below hb5 (by first | (simp; done) | (simp; omega)), below_next (below_al HX4.out.2.2 _) hb5⟩; clear hb5)
      | ((with_reducible refine (HB2.out _ HX5.out.2.2.2).mono ?_); rintro e w6 ⟨rfl, hb6⟩; have HX6 : Hid (Blk w6 (w1.heap.size) (iv [p, q]) 30 ∧ Blk w6 (w3.heap.size) (iv [p, q]) 30 ∧ Blk w6 (w4.heap.size) (iv [x, y]) 30 ∧ Below w.heap.size w w6) := Lib.hid ⟨HX5.out.1.below hb6 HX5.out.1.lt, HX5.out.2.1.below hb6 HX5.out.2.1.lt, HX5.out.2.2.1.below hb6 HX5.out.2.2.1.lt, below_next HX5.out.2.2.2 hb6⟩; clear hb6)
      | (refine wpList_load_w2 (by rfl) (.tmp 11) rfl (w4.heap.size) rfl (x) (y) (HX6.out.2.2.1.alloc _) ?_)
      | ((with_reducible refine (HVA.out _ (below_al HX6.out.2.2.2 _)).mono ?_); rintro e w7 ⟨rfl, hb7⟩; have HX7 : Hid (Blk w7 (w1.heap.size) (iv [p, q]) 30 ∧ Blk w7 (w3.heap.size) (iv [p, q]) 30 ∧ Blk w7 (w4.heap.size) (iv [x, y]) 30 ∧ Blk w7 (w6.heap.size) (iv [x, y]) 30 ∧ Below w.heap.size w w7) := Lib.hid ⟨(HX6.out.1.alloc _).below hb7 (by simp; have := HX6.out.1.lt; omega), (HX6.out.2.1.alloc _).below hb7 (by simp; have := HX6.out.2.1.lt; omega), (HX6.out.2.2.1.alloc _).below hb7 (by simp; have := HX6.out.2.2.1.lt; omega), (Blk.at _ (iv [x, y]) _ 30 _ rfl (by first | rfl | simp)).below hb7 (by first | (simp; done) | (simp; omega)), below_next (below_al HX6.out.2.2.2 _) hb7⟩; clear hb7)
      | (refine wpList_load_w2 (by rfl) (.tmp 14) rfl (w6.heap.size) rfl (x) (y) HX7.out.2.2.2.1 ?_)
      | (refine wpList_load_w2 (by rfl) (.tmp 11) rfl (w4.heap.size) rfl (x) (y) HX7.out.2.2.1 ?_)
      | ((with_reducible refine (HL.out _ HX7.out.2.2.2.2).mono ?_); rintro e w8 ⟨rfl, hb8⟩; have HX8 : Hid (Blk w8 (w1.heap.size) (iv [p, q]) 30 ∧ Blk w8 (w3.heap.size) (iv [p, q]) 30 ∧ Blk w8 (w4.heap.size) (iv [x, y]) 30 ∧ Blk w8 (w6.heap.size) (iv [x, y]) 30 ∧ Below w.heap.size w w8) := Lib.hid ⟨HX7.out.1.below hb8 HX7.out.1.lt, HX7.out.2.1.below hb8 HX7.out.2.1.lt, HX7.out.2.2.1.below hb8 HX7.out.2.2.1.lt, HX7.out.2.2.2.1.below hb8 HX7.out.2.2.2.1.lt, below_next HX7.out.2.2.2.2 hb8⟩; clear hb8))
    go_ret
    exact ⟨rfl, HX8.out.2.2.2.2⟩

set_option maxRecDepth 100000 in
theorem contract (H : Type) (enc : TypeId × Value → H) (W : World) (base : Nat) (args : Array Value) (ds gs : List (DataW H)) (before : List MemPlace)
    (hval : ∀ (j : Nat) t v, Tryd.f8.params[j]? = some t → args[j]? = some v → Value.okWide Tryd.prog W .any base t v)
    (hW : DataW.Whole enc Tryd.prog Tryd.f8.params.toList Rows.calendarTextsSpec.vars false W args.toList ds gs before) (hK : KC W) :
    Calls Tryd.prog 8 args W fun e W' => ∃ v, e = .returned v ∧ Rows.calendarTextsSpec.post enc Tryd.prog Tryd.f8 false true false false W args v W' := by
  have hW' := hW
  obtain ⟨p, q, hA0, hV, rfl, hfz, hnd⟩ := hW
  have hA : DataW.TrodAll enc Tryd.prog W 0 (fun _ => true) true Tryd.f8.params.toList args.toList ds p := hA0
  rw [Tryd.params8] at hA hval
  obtain ⟨v0, v1, v2, d0, d1, d2, p0, p1, p2, rfl, rfl, rfl, h0, h1, h2⟩ := trodAll_three hA
  obtain ⟨rfl, rfl⟩ := trodVars_none hV
  obtain ⟨a, rfl, rfl, rfl, aw⟩ := open_int Tryd.underlying3 (hval 0 3 v0 rfl rfl) h0
  have ai := inI_wf aw
  obtain ⟨b, rfl, rfl, rfl, bw⟩ := open_int Tryd.underlying3 (hval 1 3 v1 rfl rfl) h1
  have bi := inI_wf bw
  obtain ⟨s0, rfl, rfl, rfl, sw⟩ := open_string Tryd.underlying9 (hval 2 9 v2 rfl rfl) h2
  obtain ⟨s, se⟩ : ∃ l, l = s0.data.toList := ⟨_, rfl⟩
  have sb : s0 = tb s := by rw [se]; rfl
  have sz : s.length ≤ maxLen := by rw [se]; exact sw
  have hargs : (#[.int .i64 a, .int .i64 b, .string s0] : Array Value) = #[.int .i64 a, .int .i64 b, .string (tb s)] := by rw [sb]
  have hwalk : Calls Tryd.prog 8 #[.int .i64 a, .int .i64 b, .string s0] W fun e W' => e = .returned (.bool true) ∧ Below W.heap.size W W' := by
    rw [hargs]
    exact walk a b s ai bi sz W hK
  refine hwalk.mono fun e W' ⟨he, hb⟩ => ⟨_, he, ?_⟩
  exact law_post rfl rfl (by kernel_rfl) hW' rfl hb

set_option maxRecDepth 100000 in
theorem lifted (os : Os) (started : os.Started) (H : Type) (enc : TypeId × Value → H) :
    ReturnsInHanded {} Tryd.checked os 8 .any (fun w args => (Rows.calendarTextsSpec.pre enc Tryd.prog Tryd.f8 [] false w args ∧ laidMetH Tryd.prog laid4 w) ∧ sizedMet enc Tryd.prog Tryd.f8 (OpenSpec.ofChange Rows.calendarTextsSpec) false w args)
      (Rows.calendarTextsSpec.post enc Tryd.prog Tryd.f8 false true false false) := by
  refine returnsInHanded_of_change_and (C := Tryd.checked) (X := fun w _ => laidMetH Tryd.prog laid4 w) (fun _ _ _ hh h => h.of_heap hh) Tryd.own started (by kernel_rfl) Tryd.func8
    (ChangeSpec.witness_shaped (enc := enc) (C := Tryd.checked) (os := os) (X := fun w _ => laidMetH Tryd.prog laid4 w) false (World.doorLaid Tryd.prog 400 os) #[.int .i64 0, .int .i64 0, .string ByteArray.empty] 8 rfl (World.shaped_of_RefB (by kernel_rfl) (by kernel_rfl)) (by kernel_rfl) (by kernel_rfl) (by kernel_rfl) (door_met4 os _)) ?_
  intro W base args ds gs before hval hW _ hsz hL _
  exact contract H enc W base args ds gs before hval hW (of_laid4 hL)

theorem row : Rows.CalendarTextsSaid :=
  OpenClaim.holds_of_wide 8 Tryd.f8 rfl rfl rfl rfl rfl rfl rfl ⟨rfl, rfl, rfl, rfl, rfl⟩ rfl rfl rfl rfl rfl (by kernel_rfl) Tryd.func8 (by kernel_rfl)
    (of_decide_eq_true (by kernel_rfl)) (by unfold Func.isWrapper; first | (rw [if_pos (by decide +kernel)]; kernel_rfl) | (rw [if_neg (by decide +kernel)]; exact ⟨rfl, rfl⟩))
    (fun os started H enc _ => lifted os started H enc)

theorem proved : Rows.CalendarTextsCardSaid :=
  Claim7.holds_tied_plain_at .later [] [.data, .data, .data, .data] true (true, "520023937c31a48c793982c9874225f2c411890cd26ecc880d0bbeb410484da2") false
    row (fun _ h => by cases h) (by kernel_rfl) (fun _ h => by cases h) calendarTexts_row_tie rfl ⟨rfl, rfl⟩ (by kernel_rfl) rfl
    (fun f fn hf hfn => by
      obtain rfl : f = 8 := Option.some.inj ((show Tryd.prog.funcNamed "wordbook/wordbooklaw04.CalendarTexts" = some 8 by kernel_rfl).symm.trans hf) |>.symm
      obtain rfl : fn = Tryd.f8 := (Option.some.inj (Tryd.func8.symm.trans hfn)).symm
      exact ⟨by kernel_rfl, fun j t ht => by
        rw [Tryd.params8] at ht
        have hm : t ∈ [3, 3, 9] := by simpa using Array.mem_of_getElem? ht
        have hall : ([3, 3, 9].all fun u => !Tryd.prog.wantsStandIn u) = true := by kernel_rfl
        exact (show Tryd.prog.wantsStandIn t = false by simpa using List.all_eq_true.1 hall t hm)⟩)
    (by kernel_rfl)
end CL6
end Go.Proofs.YtkaaejfochdjcaaDoor
