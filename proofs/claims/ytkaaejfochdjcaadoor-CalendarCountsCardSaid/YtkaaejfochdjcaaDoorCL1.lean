/-
  CalendarCounts: for all numbers the law returns true, and leaves what was there as it was; the tables are as the program's text lays them (the card ties them).
-/
import Derived.Test.YtkaaejfochdjcaaDoorCLaw
import Derived.Test.YtkaaejfochdjcaaDoorCRDay
namespace Go.Proofs.YtkaaejfochdjcaaDoor
open Go.ChangeShapes Go.WideShapes Go.ChangeAt Go.RowKit Go.ChangeMaps
open Cal
set_option linter.unusedVariables false
set_option linter.unusedSimpArgs false
namespace CL1

theorem day_both (y m d : Int) : ∃ u v : Int, (∀ W, MD W → Calls Tryd.prog 12 #[.int .i64 y, .int .i64 m, .int .i64 d] W fun e w' => e = .returned (.tuple #[.int .i64 u, .int .i64 v]) ∧ W = w') ∧ ∀ W, Calls Tryd.prog 13 #[.int .i64 y, .int .i64 m, .int .i64 d] W fun e w' => e = .returned (.tuple #[.int .i64 u, .int .i64 v]) ∧ W = w' := by
  by_cases h : Ex y m d
  · exact ⟨_, _, fun W hM => day_yes y m d h W hM, fun W => rday_yes y m d h W⟩
  · exact ⟨_, _, fun W hM => day_no y m d h W hM, fun W => rday_no y m d h W⟩
theorem date_both (n : Int) : ∃ a b c v : Int, (∀ W, MD W → Calls Tryd.prog 14 #[.int .i64 n] W fun e w' => e = .returned (.tuple #[.int .i64 a, .int .i64 b, .int .i64 c, .int .i64 v]) ∧ W = w') ∧ ∀ W, Calls Tryd.prog 15 #[.int .i64 n] W fun e w' => e = .returned (.tuple #[.int .i64 a, .int .i64 b, .int .i64 c, .int .i64 v]) ∧ W = w' := by
  by_cases h : 1 ≤ n ∧ n ≤ 1022679
  · exact ⟨_, _, _, _, fun W hM => date_yes n h.1 h.2 W hM, fun W => rdate_yes n h.1 h.2 W⟩
  · exact ⟨_, _, _, _, fun W hM => date_no n h W, fun W => rdate_no n h W⟩
set_option maxRecDepth 100000 in
set_option maxHeartbeats 2000000 in
theorem walk (y m d n : Int) (w : World) (hK : KC w) : Calls Tryd.prog 3 #[.int .i64 y, .int .i64 m, .int .i64 d, .int .i64 n] w fun e w' => e = .returned (.bool true) ∧ Below w.heap.size w w' := by
  obtain ⟨u, v, h1, h2⟩ := day_both y m d
  obtain ⟨p, q, r, s, h3, h4⟩ := date_both n
  have H1 := Lib.hid (h1 w hK.1)
  have H2 := Lib.hid (h2 w)
  have H3 := Lib.hid (h3 w hK.1)
  have H4 := Lib.hid (h4 w)
  have HL := Lib.hid (lives_any w hK)
  clear h1 h2 h3 h4 hK
  go_enter Tryd.func3, Tryd.ntmps3
  go_wp2_with (first
    | ((with_reducible refine H1.out.mono ?_); rintro e w1 ⟨rfl, rfl⟩)
    | ((with_reducible refine H2.out.mono ?_); rintro e w1 ⟨rfl, rfl⟩)
    | ((with_reducible refine H3.out.mono ?_); rintro e w1 ⟨rfl, rfl⟩)
    | ((with_reducible refine H4.out.mono ?_); rintro e w1 ⟨rfl, rfl⟩)
    | ((with_reducible refine HL.out.mono ?_); rintro e w1 ⟨rfl, hb1⟩))
  go_ret
  exact ⟨rfl, hb1⟩

set_option maxRecDepth 100000 in
theorem contract (H : Type) (enc : TypeId × Value → H) (W : World) (base : Nat) (args : Array Value) (ds gs : List (DataW H)) (before : List MemPlace)
    (hval : ∀ (j : Nat) t v, Tryd.f3.params[j]? = some t → args[j]? = some v → Value.okWide Tryd.prog W .any base t v)
    (hW : DataW.Whole enc Tryd.prog Tryd.f3.params.toList Rows.calendarCountsSpec.vars false W args.toList ds gs before) (hK : KC W) :
    Calls Tryd.prog 3 args W fun e W' => ∃ v, e = .returned v ∧ Rows.calendarCountsSpec.post enc Tryd.prog Tryd.f3 false true false false W args v W' := by
  have hW' := hW
  obtain ⟨p, q, hA0, hV, rfl, hfz, hnd⟩ := hW
  have hA : DataW.TrodAll enc Tryd.prog W 0 (fun _ => true) true Tryd.f3.params.toList args.toList ds p := hA0
  rw [Tryd.params3] at hA hval
  obtain ⟨v0, v1, v2, v3, d0, d1, d2, d3, p0, p1, p2, p3, rfl, rfl, rfl, h0, h1, h2, h3⟩ := trodAll_four hA
  obtain ⟨rfl, rfl⟩ := trodVars_none hV
  obtain ⟨y, rfl, rfl, rfl, yw⟩ := open_int Tryd.underlying3 (hval 0 3 v0 rfl rfl) h0
  have yi := inI_wf yw
  obtain ⟨m, rfl, rfl, rfl, mw⟩ := open_int Tryd.underlying3 (hval 1 3 v1 rfl rfl) h1
  have mi := inI_wf mw
  obtain ⟨d, rfl, rfl, rfl, dw⟩ := open_int Tryd.underlying3 (hval 2 3 v2 rfl rfl) h2
  have di := inI_wf dw
  obtain ⟨n, rfl, rfl, rfl, nw⟩ := open_int Tryd.underlying3 (hval 3 3 v3 rfl rfl) h3
  have ni := inI_wf nw
  have hargs : (#[.int .i64 y, .int .i64 m, .int .i64 d, .int .i64 n] : Array Value) = #[.int .i64 y, .int .i64 m, .int .i64 d, .int .i64 n] := by rfl
  have hwalk : Calls Tryd.prog 3 #[.int .i64 y, .int .i64 m, .int .i64 d, .int .i64 n] W fun e W' => e = .returned (.bool true) ∧ Below W.heap.size W W' := by
    rw [hargs]
    exact walk y m d n W hK
  refine hwalk.mono fun e W' ⟨he, hb⟩ => ⟨_, he, ?_⟩
  exact law_post rfl rfl (by kernel_rfl) hW' rfl hb

set_option maxRecDepth 100000 in
theorem lifted (os : Os) (started : os.Started) (H : Type) (enc : TypeId × Value → H) :
    ReturnsInHanded {} Tryd.checked os 3 .any (fun w args => (Rows.calendarCountsSpec.pre enc Tryd.prog Tryd.f3 [] false w args ∧ laidMetH Tryd.prog laid4 w) ∧ sizedMet enc Tryd.prog Tryd.f3 (OpenSpec.ofChange Rows.calendarCountsSpec) false w args)
      (Rows.calendarCountsSpec.post enc Tryd.prog Tryd.f3 false true false false) := by
  refine returnsInHanded_of_change_and (C := Tryd.checked) (X := fun w _ => laidMetH Tryd.prog laid4 w) (fun _ _ _ hh h => h.of_heap hh) Tryd.own started (by kernel_rfl) Tryd.func3
    (ChangeSpec.witness_shaped (enc := enc) (C := Tryd.checked) (os := os) (X := fun w _ => laidMetH Tryd.prog laid4 w) false (World.doorLaid Tryd.prog 400 os) #[.int .i64 0, .int .i64 0, .int .i64 0, .int .i64 0] 8 rfl (World.shaped_of_RefB (by kernel_rfl) (by kernel_rfl)) (by kernel_rfl) (by kernel_rfl) (by kernel_rfl) (door_met4 os _)) ?_
  intro W base args ds gs before hval hW _ hsz hL _
  exact contract H enc W base args ds gs before hval hW (of_laid4 hL)

theorem row : Rows.CalendarCountsSaid :=
  OpenClaim.holds_of_wide 3 Tryd.f3 rfl rfl rfl rfl rfl rfl rfl ⟨rfl, rfl, rfl, rfl, rfl⟩ rfl rfl rfl rfl rfl (by kernel_rfl) Tryd.func3 (by kernel_rfl)
    (of_decide_eq_true (by kernel_rfl)) (by unfold Func.isWrapper; first | (rw [if_pos (by decide +kernel)]; kernel_rfl) | (rw [if_neg (by decide +kernel)]; exact ⟨rfl, rfl⟩))
    (fun os started H enc _ => lifted os started H enc)

theorem proved : Rows.CalendarCountsCardSaid :=
  Claim7.holds_tied_plain_at .later [] [.data, .data, .data, .data] true (true, "520023937c31a48c793982c9874225f2c411890cd26ecc880d0bbeb410484da2") false
    row (fun _ h => by cases h) (by kernel_rfl) (fun _ h => by cases h) calendarCounts_row_tie rfl ⟨rfl, rfl⟩ (by kernel_rfl) rfl
    (fun f fn hf hfn => by
      obtain rfl : f = 3 := Option.some.inj ((show Tryd.prog.funcNamed "wordbook/wordbooklaw04.CalendarCounts" = some 3 by kernel_rfl).symm.trans hf) |>.symm
      obtain rfl : fn = Tryd.f3 := (Option.some.inj (Tryd.func3.symm.trans hfn)).symm
      exact ⟨by kernel_rfl, fun j t ht => by
        rw [Tryd.params3] at ht
        have hm : t ∈ [3, 3, 3, 3] := by simpa using Array.mem_of_getElem? ht
        have hall : ([3, 3, 3, 3].all fun u => !Tryd.prog.wantsStandIn u) = true := by kernel_rfl
        exact (show Tryd.prog.wantsStandIn t = false by simpa using List.all_eq_true.1 hall t hm)⟩)
    (by kernel_rfl)
end CL1
end Go.Proofs.YtkaaejfochdjcaaDoor
