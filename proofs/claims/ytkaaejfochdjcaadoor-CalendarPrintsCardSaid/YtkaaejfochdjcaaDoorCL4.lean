/-
  CalendarPrints: for every span and every pair of numbers the law returns true, and leaves what was there as it was; the tables are as the program's text lays them (the card ties them).
-/
import Derived.Test.YtkaaejfochdjcaaDoorCLaw
import Derived.Test.YtkaaejfochdjcaaDoorCRMade2
import Derived.Test.YtkaaejfochdjcaaDoorCRPrint
import Derived.Deep.RegionHeld3
namespace Go.Proofs.YtkaaejfochdjcaaDoor
open Go.ChangeShapes Go.WideShapes Go.ChangeAt Go.RowKit Go.ChangeMaps
open Cal
set_option linter.unusedVariables false
set_option linter.unusedSimpArgs false
namespace CL4

set_option maxRecDepth 100000 in
set_option maxHeartbeats 8000000 in
theorem walk (x y a b : Int) (ha : inI a) (hb : inI b) (w : World) (hK : KC w) : Calls Tryd.prog 6 #[.agg #[.int .i64 x, .int .i64 y], .int .i64 a, .int .i64 b] w fun e w' => e = .returned (.bool true) ∧ Below w.heap.size w w' := by
  obtain ⟨p, q, _, hm⟩ := made_ex a b ha hb
  have HM := Lib.hid hm
  have HL : Hid (∀ W, Below w.heap.size w W → Calls Tryd.prog 16 #[] W fun e w' => e = .returned (.bool true) ∧ Below W.heap.size W w') := Lib.hid fun W hb => lives_any W (hK.below hb)
  have HP1 : Hid (∀ W, Below w.heap.size w W → Calls Tryd.prog 28 #[.agg #[.int .i64 x, .int .i64 y]] W fun e w' => e = .returned (.string (tb (prt x y))) ∧ Below W.heap.size W w') := Lib.hid fun W hb => print_any x y W (hK.below hb)
  have HP2 : Hid (∀ W, Calls Tryd.prog 29 #[.agg #[.int .i64 x, .int .i64 y]] W fun e w' => e = .returned (.string (tb (prt x y))) ∧ Below W.heap.size W w') := Lib.hid fun W => rprint_any x y W
  have HP3 : Hid (∀ W, Below w.heap.size w W → Calls Tryd.prog 28 #[.agg #[.int .i64 p, .int .i64 q]] W fun e w' => e = .returned (.string (tb (prt p q))) ∧ Below W.heap.size W w') := Lib.hid fun W hb => print_any p q W (hK.below hb)
  have HP4 : Hid (∀ W, Calls Tryd.prog 29 #[.agg #[.int .i64 p, .int .i64 q]] W fun e w' => e = .returned (.string (tb (prt p q))) ∧ Below W.heap.size W w') := Lib.hid fun W => rprint_any p q W
  clear hm ha hb hK
  generalize prt x y = X at *
  generalize prt p q = Y at *
  have hs1 : ((tb X).toList == (tb X).toList) = true := beq_self_eq_true _
  have hs2 : ((tb Y).toList == (tb Y).toList) = true := beq_self_eq_true _
  go_enter Tryd.func6, Tryd.ntmps6
  go_wp2_with ((with_reducible refine (HM.out _).mono ?_); rintro e w1 ⟨rfl, hb1⟩; have HX1 : Hid (Blk w1 w.heap.size (iv [x, y]) 30 ∧ Below w.heap.size w w1) := Lib.hid ⟨(Blk.at w (iv [x, y]) _ 30 _ rfl rfl).below hb1 (by simp), below_next (below_a1 _ _) hb1⟩; clear hb1)
  have HB0 : Hid (Below w.heap.size w (w1.alloc (.cells #[.int .i64 p, .int .i64 q] 30)) ∧ Blk (w1.alloc (.cells #[.int .i64 p, .int .i64 q] 30)) w.heap.size (iv [x, y]) 30 ∧ Blk (w1.alloc (.cells #[.int .i64 p, .int .i64 q] 30)) w1.heap.size (iv [p, q]) 30) := Lib.hid ⟨below_al HX1.out.2 _, HX1.out.1.alloc _, Blk.at w1 (iv [p, q]) _ 30 _ rfl rfl⟩
  obtain ⟨v, hv⟩ : ∃ v, v = w1.alloc (.cells #[.int .i64 p, .int .i64 q] 30) := ⟨_, rfl⟩
  rw [← hv] at HB0
  try rw [← hv]
  have HB : Hid (Below w.heap.size w v ∧ Blk v w.heap.size (iv [x, y]) 30 ∧ Blk v w1.heap.size (iv [p, q]) 30) := HB0
  clear HB0
  have HC : Hid (∀ w', Below v.heap.size v w' → Below v.heap.size v w' ∧ w'.cell? ⟨w.heap.size, 0, none⟩ = some (.int .i64 x) ∧ w'.cell? ⟨w.heap.size, 1, none⟩ = some (.int .i64 y) ∧ w'.cell? ⟨w1.heap.size, 0, none⟩ = some (.int .i64 p) ∧ w'.cell? ⟨w1.heap.size, 1, none⟩ = some (.int .i64 q)) := Lib.hid fun w' h => ⟨h, (HB.out.2.1.below h HB.out.2.1.lt).cell rfl, (HB.out.2.1.below h HB.out.2.1.lt).cell rfl, (HB.out.2.2.below h HB.out.2.2.lt).cell rfl, (HB.out.2.2.below h HB.out.2.2.lt).cell rfl⟩
  clear hv
  go_region_held3 (fun w' => Below v.heap.size v w' ∧ w'.cell? ⟨w.heap.size, 0, none⟩ = some (.int .i64 x) ∧ w'.cell? ⟨w.heap.size, 1, none⟩ = some (.int .i64 y) ∧ w'.cell? ⟨w1.heap.size, 0, none⟩ = some (.int .i64 p) ∧ w'.cell? ⟨w1.heap.size, 1, none⟩ = some (.int .i64 q)) (first | exact HC.out _ HY5.out | exact HC.out _ HY4.out | exact HC.out _ HY3.out | exact HC.out _ HY2.out | exact HC.out _ HY1.out | exact HC.out _ (Below.refl _ _).drew) (first
    | (go_at_call 28; (with_reducible refine (HP1.out _ (below_next HB.out.1 (Below.refl _ _).drew)).mono ?_); rintro e y1 ⟨rfl, hb1⟩; have HY1 : Hid (Below v.heap.size v y1) := Lib.hid (below_next (Below.refl _ _).drew hb1); clear hb1)
    | (go_at_call 29; (with_reducible refine (HP2.out _).mono ?_); rintro e y2 ⟨rfl, hb2⟩; have HY2 : Hid (Below v.heap.size v y2) := Lib.hid (below_next HY1.out hb2); clear hb2)
    | (go_at_call 28; (with_reducible refine (HP3.out _ (below_next HB.out.1 HY2.out)).mono ?_); rintro e y3 ⟨rfl, hb3⟩; have HY3 : Hid (Below v.heap.size v y3) := Lib.hid (below_next HY2.out hb3); clear hb3)
    | (go_at_call 29; (with_reducible refine (HP4.out _).mono ?_); rintro e y4 ⟨rfl, hb4⟩; have HY4 : Hid (Below v.heap.size v y4) := Lib.hid (below_next HY3.out hb4); clear hb4)
    | (go_at_call 16; (with_reducible refine (HL.out _ (below_next HB.out.1 HY4.out)).mono ?_); rintro e y5 ⟨rfl, hb5⟩; have HY5 : Hid (Below v.heap.size v y5) := Lib.hid (below_next HY4.out hb5); clear hb5))
  go_wp2_with fail
  go_ret
  exact ⟨rfl, below_next HB.out.1 HY5.out⟩

set_option maxRecDepth 100000 in
theorem contract (H : Type) (enc : TypeId × Value → H) (W : World) (base : Nat) (args : Array Value) (ds gs : List (DataW H)) (before : List MemPlace)
    (hval : ∀ (j : Nat) t v, Tryd.f6.params[j]? = some t → args[j]? = some v → Value.okWide Tryd.prog W .any base t v)
    (hW : DataW.Whole enc Tryd.prog Tryd.f6.params.toList Rows.calendarPrintsSpec.vars false W args.toList ds gs before) (hK : KC W) :
    Calls Tryd.prog 6 args W fun e W' => ∃ v, e = .returned v ∧ Rows.calendarPrintsSpec.post enc Tryd.prog Tryd.f6 false true false false W args v W' := by
  have hW' := hW
  obtain ⟨p, q, hA0, hV, rfl, hfz, hnd⟩ := hW
  have hA : DataW.TrodAll enc Tryd.prog W 0 (fun _ => true) true Tryd.f6.params.toList args.toList ds p := hA0
  rw [Tryd.params6] at hA hval
  obtain ⟨v0, v1, v2, d0, d1, d2, p0, p1, p2, rfl, rfl, rfl, h0, h1, h2⟩ := trodAll_three hA
  obtain ⟨rfl, rfl⟩ := trodVars_none hV
  obtain ⟨sx, sy, rfl, sxi, syi⟩ := open_span (hval 0 30 v0 rfl rfl) h0
  obtain ⟨a, rfl, rfl, rfl, aw⟩ := open_int Tryd.underlying3 (hval 1 3 v1 rfl rfl) h1
  have ai := inI_wf aw
  obtain ⟨b, rfl, rfl, rfl, bw⟩ := open_int Tryd.underlying3 (hval 2 3 v2 rfl rfl) h2
  have bi := inI_wf bw
  have hargs : (#[.agg #[.int .i64 sx, .int .i64 sy], .int .i64 a, .int .i64 b] : Array Value) = #[.agg #[.int .i64 sx, .int .i64 sy], .int .i64 a, .int .i64 b] := by rfl
  have hwalk : Calls Tryd.prog 6 #[.agg #[.int .i64 sx, .int .i64 sy], .int .i64 a, .int .i64 b] W fun e W' => e = .returned (.bool true) ∧ Below W.heap.size W W' := by
    rw [hargs]
    exact walk sx sy a b ai bi W hK
  refine hwalk.mono fun e W' ⟨he, hb⟩ => ⟨_, he, ?_⟩
  exact law_post rfl rfl (by kernel_rfl) hW' rfl hb

set_option maxRecDepth 100000 in
theorem lifted (os : Os) (started : os.Started) (H : Type) (enc : TypeId × Value → H) :
    ReturnsInHanded {} Tryd.checked os 6 .any (fun w args => (Rows.calendarPrintsSpec.pre enc Tryd.prog Tryd.f6 [] false w args ∧ laidMetH Tryd.prog laid4 w) ∧ sizedMet enc Tryd.prog Tryd.f6 (OpenSpec.ofChange Rows.calendarPrintsSpec) false w args)
      (Rows.calendarPrintsSpec.post enc Tryd.prog Tryd.f6 false true false false) := by
  refine returnsInHanded_of_change_and (C := Tryd.checked) (X := fun w _ => laidMetH Tryd.prog laid4 w) (fun _ _ _ hh h => h.of_heap hh) Tryd.own started (by kernel_rfl) Tryd.func6
    (ChangeSpec.witness_shaped (enc := enc) (C := Tryd.checked) (os := os) (X := fun w _ => laidMetH Tryd.prog laid4 w) false (World.doorLaid Tryd.prog 400 os) #[.agg #[.int .i64 0, .int .i64 0], .int .i64 0, .int .i64 0] 8 rfl (World.shaped_of_RefB (by kernel_rfl) (by kernel_rfl)) (by kernel_rfl) (by kernel_rfl) (by kernel_rfl) (door_met4 os _)) ?_
  intro W base args ds gs before hval hW _ hsz hL _
  exact contract H enc W base args ds gs before hval hW (of_laid4 hL)

theorem row : Rows.CalendarPrintsSaid :=
  OpenClaim.holds_of_wide 6 Tryd.f6 rfl rfl rfl rfl rfl rfl rfl ⟨rfl, rfl, rfl, rfl, rfl⟩ rfl rfl rfl rfl rfl (by kernel_rfl) Tryd.func6 (by kernel_rfl)
    (of_decide_eq_true (by kernel_rfl)) (by unfold Func.isWrapper; first | (rw [if_pos (by decide +kernel)]; kernel_rfl) | (rw [if_neg (by decide +kernel)]; exact ⟨rfl, rfl⟩))
    (fun os started H enc _ => lifted os started H enc)

theorem proved : Rows.CalendarPrintsCardSaid :=
  Claim7.holds_tied_plain_at .later [] [.data, .data, .data, .data] true (true, "520023937c31a48c793982c9874225f2c411890cd26ecc880d0bbeb410484da2") false
    row (fun _ h => by cases h) (by kernel_rfl) (fun _ h => by cases h) calendarPrints_row_tie rfl ⟨rfl, rfl⟩ (by kernel_rfl) rfl
    (fun f fn hf hfn => by
      obtain rfl : f = 6 := Option.some.inj ((show Tryd.prog.funcNamed "wordbook/wordbooklaw04.CalendarPrints" = some 6 by kernel_rfl).symm.trans hf) |>.symm
      obtain rfl : fn = Tryd.f6 := (Option.some.inj (Tryd.func6.symm.trans hfn)).symm
      exact ⟨by kernel_rfl, fun j t ht => by
        rw [Tryd.params6] at ht
        have hm : t ∈ [30, 3, 3] := by simpa using Array.mem_of_getElem? ht
        have hall : ([30, 3, 3].all fun u => !Tryd.prog.wantsStandIn u) = true := by kernel_rfl
        exact (show Tryd.prog.wantsStandIn t = false by simpa using List.all_eq_true.1 hall t hm)⟩)
    (by kernel_rfl)
end CL4
end Go.Proofs.YtkaaejfochdjcaaDoor
