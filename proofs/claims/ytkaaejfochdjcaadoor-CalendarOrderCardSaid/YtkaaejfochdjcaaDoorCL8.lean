/-
  CalendarOrder: for every list of numbers and every day the law returns true, and leaves what was there as it was; the tables are as the program's text lays them (the card ties them).
-/
import Derived.Test.YtkaaejfochdjcaaDoorCL8B
import Derived.Test.YtkaaejfochdjcaaDoorCL8C
import Derived.Test.YtkaaejfochdjcaaDoorCL8D
import Derived.Deep.QuietTactic
import Derived.BigQuiet
namespace Go.Proofs.YtkaaejfochdjcaaDoor
open Go.ChangeShapes Go.WideShapes Go.ChangeAt Go.RowKit Go.ChangeMaps
open Cal
set_option linter.unusedVariables false
set_option linter.unusedSimpArgs false
namespace CL8
open CL8A CL8B CL8C CL8D
theorem walk (l : List Int) (A : Option Addr) (cc : Nat) (day : Int) (hd : inI day) (hi : ∀ x ∈ l, inI x) (hlc : l.length ≤ cc) (hcm : cc ≤ maxLen) (w : World) (hr : Rd w A (iv l)) (hK : KC w) : Calls Tryd.prog 10 #[.slice A l.length cc, .int .i64 day] w fun e w' => e = .returned (.bool true) ∧ Below w.heap.size w w' := by
  have hat : ∀ (k : Nat) (m : Int), 1 ≤ m → m ≤ 1048576 + 1048576 → inI (atP l (k : Int) m) := fun k m h1 h2 => by have := atP_bd l k h1; unfold inI; omega
  obtain ⟨p, q, v1, hm0⟩ := made_ex _ _ (hat 0 1022679 (by omega) (by omega)) (hat 1 1048576 (by omega) (by omega))
  obtain ⟨r, s, v2, hm1⟩ := made_ex _ _ (hat 2 1022679 (by omega) (by omega)) (hat 3 1048576 (by omega) (by omega))
  obtain ⟨t, u, v3, hm2⟩ := made_ex _ _ (hat 4 1022679 (by omega) (by omega)) (hat 5 1048576 (by omega) (by omega))
  replace v1 := vaB_yes v1
  replace v2 := vaB_yes v2
  replace v3 := vaB_yes v3
  have he := arP_bd day (m := q - p + 1) (by omega)
  by_cases h1 : q < r
  · by_cases h2 : s < t
    · exact walk_1a p q r s t u day _ _ _ _ _ _ _ A l.length cc w v1.1 v1.2.1 v1.2.2 v2.1 v2.2.1 v2.2.2 v3.1 v3.2.1 v3.2.2 he.1 he.2 h1 h2 (Lib.hid fun W hb => lives_any W (hK.below hb)) (Lib.hid fun W hb => by have := rat_any l A l.length cc rfl hlc hcm 0 (by omega) 1022679 (by omega) (by omega) W (hr.below hb) hi; exact this) (Lib.hid fun W hb => by have := rat_any l A l.length cc rfl hlc hcm 1 (by omega) 1048576 (by omega) (by omega) W (hr.below hb) hi; exact this) (Lib.hid fun W hb => by have := rat_any l A l.length cc rfl hlc hcm 2 (by omega) 1022679 (by omega) (by omega) W (hr.below hb) hi; exact this) (Lib.hid fun W hb => by have := rat_any l A l.length cc rfl hlc hcm 3 (by omega) 1048576 (by omega) (by omega) W (hr.below hb) hi; exact this) (Lib.hid fun W hb => by have := rat_any l A l.length cc rfl hlc hcm 4 (by omega) 1022679 (by omega) (by omega) W (hr.below hb) hi; exact this) (Lib.hid fun W hb => by have := rat_any l A l.length cc rfl hlc hcm 5 (by omega) 1048576 (by omega) (by omega) W (hr.below hb) hi; exact this) (Lib.hid fun W _ => hm0 W) (Lib.hid fun W _ => hm1 W) (Lib.hid fun W _ => hm2 W) (Lib.hid fun W => raround_any day (q - p + 1) hd.1 hd.2 (by omega) (by omega) W)
    · exact walk_1b p q r s t u day _ _ _ _ _ _ _ A l.length cc w v1.1 v1.2.1 v1.2.2 v2.1 v2.2.1 v2.2.2 v3.1 v3.2.1 v3.2.2 he.1 he.2 h1 h2 (Lib.hid fun W hb => lives_any W (hK.below hb)) (Lib.hid fun W hb => by have := rat_any l A l.length cc rfl hlc hcm 0 (by omega) 1022679 (by omega) (by omega) W (hr.below hb) hi; exact this) (Lib.hid fun W hb => by have := rat_any l A l.length cc rfl hlc hcm 1 (by omega) 1048576 (by omega) (by omega) W (hr.below hb) hi; exact this) (Lib.hid fun W hb => by have := rat_any l A l.length cc rfl hlc hcm 2 (by omega) 1022679 (by omega) (by omega) W (hr.below hb) hi; exact this) (Lib.hid fun W hb => by have := rat_any l A l.length cc rfl hlc hcm 3 (by omega) 1048576 (by omega) (by omega) W (hr.below hb) hi; exact this) (Lib.hid fun W hb => by have := rat_any l A l.length cc rfl hlc hcm 4 (by omega) 1022679 (by omega) (by omega) W (hr.below hb) hi; exact this) (Lib.hid fun W hb => by have := rat_any l A l.length cc rfl hlc hcm 5 (by omega) 1048576 (by omega) (by omega) W (hr.below hb) hi; exact this) (Lib.hid fun W _ => hm0 W) (Lib.hid fun W _ => hm1 W) (Lib.hid fun W _ => hm2 W) (Lib.hid fun W => raround_any day (q - p + 1) hd.1 hd.2 (by omega) (by omega) W)
  · by_cases h2 : s < p
    · exact walk_2 p q r s t u day _ _ _ _ _ _ _ A l.length cc w v1.1 v1.2.1 v1.2.2 v2.1 v2.2.1 v2.2.2 v3.1 v3.2.1 v3.2.2 he.1 he.2 h2 (Lib.hid fun W hb => lives_any W (hK.below hb)) (Lib.hid fun W hb => by have := rat_any l A l.length cc rfl hlc hcm 0 (by omega) 1022679 (by omega) (by omega) W (hr.below hb) hi; exact this) (Lib.hid fun W hb => by have := rat_any l A l.length cc rfl hlc hcm 1 (by omega) 1048576 (by omega) (by omega) W (hr.below hb) hi; exact this) (Lib.hid fun W hb => by have := rat_any l A l.length cc rfl hlc hcm 2 (by omega) 1022679 (by omega) (by omega) W (hr.below hb) hi; exact this) (Lib.hid fun W hb => by have := rat_any l A l.length cc rfl hlc hcm 3 (by omega) 1048576 (by omega) (by omega) W (hr.below hb) hi; exact this) (Lib.hid fun W hb => by have := rat_any l A l.length cc rfl hlc hcm 4 (by omega) 1022679 (by omega) (by omega) W (hr.below hb) hi; exact this) (Lib.hid fun W hb => by have := rat_any l A l.length cc rfl hlc hcm 5 (by omega) 1048576 (by omega) (by omega) W (hr.below hb) hi; exact this) (Lib.hid fun W _ => hm0 W) (Lib.hid fun W _ => hm1 W) (Lib.hid fun W _ => hm2 W) (Lib.hid fun W => raround_any day (q - p + 1) hd.1 hd.2 (by omega) (by omega) W)
    · exact walk_3 p q r s t u day _ _ _ _ _ _ _ A l.length cc w v1.1 v1.2.1 v1.2.2 v2.1 v2.2.1 v2.2.2 v3.1 v3.2.1 v3.2.2 he.1 he.2 h1 h2 (Lib.hid fun W hb => lives_any W (hK.below hb)) (Lib.hid fun W hb => by have := rat_any l A l.length cc rfl hlc hcm 0 (by omega) 1022679 (by omega) (by omega) W (hr.below hb) hi; exact this) (Lib.hid fun W hb => by have := rat_any l A l.length cc rfl hlc hcm 1 (by omega) 1048576 (by omega) (by omega) W (hr.below hb) hi; exact this) (Lib.hid fun W hb => by have := rat_any l A l.length cc rfl hlc hcm 2 (by omega) 1022679 (by omega) (by omega) W (hr.below hb) hi; exact this) (Lib.hid fun W hb => by have := rat_any l A l.length cc rfl hlc hcm 3 (by omega) 1048576 (by omega) (by omega) W (hr.below hb) hi; exact this) (Lib.hid fun W hb => by have := rat_any l A l.length cc rfl hlc hcm 4 (by omega) 1022679 (by omega) (by omega) W (hr.below hb) hi; exact this) (Lib.hid fun W hb => by have := rat_any l A l.length cc rfl hlc hcm 5 (by omega) 1048576 (by omega) (by omega) W (hr.below hb) hi; exact this) (Lib.hid fun W _ => hm0 W) (Lib.hid fun W _ => hm1 W) (Lib.hid fun W _ => hm2 W) (Lib.hid fun W => raround_any day (q - p + 1) hd.1 hd.2 (by omega) (by omega) W)

set_option maxRecDepth 100000 in
theorem contract (H : Type) (enc : TypeId × Value → H) (W : World) (base : Nat) (args : Array Value) (ds gs : List (DataW H)) (before : List MemPlace)
    (hval : ∀ (j : Nat) t v, Tryd.f10.params[j]? = some t → args[j]? = some v → Value.okWide Tryd.prog W .any base t v)
    (hW : DataW.Whole enc Tryd.prog Tryd.f10.params.toList Rows.calendarOrderSpec.vars false W args.toList ds gs before) (hK : KC W) :
    Calls Tryd.prog 10 args W fun e W' => ∃ v, e = .returned v ∧ Rows.calendarOrderSpec.post enc Tryd.prog Tryd.f10 false true false false W args v W' := by
  have hW' := hW
  obtain ⟨p, q, hA0, hV, rfl, hfz, hnd⟩ := hW
  have hA : DataW.TrodAll enc Tryd.prog W 0 (fun _ => true) true Tryd.f10.params.toList args.toList ds p := hA0
  rw [Tryd.params10] at hA hval
  obtain ⟨v0, v1, d0, d1, p0, p1, rfl, rfl, rfl, h0, h1⟩ := trodAll_two hA
  obtain ⟨rfl, rfl⟩ := trodVars_none hV
  obtain ⟨lA, ll, lc, rfl, lr, li, ln, lm⟩ := open_ivs (hval 0 47 v0 rfl rfl) h0
  obtain ⟨day, rfl, rfl, rfl, dayw⟩ := open_int Tryd.underlying3 (hval 1 3 v1 rfl rfl) h1
  have dayi := inI_wf dayw
  have hargs : (#[.slice lA ll.length lc, .int .i64 day] : Array Value) = #[.slice lA ll.length lc, .int .i64 day] := by rfl
  have hwalk : Calls Tryd.prog 10 #[.slice lA ll.length lc, .int .i64 day] W fun e W' => e = .returned (.bool true) ∧ Below W.heap.size W W' := by
    rw [hargs]
    exact walk ll lA lc day dayi li ln lm W lr hK
  refine hwalk.mono fun e W' ⟨he, hb⟩ => ⟨_, he, ?_⟩
  exact law_post rfl rfl (by kernel_rfl) hW' rfl hb

set_option maxRecDepth 100000 in
theorem lifted (os : Os) (started : os.Started) (H : Type) (enc : TypeId × Value → H) :
    ReturnsInHanded {} Tryd.checked os 10 .any (fun w args => (Rows.calendarOrderSpec.pre enc Tryd.prog Tryd.f10 [] false w args ∧ laidMetH Tryd.prog laid4 w) ∧ sizedMet enc Tryd.prog Tryd.f10 (OpenSpec.ofChange Rows.calendarOrderSpec) false w args)
      (Rows.calendarOrderSpec.post enc Tryd.prog Tryd.f10 false true false false) := by
  refine returnsInHanded_of_change_and (C := Tryd.checked) (X := fun w _ => laidMetH Tryd.prog laid4 w) (fun _ _ _ hh h => h.of_heap hh) Tryd.own started (by kernel_rfl) Tryd.func10
    (ChangeSpec.witness_shaped (enc := enc) (C := Tryd.checked) (os := os) (X := fun w _ => laidMetH Tryd.prog laid4 w) false (World.doorLaid Tryd.prog 400 os) #[.slice none 0 0, .int .i64 0] 8 rfl (World.shaped_of_RefB (by kernel_rfl) (by kernel_rfl)) (by kernel_rfl) (by kernel_rfl) (by kernel_rfl) (door_met4 os _)) ?_
  intro W base args ds gs before hval hW _ hsz hL _
  exact contract H enc W base args ds gs before hval hW (of_laid4 hL)

theorem row : Rows.CalendarOrderSaid :=
  OpenClaim.holds_of_wide 10 Tryd.f10 rfl rfl rfl rfl rfl rfl rfl ⟨rfl, rfl, rfl, rfl, rfl⟩ rfl rfl rfl rfl rfl (by kernel_rfl) Tryd.func10 (by kernel_rfl)
    (of_decide_eq_true (by kernel_rfl)) (by unfold Func.isWrapper; first | (rw [if_pos (by decide +kernel)]; kernel_rfl) | (rw [if_neg (by decide +kernel)]; exact ⟨rfl, rfl⟩))
    (fun os started H enc _ => lifted os started H enc)

theorem proved : Rows.CalendarOrderCardSaid :=
  Claim7.holds_tied_plain_at .later [] [.data, .data, .data, .data] true (true, "520023937c31a48c793982c9874225f2c411890cd26ecc880d0bbeb410484da2") false
    row (fun _ h => by cases h) (by kernel_rfl) (fun _ h => by cases h) calendarOrder_row_tie rfl ⟨rfl, rfl⟩ (by kernel_rfl) rfl
    (fun f fn hf hfn => by
      obtain rfl : f = 10 := Option.some.inj ((show Tryd.prog.funcNamed "wordbook/wordbooklaw04.CalendarOrder" = some 10 by kernel_rfl).symm.trans hf) |>.symm
      obtain rfl : fn = Tryd.f10 := (Option.some.inj (Tryd.func10.symm.trans hfn)).symm
      exact ⟨by kernel_rfl, fun j t ht => by
        rw [Tryd.params10] at ht
        have hm : t ∈ [47, 3] := by simpa using Array.mem_of_getElem? ht
        have hall : ([47, 3].all fun u => !Tryd.prog.wantsStandIn u) = true := by kernel_rfl
        exact (show Tryd.prog.wantsStandIn t = false by simpa using List.all_eq_true.1 hall t hm)⟩)
    (by kernel_rfl)
end CL8
end Go.Proofs.YtkaaejfochdjcaaDoor
