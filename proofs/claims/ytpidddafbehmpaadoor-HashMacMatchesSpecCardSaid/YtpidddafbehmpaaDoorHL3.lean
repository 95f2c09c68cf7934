/-
  HashMacMatchesSpec: for every key and every text, the law returns true and leaves them as they are; the two tables of constants are as the program's text lays them (the card ties them).
-/
import Derived.Test.YtpidddafbehmpaaDoorHLaw2
import Derived.Test.YtpidddafbehmpaaDoorHRMac
import Derived.ChangeMaps5
namespace Go.Proofs.YtpidddafbehmpaaDoor
open Go.ChangeShapes Go.WideShapes Go.ChangeAt Go.RowKit Go.ChangeMaps
open Sha
set_option linter.unusedVariables false
namespace L3

set_option maxRecDepth 100000 in
set_option maxHeartbeats 1000000 in
theorem walk_aux (a b M : List UInt8) (hM : M = mac a b) (ha : a.length ≤ 140737488355328) (hb : b.length ≤ 140737488355328) (w : World) (hK : KH w) (hR : KR w) :
    Calls Tryd.prog 5 #[.string (sb a), .string (sb b)] w fun e w' => e = .returned (.bool true) ∧ Below w.heap.size w w' := by
  have hsa := sb_size a
  have hsb := sb_size b
  have HK := Lib.hid (And.intro hK hR); clear hK hR
  by_cases h1 : a.length ≤ 400
  · by_cases h2 : b.length ≤ 400
    · have d1 : decide ((400 : Int) < (a.length : Int)) = false := by simp; omega
      have d2 : decide ((400 : Int) < (b.length : Int)) = false := by simp; omega
      have HM1 : Hid (∀ W, KH W → Calls Tryd.prog 18 #[.string (sb a), .string (sb b)] W fun e w' => e = .returned (.string (sb M)) ∧ Below W.heap.size W w') := Lib.hid fun W hk => by rw [hM]; exact mac_any a b (by omega) (by omega) W hk
      have HM2 : Hid (∀ W, KR W → Calls Tryd.prog 19 #[.string (sb a), .string (sb b)] W fun e w' => e = .returned (.string (sb M)) ∧ Below W.heap.size W w') := Lib.hid fun W hk => by rw [hM]; exact rmac_any a b (by omega) (by omega) W hk
      clear hM
      go_enter Tryd.func5, Tryd.ntmps5
      go_wp2_with (first
        | (refine (sanity_any _ HK.out.1).mono ?_; rintro e w1 ⟨rfl, hb1⟩; have HB1 := Lib.hid hb1; clear hb1)
        | ((with_reducible refine (HM1.out _ ?_).mono ?_); exact (HK.out.1.of HB1.out); rintro e w2 ⟨rfl, hb2⟩; have HB2 : Hid (Below w.heap.size w w2) := Lib.hid (below_next HB1.out hb2); clear hb2)
        | ((with_reducible refine (HM2.out _ ?_).mono ?_); exact (HK.out.2.of HB2.out); rintro e w3 ⟨rfl, hb3⟩; have HB3 : Hid (Below w.heap.size w w3) := Lib.hid (below_next HB2.out hb3); clear hb3))
      go_ret
      exact ⟨rfl, HB3.out⟩
    · have d1 : decide ((400 : Int) < (a.length : Int)) = false := by simp; omega
      have d2 : decide ((400 : Int) < (b.length : Int)) = true := by simp; omega
      clear hM
      go_enter Tryd.func5, Tryd.ntmps5
      go_wp2_with ((refine (sanity_any _ HK.out.1).mono ?_; rintro e w1 ⟨rfl, hb1⟩; have HB1 := Lib.hid hb1; clear hb1))
      go_ret
      exact ⟨rfl, HB1.out⟩
  · have d1 : decide ((400 : Int) < (a.length : Int)) = true := by simp; omega
    clear hM
    go_enter Tryd.func5, Tryd.ntmps5
    go_wp2_with ((refine (sanity_any _ HK.out.1).mono ?_; rintro e w1 ⟨rfl, hb1⟩; have HB1 := Lib.hid hb1; clear hb1))
    go_ret
    exact ⟨rfl, HB1.out⟩
theorem walk (a b : List UInt8) (ha : a.length ≤ 140737488355328) (hb : b.length ≤ 140737488355328) (w : World) (hK : KH w ∧ KR w) :
    Calls Tryd.prog 5 #[.string (sb a), .string (sb b)] w fun e w' => e = .returned (.bool true) ∧ Below w.heap.size w w' :=
  walk_aux a b _ rfl ha hb w hK.1 hK.2

set_option maxRecDepth 100000 in
theorem contract (H : Type) (enc : TypeId × Value → H) (W : World) (base : Nat) (args : Array Value) (ds gs : List (DataW H)) (before : List MemPlace)
    (hval : ∀ (j : Nat) t v, Tryd.f5.params[j]? = some t → args[j]? = some v → Value.okWide Tryd.prog W .any base t v)
    (hW : DataW.Whole enc Tryd.prog Tryd.f5.params.toList Rows.hashMacMatchesSpecSpec.vars false W args.toList ds gs before)
    (hsz : (DataW.weightsEach Tryd.prog (Tryd.f5.params.toList ++ Rows.hashMacMatchesSpecSpec.plain.varTypes Tryd.prog) (ds ++ gs)).all (· ≤ reachBytes) = true) (hK : KH W ∧ KR W) :
    Calls Tryd.prog 5 args W fun e W' => ∃ v, e = .returned v ∧ Rows.hashMacMatchesSpecSpec.post enc Tryd.prog Tryd.f5 false true false false W args v W' := by
  have hW' := hW
  obtain ⟨p, q, hA0, hV, rfl, hfz, hnd⟩ := hW
  have hA : DataW.TrodAll enc Tryd.prog W 0 (fun _ => true) true Tryd.f5.params.toList args.toList ds p := hA0
  rw [Tryd.params5] at hA hval hsz
  obtain ⟨v0, v1, d0, d1, p0, p1, rfl, rfl, rfl, h0, h1⟩ := trodAll_two hA
  obtain ⟨rfl, rfl⟩ := trodVars_none hV
  obtain ⟨s0, rfl, rfl, rfl, ws0⟩ := open_string Tryd.underlying9 (hval 0 9 v0 rfl rfl) h0
  obtain ⟨s1, rfl, rfl, rfl, ws1⟩ := open_string Tryd.underlying9 (hval 1 9 v1 rfl rfl) h1
  have hs0 := sized_string hsz (j := 0) (t := 9) rfl rfl
  have hs1 := sized_string hsz (j := 1) (t := 9) rfl rfl
  refine (walk s0.data.toList s1.data.toList (Nat.le_trans (m := 140737488351232) (by simpa [reachBytes] using hs0) (by omega)) (Nat.le_trans (m := 140737488351232) (by simpa [reachBytes] using hs1) (by omega)) W hK).mono fun e W' ⟨he, hb⟩ => ⟨_, he, ?_⟩
  exact law_post rfl rfl (by kernel_rfl) hW' rfl hb

set_option maxRecDepth 100000 in
theorem lifted (os : Os) (started : os.Started) (H : Type) (enc : TypeId × Value → H) :
    ReturnsInHanded {} Tryd.checked os 5 .any (fun w args => (Rows.hashMacMatchesSpecSpec.pre enc Tryd.prog Tryd.f5 [] false w args ∧ laidMetH Tryd.prog laid2 w) ∧ sizedMet enc Tryd.prog Tryd.f5 (OpenSpec.ofChange Rows.hashMacMatchesSpecSpec) false w args)
      (Rows.hashMacMatchesSpecSpec.post enc Tryd.prog Tryd.f5 false true false false) := by
  refine returnsInHanded_of_change_and (C := Tryd.checked) (X := fun w _ => laidMetH Tryd.prog laid2 w) (fun _ _ _ hh h => h.of_heap hh) Tryd.own started (by kernel_rfl) Tryd.func5
    (ChangeSpec.witness_shaped (enc := enc) (C := Tryd.checked) (os := os) (X := fun w _ => laidMetH Tryd.prog laid2 w) false (World.doorLaid Tryd.prog 400 os) #[.string ByteArray.empty, .string ByteArray.empty] 8 rfl (World.shaped_of_RefB (by kernel_rfl) (by kernel_rfl)) (by kernel_rfl) (by kernel_rfl) (by kernel_rfl) (door_met2 os _)) ?_
  intro W base args ds gs before hval hW _ hsz hL _
  exact contract H enc W base args ds gs before hval hW hsz (of_laid2 hL)

theorem row : Rows.HashMacMatchesSpecSaid :=
  OpenClaim.holds_of_wide 5 Tryd.f5 rfl rfl rfl rfl rfl rfl rfl ⟨rfl, rfl, rfl, rfl, rfl⟩ rfl rfl rfl rfl rfl (by kernel_rfl) Tryd.func5 (by kernel_rfl)
    (of_decide_eq_true (by kernel_rfl)) (by unfold Func.isWrapper; first | (rw [if_pos (by decide +kernel)]; kernel_rfl) | (rw [if_neg (by decide +kernel)]; exact ⟨rfl, rfl⟩))
    (fun os started H enc _ => lifted os started H enc)

theorem proved : Rows.HashMacMatchesSpecCardSaid :=
  Claim7.holds_tied_plain_at .later [] [.data, .data] true (true, "6fa3fdd116d3381a5e582ac1ee652fca5a46acc6e7226d526a164f01037ac487") false
    row (fun _ h => by cases h) (by kernel_rfl) (fun _ h => by cases h) hashMacMatchesSpec_row_tie rfl ⟨rfl, rfl⟩ (by kernel_rfl) rfl
    (fun f fn hf hfn => by
      obtain rfl : f = 5 := Option.some.inj ((show Tryd.prog.funcNamed "wordbook/wordbooklaw02.HashMacMatchesSpec" = some 5 by kernel_rfl).symm.trans hf) |>.symm
      obtain rfl : fn = Tryd.f5 := (Option.some.inj (Tryd.func5.symm.trans hfn)).symm
      exact ⟨by kernel_rfl, fun j t ht => by
        rw [Tryd.params5] at ht
        have hm : t ∈ [9, 9] := by simpa using Array.mem_of_getElem? ht
        have hall : ([9, 9].all fun u => !Tryd.prog.wantsStandIn u) = true := by kernel_rfl
        exact (show Tryd.prog.wantsStandIn t = false by simpa using List.all_eq_true.1 hall t hm)⟩)
    (by kernel_rfl)
end L3
end Go.Proofs.YtpidddafbehmpaaDoor
