/-
  HashEqualIsEquality: for all strings a and b, the law returns true and leaves them as they are; the table of constants is as the program's text lays it (the card ties it).
-/
import Derived.Test.YtpidddafbehmpaaDoorHLaw
import Derived.ChangeMaps5
namespace Go.Proofs.YtpidddafbehmpaaDoor
open Go.ChangeShapes Go.WideShapes Go.ChangeAt Go.RowKit Go.ChangeMaps
open Sha
set_option linter.unusedVariables false
namespace L7

theorem cat_nil (a : List UInt8) : sb a ++ ({ data := #[] } : ByteArray) = sb a := by
  apply ByteArray.ext
  simp
set_option maxRecDepth 100000 in
set_option maxHeartbeats 1000000 in
theorem walk (a b : List UInt8) (ha : a.length ≤ 140737488355328) (hb : b.length ≤ 140737488355328) (w : World) (hK : KH w) :
    Calls Tryd.prog 9 #[.string (sb a), .string (sb b)] w fun e w' => e = .returned (.bool true) ∧ Below w.heap.size w w' := by
  have hsa := sb_size a
  have hsb := sb_size b
  have hcat := cat_nil a
  have HK := Lib.hid hK; clear hK
  have HE1 : Hid (∀ W, Calls Tryd.prog 24 #[.string (sb a), .string (sb b)] W fun e w' => e = .returned (.bool (eqB a b)) ∧ ∃ m, w' = W.drewN m) := Lib.hid fun W => equal_any a b ha hb W
  have HE2 : Hid (∀ W, Calls Tryd.prog 24 #[.string (sb b), .string (sb a)] W fun e w' => e = .returned (.bool (eqB a b)) ∧ ∃ m, w' = W.drewN m) := Lib.hid fun W => by rw [eqB_comm]; exact equal_any b a hb ha W
  have HE3 : Hid (∀ W, Calls Tryd.prog 24 #[.string (sb a), .string (sb a)] W fun e w' => e = .returned (.bool true) ∧ ∃ m, w' = W.drewN m) := Lib.hid fun W => by have := equal_any a a ha ha W; rw [eqB_refl] at this; exact this
  have HEQ : Hid (eqB a b = ((sb a).toList == (sb b).toList)) := Lib.hid (by
    rw [Bool.eq_iff_iff, eqB_iff, beq_iff_eq, ByteArray.toList_eq, ByteArray.toList_eq]
    show _ ↔ (sb a).data.toList = (sb b).data.toList
    exact Iff.rfl)
  by_cases h1 : a.length ≤ 400
  · by_cases h2 : b.length ≤ 400
    · have d1 : decide ((400 : Int) < (a.length : Int)) = false := by simp; omega
      have d2 : decide ((400 : Int) < (b.length : Int)) = false := by simp; omega
      go_enter Tryd.func9, Tryd.ntmps9
      go_wp2_with (first
        | (refine (sanity_any _ HK.out).mono ?_; rintro e w1 ⟨rfl, hb1⟩; have HB1 := Lib.hid hb1; clear hb1)
        | ((with_reducible refine (HE1.out _).mono ?_); rintro e w2 ⟨rfl, m1, rfl⟩)
        | ((with_reducible refine (HE2.out _).mono ?_); rintro e w3 ⟨rfl, m2, rfl⟩)
        | ((with_reducible refine (HE3.out _).mono ?_); rintro e w4 ⟨rfl, m3, rfl⟩))
      go_ret
      exact ⟨rfl, below_drewN HB1.out _⟩
    · have d1 : decide ((400 : Int) < (a.length : Int)) = false := by simp; omega
      have d2 : decide ((400 : Int) < (b.length : Int)) = true := by simp; omega
      go_enter Tryd.func9, Tryd.ntmps9
      go_wp2_with ((refine (sanity_any _ HK.out).mono ?_; rintro e w1 ⟨rfl, hb1⟩; have HB1 := Lib.hid hb1; clear hb1))
      go_ret
      exact ⟨rfl, HB1.out⟩
  · have d1 : decide ((400 : Int) < (a.length : Int)) = true := by simp; omega
    go_enter Tryd.func9, Tryd.ntmps9
    go_wp2_with ((refine (sanity_any _ HK.out).mono ?_; rintro e w1 ⟨rfl, hb1⟩; have HB1 := Lib.hid hb1; clear hb1))
    go_ret
    exact ⟨rfl, HB1.out⟩
set_option maxRecDepth 100000 in
theorem contract (H : Type) (enc : TypeId × Value → H) (W : World) (base : Nat) (args : Array Value) (ds gs : List (DataW H)) (before : List MemPlace)
    (hval : ∀ (j : Nat) t v, Tryd.f9.params[j]? = some t → args[j]? = some v → Value.okWide Tryd.prog W .any base t v)
    (hW : DataW.Whole enc Tryd.prog Tryd.f9.params.toList Rows.hashEqualIsEqualitySpec.vars false W args.toList ds gs before)
    (hsz : (DataW.weightsEach Tryd.prog (Tryd.f9.params.toList ++ Rows.hashEqualIsEqualitySpec.plain.varTypes Tryd.prog) (ds ++ gs)).all (· ≤ reachBytes) = true) (hK : KH W) :
    Calls Tryd.prog 9 args W fun e W' => ∃ v, e = .returned v ∧ Rows.hashEqualIsEqualitySpec.post enc Tryd.prog Tryd.f9 false true false false W args v W' := by
  have hW' := hW
  obtain ⟨p, q, hA0, hV, rfl, hfz, hnd⟩ := hW
  have hA : DataW.TrodAll enc Tryd.prog W 0 (fun _ => true) true Tryd.f9.params.toList args.toList ds p := hA0
  rw [Tryd.params9] at hA hval hsz
  obtain ⟨v0, v1, d0, d1, p0, p1, rfl, rfl, rfl, h0, h1⟩ := trodAll_two hA
  obtain ⟨rfl, rfl⟩ := trodVars_none hV
  obtain ⟨s0, rfl, rfl, rfl, ws0⟩ := open_string Tryd.underlying9 (hval 0 9 v0 rfl rfl) h0
  obtain ⟨s1, rfl, rfl, rfl, ws1⟩ := open_string Tryd.underlying9 (hval 1 9 v1 rfl rfl) h1
  have hs0 := sized_string hsz (j := 0) (t := 9) rfl rfl
  have hs1 := sized_string hsz (j := 1) (t := 9) rfl rfl
  refine (walk s0.data.toList s1.data.toList (Nat.le_trans (m := 140737488351232) (by simpa [reachBytes] using hs0) (by omega)) (Nat.le_trans (m := 140737488351232) (by simpa [reachBytes] using hs1) (by omega)) W hK).mono fun e W' ⟨he, hb⟩ => ⟨_, he, ?_⟩
  exact law_post rfl rfl (by kernel_rfl) hW' rfl hb

set_option maxRecDepth 100000 in
theorem lifted (os : Os) (started : os.Started) (H : Type) (enc : TypeId × Value → H) :
    ReturnsInHanded {} Tryd.checked os 9 .any (fun w args => (Rows.hashEqualIsEqualitySpec.pre enc Tryd.prog Tryd.f9 [] false w args ∧ laidMetH Tryd.prog laid1 w) ∧ sizedMet enc Tryd.prog Tryd.f9 (OpenSpec.ofChange Rows.hashEqualIsEqualitySpec) false w args)
      (Rows.hashEqualIsEqualitySpec.post enc Tryd.prog Tryd.f9 false true false false) := by
  refine returnsInHanded_of_change_and (C := Tryd.checked) (X := fun w _ => laidMetH Tryd.prog laid1 w) (fun _ _ _ hh h => h.of_heap hh) Tryd.own started (by kernel_rfl) Tryd.func9
    (ChangeSpec.witness_shaped (enc := enc) (C := Tryd.checked) (os := os) (X := fun w _ => laidMetH Tryd.prog laid1 w) false (World.doorLaid Tryd.prog 400 os) #[.string ByteArray.empty, .string ByteArray.empty] 8 rfl (World.shaped_of_RefB (by kernel_rfl) (by kernel_rfl)) (by kernel_rfl) (by kernel_rfl) (by kernel_rfl) (door_met1 os _)) ?_
  intro W base args ds gs before hval hW _ hsz hL _
  exact contract H enc W base args ds gs before hval hW hsz (of_laid1 hL)

theorem row : Rows.HashEqualIsEqualitySaid :=
  OpenClaim.holds_of_wide 9 Tryd.f9 rfl rfl rfl rfl rfl rfl rfl ⟨rfl, rfl, rfl, rfl, rfl⟩ rfl rfl rfl rfl rfl (by kernel_rfl) Tryd.func9 (by kernel_rfl)
    (of_decide_eq_true (by kernel_rfl)) (by unfold Func.isWrapper; first | (rw [if_pos (by decide +kernel)]; kernel_rfl) | (rw [if_neg (by decide +kernel)]; exact ⟨rfl, rfl⟩))
    (fun os started H enc _ => lifted os started H enc)

theorem proved : Rows.HashEqualIsEqualityCardSaid :=
  Claim7.holds_tied_plain_at .later [] [.data] true (true, "6fa3fdd116d3381a5e582ac1ee652fca5a46acc6e7226d526a164f01037ac487") false
    row (fun _ h => by cases h) (by kernel_rfl) (fun _ h => by cases h) hashEqualIsEquality_row_tie rfl ⟨rfl, rfl⟩ (by kernel_rfl) rfl
    (fun f fn hf hfn => by
      obtain rfl : f = 9 := Option.some.inj ((show Tryd.prog.funcNamed "wordbook/wordbooklaw02.HashEqualIsEquality" = some 9 by kernel_rfl).symm.trans hf) |>.symm
      obtain rfl : fn = Tryd.f9 := (Option.some.inj (Tryd.func9.symm.trans hfn)).symm
      exact ⟨by kernel_rfl, fun j t ht => by
        rw [Tryd.params9] at ht
        have hm : t ∈ [9, 9] := by simpa using Array.mem_of_getElem? ht
        have hall : ([9, 9].all fun u => !Tryd.prog.wantsStandIn u) = true := by kernel_rfl
        exact (show Tryd.prog.wantsStandIn t = false by simpa using List.all_eq_true.1 hall t hm)⟩)
    (by kernel_rfl)
end L7
end Go.Proofs.YtpidddafbehmpaaDoor
