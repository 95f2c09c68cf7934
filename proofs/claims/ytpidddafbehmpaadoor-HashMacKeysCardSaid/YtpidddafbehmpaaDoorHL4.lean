/-
  HashMacKeys: for every key and every text, the law returns true and leaves them as they are; the table of constants is as the program's text lays it (the card ties it).
-/
import Derived.Test.YtpidddafbehmpaaDoorHLaw
import Derived.ChangeMaps5
namespace Go.Proofs.YtpidddafbehmpaaDoor
open Go.ChangeShapes Go.WideShapes Go.ChangeAt Go.RowKit Go.ChangeMaps
open Sha
set_option linter.unusedVariables false
namespace L4

theorem fill_snoc (k : List UInt8) (h : k.length < 64) : fill (k ++ [0]) = fill k := by
  unfold fill
  rw [List.length_append, List.length_singleton, show 64 - k.length = (64 - (k.length + 1)) + 1 from by omega, List.replicate_succ, List.append_assoc, List.singleton_append]
theorem mac_sha (k t : List UInt8) (h : 64 < k.length) : mac (sha k) t = mac k t := by
  have e : ekey (sha k) = ekey k := by rw [ekey, ekey, if_pos h, if_neg (by rw [sha_length]; omega)]
  rw [mac, mac, e]
theorem mac_snoc (k t : List UInt8) (h : k.length < 64) : mac (k ++ [0]) t = mac k t := by
  have e1 : ekey (k ++ [0]) = k ++ [0] := by rw [ekey, if_neg (by simp; omega)]
  have e2 : ekey k = k := by rw [ekey, if_neg (by omega)]
  have em : ∀ x, mask (k ++ [0]) x = mask k x := fun x => by rw [mask, mask, fill_snoc k h]
  rw [mac, mac, e1, e2, em, em]
theorem mac_length (k t : List UInt8) : (mac k t).length = 32 := by rw [mac, sha_length]
theorem cat_zero (a : List UInt8) : sb a ++ ({ data := #[0] } : ByteArray) = sb (a ++ [0]) := by
  apply ByteArray.ext
  apply Array.ext'
  simp [sb]
set_option maxRecDepth 100000 in
set_option maxHeartbeats 1000000 in
theorem walk_aux (a b M S : List UInt8) (hM : M = mac a b) (hS : S = sha a) (ha : a.length ≤ 140737488355328) (hb : b.length ≤ 140737488355328) (w : World) (hK : KH w) :
    Calls Tryd.prog 6 #[.string (sb a), .string (sb b)] w fun e w' => e = .returned (.bool true) ∧ Below w.heap.size w w' := by
  have hsa := sb_size a
  have hsb := sb_size b
  have hsM : (sb M).size = 32 := by rw [sb_size, hM, mac_length]
  have HK := Lib.hid hK; clear hK
  have HM1 : Hid (∀ W, KH W → Calls Tryd.prog 18 #[.string (sb a), .string (sb b)] W fun e w' => e = .returned (.string (sb M)) ∧ Below W.heap.size W w') := Lib.hid fun W hk => by rw [hM]; exact mac_any a b (by omega) (by omega) W hk
  by_cases h1 : a.length ≤ 400
  · by_cases h2 : b.length ≤ 400
    · have d1 : decide ((400 : Int) < (a.length : Int)) = false := by simp; omega
      have d2 : decide ((400 : Int) < (b.length : Int)) = false := by simp; omega
      by_cases hl : 64 < a.length
      · have d3 : decide ((64 : Int) < (a.length : Int)) = true := by simp; omega
        have HM2 : Hid (∀ W, KH W → Calls Tryd.prog 18 #[.string (sb S), .string (sb b)] W fun e w' => e = .returned (.string (sb M)) ∧ Below W.heap.size W w') := Lib.hid fun W hk => by rw [hM, ← mac_sha a b hl, hS]; exact mac_any (sha a) b (by omega) (by rw [sha_length]; omega) W hk
        have hhs := fun (A : Option Addr) (c : Nat) (W : World) (hr : Rd W A (bs a)) (hk : KH W) => hsum_any a A (sb a).size c hsa (by omega) W hr hk
        rw [← hS] at hhs
        have HHS := Lib.hid hhs; clear hhs
        have HB32 : Hid (∀ W, Calls Tryd.prog 20 #[.agg (bs S).toArray] W fun e w' => e = .returned (.string (sb S)) ∧ Below W.heap.size W w') := Lib.hid fun W => b32_any S (by rw [hS, sha_length]) W
        clear hM hS
        go_enter Tryd.func6, Tryd.ntmps6
        go_wp2_with (first
          | (refine (sanity_any _ HK.out).mono ?_; rintro e w1 ⟨rfl, hb1⟩; have HB1 := Lib.hid hb1; clear hb1)
          | ((with_reducible refine (HM1.out _ ?_).mono ?_); exact (HK.out.below HB1.out HK.out.2); rintro e w2 ⟨rfl, hb2⟩; have HB2 : Hid (Below w.heap.size w w2) := Lib.hid (below_next HB1.out hb2); clear hb2; obtain ⟨c0, w3, hcb, hr0, hbl0⟩ := conv_back (P := Tryd.prog) (src := 9) (dst := 22) Tryd.underlying9 Tryd.underlying22 Tryd.underlying5 w2 (sb a); have HR0 := Lib.hid hr0; clear hr0; have HB3 : Hid (Below w.heap.size w w3) := Lib.hid (below_next HB2.out hbl0); clear hbl0)
          | (refine (HHS.out _ _ _ (by have := HR0.out; rw [sb_list] at this; exact this) (HK.out.below HB3.out HK.out.2)).mono ?_; rintro e w4 ⟨rfl, hb4⟩; have HB4 : Hid (Below w.heap.size w w4) := Lib.hid (below_next HB3.out hb4); clear hb4)
          | ((with_reducible refine (HB32.out _).mono ?_); rintro e w5 ⟨rfl, hb5⟩; have HB5 : Hid (Below w.heap.size w w5) := Lib.hid (below_next HB4.out hb5); clear hb5)
          | ((with_reducible refine (HM2.out _ ?_).mono ?_); exact (HK.out.below HB5.out HK.out.2); rintro e w6 ⟨rfl, hb6⟩; have HB6 : Hid (Below w.heap.size w w6) := Lib.hid (below_next HB5.out hb6); clear hb6))
        go_ret
        exact ⟨rfl, HB6.out⟩
      · have d3 : decide ((64 : Int) < (a.length : Int)) = false := by simp; omega
        by_cases hs : a.length < 64
        · have d4 : decide ((a.length : Int) < (64 : Int)) = true := by simp; omega
          have hcat := cat_zero a
          have HM2 : Hid (∀ W, KH W → Calls Tryd.prog 18 #[.string (sb (a ++ [0])), .string (sb b)] W fun e w' => e = .returned (.string (sb M)) ∧ Below W.heap.size W w') := Lib.hid fun W hk => by rw [hM, ← mac_snoc a b hs]; exact mac_any (a ++ [0]) b (by omega) (by simp; omega) W hk
          clear hM hS
          go_enter Tryd.func6, Tryd.ntmps6
          go_wp2_with (first
            | (refine (sanity_any _ HK.out).mono ?_; rintro e w1 ⟨rfl, hb1⟩; have HB1 := Lib.hid hb1; clear hb1)
            | ((with_reducible refine (HM1.out _ ?_).mono ?_); exact (HK.out.below HB1.out HK.out.2); rintro e w2 ⟨rfl, hb2⟩; have HB2 : Hid (Below w.heap.size w w2) := Lib.hid (below_next HB1.out hb2); clear hb2)
            | ((with_reducible refine (HM2.out _ ?_).mono ?_); exact (HK.out.below HB2.out HK.out.2); rintro e w6 ⟨rfl, hb6⟩; have HB6 : Hid (Below w.heap.size w w6) := Lib.hid (below_next HB2.out hb6); clear hb6))
          go_ret
          exact ⟨rfl, HB6.out⟩
        · have d4 : decide ((a.length : Int) < (64 : Int)) = false := by simp; omega
          clear hM hS
          go_enter Tryd.func6, Tryd.ntmps6
          go_wp2_with (first
            | (refine (sanity_any _ HK.out).mono ?_; rintro e w1 ⟨rfl, hb1⟩; have HB1 := Lib.hid hb1; clear hb1)
            | ((with_reducible refine (HM1.out _ ?_).mono ?_); exact (HK.out.below HB1.out HK.out.2); rintro e w2 ⟨rfl, hb2⟩; have HB2 : Hid (Below w.heap.size w w2) := Lib.hid (below_next HB1.out hb2); clear hb2))
          go_ret
          exact ⟨rfl, HB2.out⟩
    · have d1 : decide ((400 : Int) < (a.length : Int)) = false := by simp; omega
      have d2 : decide ((400 : Int) < (b.length : Int)) = true := by simp; omega
      clear hM hS
      go_enter Tryd.func6, Tryd.ntmps6
      go_wp2_with ((refine (sanity_any _ HK.out).mono ?_; rintro e w1 ⟨rfl, hb1⟩; have HB1 := Lib.hid hb1; clear hb1))
      go_ret
      exact ⟨rfl, HB1.out⟩
  · have d1 : decide ((400 : Int) < (a.length : Int)) = true := by simp; omega
    clear hM hS
    go_enter Tryd.func6, Tryd.ntmps6
    go_wp2_with ((refine (sanity_any _ HK.out).mono ?_; rintro e w1 ⟨rfl, hb1⟩; have HB1 := Lib.hid hb1; clear hb1))
    go_ret
    exact ⟨rfl, HB1.out⟩
theorem walk (a b : List UInt8) (ha : a.length ≤ 140737488355328) (hb : b.length ≤ 140737488355328) (w : World) (hK : KH w) :
    Calls Tryd.prog 6 #[.string (sb a), .string (sb b)] w fun e w' => e = .returned (.bool true) ∧ Below w.heap.size w w' :=
  walk_aux a b _ _ rfl rfl ha hb w hK

set_option maxRecDepth 100000 in
theorem contract (H : Type) (enc : TypeId × Value → H) (W : World) (base : Nat) (args : Array Value) (ds gs : List (DataW H)) (before : List MemPlace)
    (hval : ∀ (j : Nat) t v, Tryd.f6.params[j]? = some t → args[j]? = some v → Value.okWide Tryd.prog W .any base t v)
    (hW : DataW.Whole enc Tryd.prog Tryd.f6.params.toList Rows.hashMacKeysSpec.vars false W args.toList ds gs before)
    (hsz : (DataW.weightsEach Tryd.prog (Tryd.f6.params.toList ++ Rows.hashMacKeysSpec.plain.varTypes Tryd.prog) (ds ++ gs)).all (· ≤ reachBytes) = true) (hK : KH W) :
    Calls Tryd.prog 6 args W fun e W' => ∃ v, e = .returned v ∧ Rows.hashMacKeysSpec.post enc Tryd.prog Tryd.f6 false true false false W args v W' := by
  have hW' := hW
  obtain ⟨p, q, hA0, hV, rfl, hfz, hnd⟩ := hW
  have hA : DataW.TrodAll enc Tryd.prog W 0 (fun _ => true) true Tryd.f6.params.toList args.toList ds p := hA0
  rw [Tryd.params6] at hA hval hsz
  obtain ⟨v0, v1, d0, d1, p0, p1, rfl, rfl, rfl, h0, h1⟩ := trodAll_two hA
  obtain ⟨rfl, rfl⟩ := trodVars_none hV
  obtain ⟨s0, rfl, rfl, rfl, ws0⟩ := open_string Tryd.underlying9 (hval 0 9 v0 rfl rfl) h0
  obtain ⟨s1, rfl, rfl, rfl, ws1⟩ := open_string Tryd.underlying9 (hval 1 9 v1 rfl rfl) h1
  have hs0 := sized_string hsz (j := 0) (t := 9) rfl rfl
  have hs1 := sized_string hsz (j := 1) (t := 9) rfl rfl
  refine (walk s0.data.toList s1.data.toList (Nat.le_trans (m := 140737488351232) (by simpa [reachBytes] using hs0) (by omega)) (Nat.le_trans (m := 140737488351232) (by simpa [reachBytes] using hs1) (by omega)) W hK).mono fun e W' ⟨he, hb⟩ => ⟨_, he, ?_⟩
  exact law_post rfl rfl (by kernel_rfl) hW' rfl hb

set_option maxRecDepth 100000 in
theorem lifted (os : Os) (started : os.Started) (H : Type) (enc : TypeId × Value → H) :
    ReturnsInHanded {} Tryd.checked os 6 .any (fun w args => (Rows.hashMacKeysSpec.pre enc Tryd.prog Tryd.f6 [] false w args ∧ laidMetH Tryd.prog laid1 w) ∧ sizedMet enc Tryd.prog Tryd.f6 (OpenSpec.ofChange Rows.hashMacKeysSpec) false w args)
      (Rows.hashMacKeysSpec.post enc Tryd.prog Tryd.f6 false true false false) := by
  refine returnsInHanded_of_change_and (C := Tryd.checked) (X := fun w _ => laidMetH Tryd.prog laid1 w) (fun _ _ _ hh h => h.of_heap hh) Tryd.own started (by kernel_rfl) Tryd.func6
    (ChangeSpec.witness_shaped (enc := enc) (C := Tryd.checked) (os := os) (X := fun w _ => laidMetH Tryd.prog laid1 w) false (World.doorLaid Tryd.prog 400 os) #[.string ByteArray.empty, .string ByteArray.empty] 8 rfl (World.shaped_of_RefB (by kernel_rfl) (by kernel_rfl)) (by kernel_rfl) (by kernel_rfl) (by kernel_rfl) (door_met1 os _)) ?_
  intro W base args ds gs before hval hW _ hsz hL _
  exact contract H enc W base args ds gs before hval hW hsz (of_laid1 hL)

theorem row : Rows.HashMacKeysSaid :=
  OpenClaim.holds_of_wide 6 Tryd.f6 rfl rfl rfl rfl rfl rfl rfl ⟨rfl, rfl, rfl, rfl, rfl⟩ rfl rfl rfl rfl rfl (by kernel_rfl) Tryd.func6 (by kernel_rfl)
    (of_decide_eq_true (by kernel_rfl)) (by unfold Func.isWrapper; first | (rw [if_pos (by decide +kernel)]; kernel_rfl) | (rw [if_neg (by decide +kernel)]; exact ⟨rfl, rfl⟩))
    (fun os started H enc _ => lifted os started H enc)

theorem proved : Rows.HashMacKeysCardSaid :=
  Claim7.holds_tied_plain_at .later [] [.data] true (true, "6fa3fdd116d3381a5e582ac1ee652fca5a46acc6e7226d526a164f01037ac487") false
    row (fun _ h => by cases h) (by kernel_rfl) (fun _ h => by cases h) hashMacKeys_row_tie rfl ⟨rfl, rfl⟩ (by kernel_rfl) rfl
    (fun f fn hf hfn => by
      obtain rfl : f = 6 := Option.some.inj ((show Tryd.prog.funcNamed "wordbook/wordbooklaw02.HashMacKeys" = some 6 by kernel_rfl).symm.trans hf) |>.symm
      obtain rfl : fn = Tryd.f6 := (Option.some.inj (Tryd.func6.symm.trans hfn)).symm
      exact ⟨by kernel_rfl, fun j t ht => by
        rw [Tryd.params6] at ht
        have hm : t ∈ [9, 9] := by simpa using Array.mem_of_getElem? ht
        have hall : ([9, 9].all fun u => !Tryd.prog.wantsStandIn u) = true := by kernel_rfl
        exact (show Tryd.prog.wantsStandIn t = false by simpa using List.all_eq_true.1 hall t hm)⟩)
    (by kernel_rfl)
end L4
end Go.Proofs.YtpidddafbehmpaaDoor
