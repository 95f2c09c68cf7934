/-
  WireIntRoundTrip: for every integer and every tail the law returns true, and nothing that was there has turned.
-/
import Derived.Test.YtelkekicceoaoaaWLaw
import Derived.Test.YtelkekicceoaoaaWBase2
namespace Go.Proofs.Ytelkekicceoaoaa
open Go.ChangeShapes Go.WideShapes Go.ChangeAt Go.RowKit
set_option linter.unusedVariables false
namespace L4

set_option maxHeartbeats 400000 in
theorem walk (n : Int) (hn : inI n) (A : Option Addr) (l : List UInt8) (c : Nat) (w : World) (hA : A = none → l = []) (hr : Rd w A (bs l)) (hc : l.length ≤ c) (hm : c ≤ maxLen) :
    Calls Try.prog 6 #[.int .i64 n, .slice A l.length c] w (San w) := by
  have hlen : l.length ≤ 9223372036854775807 := by unfold maxLen at hm; omega
  obtain ⟨i0, hi0, hz0, hz1, hz2⟩ := info_parts Try.info5
  have HN := Lib.hid hn; clear hn
  have HR := Lib.hid hr; clear hr
  have HM := Lib.hid hm; clear hm
  have HA := Lib.hid hA; clear hA
  go_enter Try.func6, Try.ntmps6
  by_cases hbig : 2000 < l.length
  · go_wp2_with fail
    refine (sanity_any w).mono ?_
    rintro e w1 ⟨rfl, hb⟩
    go_wp2_with fail
    go_ret
    exact ⟨rfl, hb⟩
  · go_wp2_with fail
    refine (int_any n HN.out w).mono ?_
    rintro e w1 ⟨v1, rfl, hown, hb1⟩
    have hlen1 := en_length n
    obtain ⟨g, cap, rfl, hbg, hlt⟩ := hown.form (by omega)
    obtain ⟨A1, c1, e1, hrd1, hc1, hm1⟩ := Rd.of_own hown
    obtain ⟨rfl, rfl⟩ : some (⟨g, 0, none⟩ : Addr) = A1 ∧ cap = c1 := by simpa using e1
    obtain ⟨b, o, hA1, hcell1⟩ := hrd1.open (by intro e; have := congrArg List.length e; rw [bs_length, List.length_nil] at this; omega)
    obtain ⟨rfl, rfl⟩ : g = b ∧ 0 = o := by simpa using hA1
    have hm9 : cap ≤ 9223372036854775807 := by unfold maxLen at hm1; omega
    obtain ⟨N, hN⟩ : ∃ N, (en n).length = N := ⟨_, rfl⟩
    have HE : Hid (N = (en n).length) := hN.symm
    have HC := Lib.hid hcell1
    rw [hN] at hlen1 hc1 ⊢
    obtain ⟨hN1, hN9⟩ := hlen1
    clear hown hrd1 hcell1 e1 hA1 hN hm1
    go_wp2_with (at_builtin; refine wpList_full_src rfl (.tmp 21) (.tmp 22) 28 28 rfl 5 i0 _ 1 Try.underlying28 hi0 hz0 hz1 hz2 rfl g 0 N (bs (en n)) rfl ?c1 HC.out _ l.length (bs l) rfl (src_rd Try.underlying28 hz1 (HR.out.below hb1) HA.out c) ?c2 ?c3 ?_)
    case c1 => rw [bs_length]; exact HE.out.symm
    case c2 => unfold maxLen; omega
    case c3 => omega
    intro A2 c2 w2 hrd2 hb2 hc2 hm2
    have hb12 := below_next hb1 hb2
    rw [← bs_append] at hrd2
    have HR2 := Lib.hid hrd2; clear hrd2 hb2
    have HM2 := Lib.hid hm2; clear hm2
    go_wp2_with fail
    have hcall := getInt_any (en n ++ l) A2 c2 w2 (by rw [List.length_append, ← HE.out]; exact hc2) HM2.out HR2.out
    rw [gI_en n HN.out, List.length_append, ← HE.out] at hcall
    refine hcall.mono ?_
    rintro e w3 ⟨rfl, rfl⟩
    unfold ret3
    clear hcall
    go_wp2_with fail
    refine (sanity_any w2).mono ?_
    rintro e w4 ⟨rfl, hb4⟩
    have hb14 := below_next hb12 hb4
    go_wp2_with fail
    go_ret
    exact ⟨ret_bool (decide_eq_true (by omega)), hb14⟩

theorem contract (H : Type) (enc : TypeId × Value → H) (W : World) (base : Nat) (args : Array Value) (ds gs : List (DataW H)) (before : List MemPlace)
    (hval : ∀ (j : Nat) t v, Try.f6.params[j]? = some t → args[j]? = some v → Value.okWide Try.prog W .any base t v)
    (hW : DataW.Whole enc Try.prog Try.f6.params.toList Rows.wireIntRoundTripSpec.vars false W args.toList ds gs before) :
    Calls Try.prog 6 args W fun e W' => ∃ v, e = .returned v ∧ Rows.wireIntRoundTripSpec.post enc Try.prog Try.f6 false true false false W args v W' := by
  have hW' := hW
  obtain ⟨p, q, hA0, hV, rfl, hfz, hnd⟩ := hW
  have hA : DataW.TrodAll enc Try.prog W 0 (fun _ => true) true Try.f6.params.toList args.toList ds p := hA0
  rw [Try.params6] at hA hval
  obtain ⟨v0, v1, d0, d1, p0, p1, rfl, rfl, rfl, h0, h1⟩ := trodAll_two hA
  obtain ⟨rfl, rfl⟩ := trodVars_none hV
  obtain ⟨n, rfl, rfl, rfl, wn⟩ := open_int Try.underlying3 (hval 0 3 v0 rfl rfl) h0
  obtain ⟨A, l, c, rfl, hr, hc, hm, hA⟩ := open_rd (hval 1 28 v1 rfl rfl) h1
  refine (walk n (inI_wf wn) A l c W hA hr hc hm).mono fun e W' ⟨he, hb⟩ => ⟨_, he, ?_⟩
  exact law_post rfl rfl (by kernel_rfl) hW' rfl hb

set_option maxRecDepth 100000 in
theorem lifted (os : Os) (started : os.Started) (H : Type) (enc : TypeId × Value → H) :
    ReturnsInHanded {} Try.checked os 6 .any (Rows.wireIntRoundTripSpec.pre6 enc Try.prog Try.f6 Rows.wireIntRoundTripRow.domain false) (Rows.wireIntRoundTripSpec.post enc Try.prog Try.f6 false true false false) := by
  refine returnsInHanded_of_change (C := Try.checked) Try.own started (by kernel_rfl) Try.func6
    (ChangeSpec.witness6 (enc := enc) (C := Try.checked) false ⟨#[], #[.int .i64 0, .slice none 0 0], []⟩ 8 (by kernel_rfl) (by kernel_rfl) (by kernel_rfl) (by kernel_rfl)) ?_
  intro W base args ds gs before hval hW _ _
  exact contract H enc W base args ds gs before hval hW

theorem proved : Rows.WireIntRoundTripSaid :=
  OpenClaim.holds_of_wide 6 Try.f6 rfl rfl rfl rfl rfl rfl rfl ⟨rfl, rfl, rfl, rfl, rfl⟩ rfl rfl rfl rfl rfl (by kernel_rfl) Try.func6 (by kernel_rfl)
    (of_decide_eq_true (by kernel_rfl)) (by unfold Func.isWrapper; first | (rw [if_pos (by decide +kernel)]; kernel_rfl) | (rw [if_neg (by decide +kernel)]; exact ⟨rfl, rfl⟩))
    (fun os started H enc _ => lifted os started H enc)

end L4
end Go.Proofs.Ytelkekicceoaoaa
