/-
  WireOrder: for any two integers the law returns true, and nothing that was there has turned.
-/
import Derived.Test.YtelkekicceoaoaaWLaw
import Derived.Test.YtelkekicceoaoaaWBase2
import Derived.Test.YtelkekicceoaoaaWPure2
import Derived.Deep.RegionWith
import Derived.Deep.RegionHeld3
import Derived.Deep.DeepCutAuto
import Derived.Test.YtelkekicceoaoaaWOrd
import Derived.Lib.Strings
namespace Go.Proofs.Ytelkekicceoaoaa
open Go.ChangeShapes Go.WideShapes Go.ChangeAt Go.RowKit
set_option linter.unusedVariables false
namespace L3

def OrdFacts (m n : Int) (X Y : Bool) (a b : ByteArray) : Prop :=
  decide (m < n) = X ∧ (m == n) = Y ∧ Op.bytesLess a.toList b.toList = X ∧ (a.toList == b.toList) = Y ∧ (a.size ≤ b.size → (a.toList == (b.extract 0 a.size).toList) = Y) ∧ (b.size ≤ a.size → ((a.extract 0 b.size).toList == b.toList) = Y)

set_option maxHeartbeats 400000 in
theorem walk (m n : Int) (hm : inI m) (hn : inI n) (X Y : Bool) (w : World) (hF : Hid (OrdFacts m n X Y ⟨(en m).toArray⟩ ⟨(en n).toArray⟩)) :
    Calls Try.prog 5 #[.int .i64 m, .int .i64 n] w (San w) := by
  obtain ⟨a, ha⟩ : ∃ a : ByteArray, (⟨(en m).toArray⟩ : ByteArray) = a := ⟨_, rfl⟩
  obtain ⟨b, hb⟩ : ∃ b : ByteArray, (⟨(en n).toArray⟩ : ByteArray) = b := ⟨_, rfl⟩
  have HA := Lib.hid ha
  have HB := Lib.hid hb
  rw [ha, hb] at hF
  have hbw := Below.refl w.heap.size w
  go_enter Try.func5, Try.ntmps5
  clear ha hb
  go_upto_region 1 with fail
  go_cut [5, 6] (fun s5 s6 wx => s5 = .string a ∧ s6 = .string b ∧ Below w.heap.size w wx)
  case first =>
    go_region_with (first | (go_at_call 14; (with_reducible refine (int_any m hm _).mono ?_); rintro e w1 ⟨v1, rfl, hown1, hb1⟩; obtain ⟨A1, c1, rfl, hrd1, hc1, hm1⟩ := Rd.of_own hown1; have hcv1 := conv_rd (P := Try.prog) (src := 28) (dst := 9) Try.underlying28 Try.underlying5 Try.underlying9 hrd1 c1; rw [HA.out] at hcv1; clear hown1) | (go_at_call 14; (with_reducible refine (int_any n hn _).mono ?_); rintro e w2 ⟨v2, rfl, hown2, hb2⟩; obtain ⟨A2, c2, rfl, hrd2, hc2, hm2⟩ := Rd.of_own hown2; have hcv2 := conv_rd (P := Try.prog) (src := 28) (dst := 9) Try.underlying28 Try.underlying5 Try.underlying9 hrd2 c2; have hcv3 := conv_rd (P := Try.prog) (src := 28) (dst := 9) Try.underlying28 Try.underlying5 Try.underlying9 (hrd1.below hb2) c1; rw [HB.out] at hcv2; rw [HA.out] at hcv3; clear hown2))
    all_goals (go_wp2_with fail; go_meet; exact ⟨rfl, rfl, below_next (w0 := w) ⟨hb1.os, hb1.tape, hb1.output, hb1.size, hb1.block⟩ hb2⟩)
  case rest =>
    obtain ⟨rfl, rfl, hbx⟩ := hcut
    have hf1 := hF.out.1
    have hf2 := hF.out.2.1
    have hf3 := hF.out.2.2.1
    have hf4 := hF.out.2.2.2.1
    have z1 : (0 : Int) ≤ (a.size : Int) := by omega
    have z2 : (0 : Int) ≤ (b.size : Int) := by omega
    rcases Nat.lt_or_ge b.size a.size with hk | hk
    · have hf6 := hF.out.2.2.2.2.2 (by omega)
      have z3 : (b.size : Int) ≤ (a.size : Int) := by omega
      go_wp2_with fail
      go_region_held3 (fun w' => True ∧ True) (exact ⟨trivial, trivial⟩) (first | (go_at_call 12; refine (sanity_any _).mono ?_; rintro e w3 ⟨rfl, hb3⟩))
      go_wp2_with fail
      go_ret
      exact ⟨ret_bool (by simp), below_next hbx ⟨hb3.os, hb3.tape, hb3.output, hb3.size, hb3.block⟩⟩
    · have hf5 := hF.out.2.2.2.2.1 hk
      have z3 : (a.size : Int) ≤ (b.size : Int) := by omega
      go_wp2_with fail
      go_region_held3 (fun w' => True ∧ True) (exact ⟨trivial, trivial⟩) (first | (go_at_call 12; refine (sanity_any _).mono ?_; rintro e w3 ⟨rfl, hb3⟩))
      go_wp2_with fail
      go_ret
      exact ⟨ret_bool (by simp), below_next hbx ⟨hb3.os, hb3.tape, hb3.output, hb3.size, hb3.block⟩⟩

theorem facts_of (m n : Int) (X Y : Bool) (a b : List UInt8) (h1 : decide (m < n) = X) (h2 : (m == n) = Y) (h3 : Op.bytesLess a b = X) (h4 : (a == b) = Y)
    (h5 : a.length ≤ b.length → (a == b.take a.length) = Y) (h6 : b.length ≤ a.length → (a.take b.length == b) = Y) : OrdFacts m n X Y ⟨a.toArray⟩ ⟨b.toArray⟩ := by
  refine ⟨h1, h2, by rw [ByteArray.toList_mk, ByteArray.toList_mk]; exact h3, by rw [ByteArray.toList_mk, ByteArray.toList_mk]; exact h4, fun h => ?_, fun h => ?_⟩
  · rw [Lib.extract_toList, ByteArray.toList_mk]
    exact h5 h
  · rw [Lib.extract_toList, ByteArray.toList_mk]
    exact h6 h
theorem facts (m n : Int) (hm : inI m) (hn : inI n) : ∃ X Y, OrdFacts m n X Y ⟨(en m).toArray⟩ ⟨(en n).toArray⟩ := by
  rcases Int.lt_trichotomy m n with h | h | h
  · have hp := en_parts hm hn h
    refine ⟨true, false, facts_of m n true false _ _ (by simpa using h) (by rw [beq_eq_false_iff_ne]; omega) hp.less ?_ (fun hl => ?_) (fun hl => ?_)⟩
    · rw [beq_eq_false_iff_ne]
      intro e
      have := hp.less
      rw [e, less_self] at this
      cases this
    · rw [beq_eq_false_iff_ne]
      have := hp.take_ne (en m).length (by omega)
      rwa [List.take_length] at this
    · rw [beq_eq_false_iff_ne]
      have := hp.take_ne (en n).length (by omega)
      rwa [List.take_length] at this
  · subst h
    exact ⟨false, true, facts_of m m false true _ _ (by simp) (by simp) (less_self _) (by simp) (fun _ => by simp) (fun _ => by simp)⟩
  · have hp := en_parts hn hm h
    refine ⟨false, false, facts_of m n false false _ _ (by simp; omega) (by rw [beq_eq_false_iff_ne]; omega) hp.greater ?_ (fun hl => ?_) (fun hl => ?_)⟩
    · rw [beq_eq_false_iff_ne]
      intro e
      have := hp.less
      rw [e, less_self] at this
      cases this
    · rw [beq_eq_false_iff_ne]
      have := hp.take_ne (en m).length (by omega)
      rw [List.take_length] at this
      exact fun e => this e.symm
    · rw [beq_eq_false_iff_ne]
      have := hp.take_ne (en n).length (by omega)
      rw [List.take_length] at this
      exact fun e => this e.symm

theorem contract (H : Type) (enc : TypeId × Value → H) (W : World) (base : Nat) (args : Array Value) (ds gs : List (DataW H)) (before : List MemPlace)
    (hval : ∀ (j : Nat) t v, Try.f5.params[j]? = some t → args[j]? = some v → Value.okWide Try.prog W .any base t v)
    (hW : DataW.Whole enc Try.prog Try.f5.params.toList Rows.wireOrderSpec.vars false W args.toList ds gs before) :
    Calls Try.prog 5 args W fun e W' => ∃ v, e = .returned v ∧ Rows.wireOrderSpec.post enc Try.prog Try.f5 false true false false W args v W' := by
  have hW' := hW
  obtain ⟨p, q, hA0, hV, rfl, hfz, hnd⟩ := hW
  have hA : DataW.TrodAll enc Try.prog W 0 (fun _ => true) true Try.f5.params.toList args.toList ds p := hA0
  rw [Try.params5] at hA hval
  obtain ⟨v0, v1, d0, d1, p0, p1, rfl, rfl, rfl, h0, h1⟩ := trodAll_two hA
  obtain ⟨rfl, rfl⟩ := trodVars_none hV
  obtain ⟨m, rfl, rfl, rfl, wm⟩ := open_int Try.underlying3 (hval 0 3 v0 rfl rfl) h0
  obtain ⟨n, rfl, rfl, rfl, wn⟩ := open_int Try.underlying3 (hval 1 3 v1 rfl rfl) h1
  obtain ⟨X, Y, hF⟩ := facts m n (inI_wf wm) (inI_wf wn)
  refine (walk m n (inI_wf wm) (inI_wf wn) X Y W (Lib.hid hF)).mono fun e W' ⟨he, hb⟩ => ⟨_, he, ?_⟩
  exact law_post rfl rfl (by kernel_rfl) hW' rfl hb

set_option maxRecDepth 100000 in
theorem lifted (os : Os) (started : os.Started) (H : Type) (enc : TypeId × Value → H) :
    ReturnsInHanded {} Try.checked os 5 .any (Rows.wireOrderSpec.pre6 enc Try.prog Try.f5 Rows.wireOrderRow.domain false) (Rows.wireOrderSpec.post enc Try.prog Try.f5 false true false false) := by
  refine returnsInHanded_of_change (C := Try.checked) Try.own started (by kernel_rfl) Try.func5
    (ChangeSpec.witness6 (enc := enc) (C := Try.checked) false ⟨#[], #[.int .i64 0, .int .i64 0], []⟩ 8 (by kernel_rfl) (by kernel_rfl) (by kernel_rfl) (by kernel_rfl)) ?_
  intro W base args ds gs before hval hW _ _
  exact contract H enc W base args ds gs before hval hW

theorem proved : Rows.WireOrderSaid :=
  OpenClaim.holds_of_wide 5 Try.f5 rfl rfl rfl rfl rfl rfl rfl ⟨rfl, rfl, rfl, rfl, rfl⟩ rfl rfl rfl rfl rfl (by kernel_rfl) Try.func5 (by kernel_rfl)
    (of_decide_eq_true (by kernel_rfl)) (by unfold Func.isWrapper; first | (rw [if_pos (by decide +kernel)]; kernel_rfl) | (rw [if_neg (by decide +kernel)]; exact ⟨rfl, rfl⟩))
    (fun os started H enc _ => lifted os started H enc)

end L3
end Go.Proofs.Ytelkekicceoaoaa
