/-
  WireDecodeMatchesSpec: for every slice of bytes the law returns true, and nothing that was there has turned. No condition.
-/
import Derived.Test.YtelkekicceoaoaaWL7
import Derived.Test.YtelkekicceoaoaaWRGetD
import Derived.JoinedCond
namespace Go.Proofs.Ytelkekicceoaoaa
open Go.ChangeShapes Go.WideShapes Go.ChangeAt Go.RowKit Go.ChangeMaps
set_option linter.unusedVariables false
namespace L2

/-- Both decoders of a list leave the same list. -/
theorem post_two {α : Type} {wd : Nat} {enc : α → List UInt8} {vals : α → List Value} {valid : α → Prop} {el : List UInt8 → Nat × Int} {step : List (List Value) → List UInt8 → List (List Value)} (C : Codec wd enc vals valid el step) (hw : 1 ≤ wd) (hfix : wd ≠ 1 → ∀ a, valid a → (enc a).length = wd) (t : TypeId) (size : Nat) (l : List UInt8) :
    ∃ (L : List α) (u : Nat) (er : Int), (∀ a ∈ L, valid a) ∧ L.length ≤ l.length ∧
      (∀ (w w' : World) (e : Ending), PostL w t size (gList el l wd) (sList step el l wd []) e w' → ∃ A c, e = .returned (.tuple #[.slice A L.length c, .int .i64 u, .int .i64 er]) ∧ Rd w' A (L.map vals).flatten ∧ Below w.heap.size w w') ∧
      (∀ (w w' : World) (e : Ending), PostR w t size (gList el l wd) (sList step el l wd []) e w' → ∃ A c, e = .returned (.tuple #[.slice A L.length c, .int .i64 u, .int .i64 er]) ∧ Rd w' A (L.map vals).flatten ∧ Below w.heap.size w w') := by
  by_cases h0 : (gList el l wd).2 = 0
  · obtain ⟨L, h1, h2, h3, h4, h5⟩ := gList_inv C hw hfix l h0
    refine ⟨L, (gList el l wd).1, (gList el l wd).2, h1, h5, ?_, ?_⟩
    all_goals
      rintro w w' e ⟨v, he, hb, hne, hok⟩
      obtain ⟨A, c, rfl, hrd, hc, hm⟩ := Rd.of_own (hok h0)
      rw [h4] at he hrd hc
      rw [List.length_map] at he hc
      exact ⟨A, c, he, hrd, hb⟩
  · refine ⟨[], (gList el l wd).1, (gList el l wd).2, by simp, Nat.zero_le _, ?_, ?_⟩
    all_goals
      rintro w w' e ⟨v, he, hb, hne, hok⟩
      have := hne h0
      subst this
      exact ⟨none, 0, he, .inl rfl, hb⟩

theorem sameTexts_rd' (l : List (List UInt8)) (A A' : Option Addr) (c c' : Nat) (w : World) (hm : l.length ≤ maxLen) (h : Rd w A ((l.map fun s => (⟨s.toArray⟩ : ByteArray)).map Value.string)) (h' : Rd w A' ((l.map fun s => (⟨s.toArray⟩ : ByteArray)).map Value.string)) :
    Calls Try.prog 33 #[.slice A l.length c, .slice A' l.length c'] w fun e w' => e = .returned (.bool true) ∧ ∃ m, w' = w.drewN m := by
  have := sameTexts_rd (l.map fun s => (⟨s.toArray⟩ : ByteArray)) A A' c c' w (by simpa using hm) h h'
  simpa using this

set_option maxRecDepth 100000 in
set_option maxHeartbeats 2000000 in
theorem walk (A : Option Addr) (l : List UInt8) (c : Nat) (w : World) (hr : Rd w A (bs l)) (hc : l.length ≤ c) (hm : c ≤ maxLen) :
    Calls Try.prog 4 #[.slice A l.length c] w (San w) := by
  have hl63 : l.length ≤ 9223372036854775807 := by unfold maxLen at hm; omega
  have HR := Lib.hid hr; clear hr
  have HM := Lib.hid hm; clear hm
  have hb0 := Below.refl w.heap.size w
  go_enter Try.func4, Try.ntmps4
  by_cases hbig : 2000 < l.length
  · go_wp2_with fail
    refine (sanity_any w).mono ?_
    rintro e w1 ⟨rfl, hb⟩
    go_wp2_with fail
    go_ret
    exact ⟨rfl, hb⟩
  have hlen : l.length ≤ 2000 := by omega
  go_wp2_with fail
  refine (getInt_any l A c w hc HM.out HR.out).mono ?_
  rintro e w1 ⟨rfl, rfl⟩
  unfold ret3
  have hci := fun w => rgetInt_any l A c w hc HM.out
  unfold ret3 at hci
  generalize gI l = r at hci
  obtain ⟨n, u1, e1⟩ := r
  have HCI := Lib.hid hci; clear hci
  go_wp2_with fail
  refine (HCI.out w HR.out).mono ?_
  rintro e w1 ⟨rfl, hn1⟩
  have HR := Lib.hid (HR.out.below hn1)
  have hb1 := below_next hb0 hn1
  clear hn1 hb0 HCI
  go_wp2_with fail
  refine (getBytes_any l A c w1 hc HM.out HR.out).mono ?_
  rintro e w2 ⟨rfl, rfl⟩
  unfold retS
  have hcb := fun w => rgetBytes_any l A c w (by omega) hc HM.out
  unfold retS at hcb
  generalize gB3 l = r at hcb
  obtain ⟨s, u2, e2⟩ := r
  simp only at hcb
  generalize (⟨s.toArray⟩ : ByteArray) = S at hcb
  have HCB := Lib.hid hcb; clear hcb
  go_wp2_with fail
  refine (HCB.out w1 HR.out).mono ?_
  rintro e w2 ⟨rfl, hn2⟩
  have HR := Lib.hid (HR.out.below hn2)
  have hb2 := below_next hb1 hn2
  clear hn2 hb1 HCB
  obtain ⟨Li, ui, ei, Vi, leni, Pi, Qi⟩ := post_two codecI (by omega) (by omega) 3 1 l
  have HVi := Lib.hid Vi; clear Vi
  have HPi := Lib.hid Pi; clear Pi
  have HQi := Lib.hid Qi; clear Qi
  go_wp2_with fail
  refine (getI_any l A c w2 (by omega) hc HM.out HR.out).mono ?_
  intro e w3 hp
  obtain ⟨Ai, ci, rfl, Ri, hn3⟩ := HPi.out _ _ _ hp
  clear hp HPi
  rw [cells_ints] at Ri
  have Si := Lib.hid Ri; clear Ri
  have HR := Lib.hid (HR.out.below hn3)
  have hb3 := below_next hb2 hn3
  clear hn3 hb2
  go_wp2_with fail
  refine (rgetI_any l A c w3 (by omega) hc HM.out HR.out).mono ?_
  intro e w4 hp
  obtain ⟨Bi, di, rfl, Ri, hn4⟩ := HQi.out _ _ _ hp
  clear hp HQi
  rw [cells_ints] at Ri
  have Ti := Lib.hid Ri; clear Ri
  have HR := Lib.hid (HR.out.below hn4)
  have Si := Lib.hid (Si.out.below hn4)
  have hb4 := below_next hb3 hn4
  clear hn4 hb3
  go_wp2_with fail
  refine (st_drew (w := w4) (sameInts_rd Li Ai Bi ci di w4 (by unfold maxLen; omega) Si.out Ti.out) (Below.refl _ _)).mono ?_
  rintro e w5 ⟨rfl, hn5⟩
  clear Si Ti
  have HR := Lib.hid (HR.out.below hn5)
  have hb5 := below_next hb4 hn5
  clear hn5 hb4
  obtain ⟨Ls, us, es, Vs, lens, Ps, Qs⟩ := post_two codecS (by omega) (by omega) 9 1 l
  have HVs := Lib.hid Vs; clear Vs
  have HPs := Lib.hid Ps; clear Ps
  have HQs := Lib.hid Qs; clear Qs
  go_wp2_with fail
  refine (getS_any l A c w5 (by omega) hc HM.out HR.out).mono ?_
  intro e w6 hp
  obtain ⟨As, cs, rfl, Rs, hn6⟩ := HPs.out _ _ _ hp
  clear hp HPs
  rw [cells_strs] at Rs
  have Ss := Lib.hid Rs; clear Rs
  have HR := Lib.hid (HR.out.below hn6)
  have hb6 := below_next hb5 hn6
  clear hn6 hb5
  go_wp2_with fail
  refine (rgetS_any l A c w6 (by omega) hc HM.out HR.out).mono ?_
  intro e w7 hp
  obtain ⟨Bs, ds, rfl, Rs, hn7⟩ := HQs.out _ _ _ hp
  clear hp HQs
  rw [cells_strs] at Rs
  have Ts := Lib.hid Rs; clear Rs
  have HR := Lib.hid (HR.out.below hn7)
  have Ss := Lib.hid (Ss.out.below hn7)
  have hb7 := below_next hb6 hn7
  clear hn7 hb6
  go_wp2_with fail
  refine (st_drew (w := w7) (sameTexts_rd' Ls As Bs cs ds w7 (by unfold maxLen; omega) Ss.out Ts.out) (Below.refl _ _)).mono ?_
  rintro e w8 ⟨rfl, hn8⟩
  clear Ss Ts
  have HR := Lib.hid (HR.out.below hn8)
  have hb8 := below_next hb7 hn8
  clear hn8 hb7
  obtain ⟨Ld, ud, ed, Vd, lend, Pd, Qd⟩ := post_two codecD (by omega) (fun _ a h => h) 57 16 l
  have HVd := Lib.hid Vd; clear Vd
  have HPd := Lib.hid Pd; clear Pd
  have HQd := Lib.hid Qd; clear Qd
  go_wp2_with fail
  refine (getD_any l A c w8 (by omega) hc HM.out HR.out).mono ?_
  intro e w9 hp
  obtain ⟨Ad, cd, rfl, Rd, hn9⟩ := HPd.out _ _ _ hp
  clear hp HPd
  rw [cells_digs] at Rd
  have Sd := Lib.hid Rd; clear Rd
  have HR := Lib.hid (HR.out.below hn9)
  have hb9 := below_next hb8 hn9
  clear hn9 hb8
  go_wp2_with fail
  refine (rgetD_any l A c w9 (by omega) hc HM.out HR.out).mono ?_
  intro e w10 hp
  obtain ⟨Bd, dd, rfl, Rd, hn10⟩ := HQd.out _ _ _ hp
  clear hp HQd
  rw [cells_digs] at Rd
  have Td := Lib.hid Rd; clear Rd
  have HR := Lib.hid (HR.out.below hn10)
  have Sd := Lib.hid (Sd.out.below hn10)
  have hb10 := below_next hb9 hn10
  clear hn10 hb9
  go_wp2_with fail
  refine (sanity_any w10).mono ?_
  rintro e w11 ⟨rfl, hn11⟩
  have HR := Lib.hid (HR.out.below hn11)
  have Sd := Lib.hid (Sd.out.below hn11)
  have Td := Lib.hid (Td.out.below hn11)
  have hb11 := below_next hb10 hn11
  clear hn11 hb10
  go_wp2_with fail
  refine (st_drew (w := w11) (sameD_rd Ld HVd.out Ad Bd cd dd w11 (by unfold maxLen; omega) Sd.out Td.out) (Below.refl _ _)).mono ?_
  rintro e w12 ⟨rfl, hn12⟩
  clear Sd Td
  have HR := Lib.hid (HR.out.below hn12)
  have hb12 := below_next hb11 hn12
  clear hn12 hb11
  go_wp2_with fail
  go_ret
  exact ⟨rfl, hb12⟩

theorem contract (H : Type) (enc : TypeId × Value → H) (W : World) (base : Nat) (args : Array Value) (ds gs : List (DataW H)) (before : List MemPlace)
    (hval : ∀ (j : Nat) t v, Try.f4.params[j]? = some t → args[j]? = some v → Value.okWide Try.prog W .any base t v)
    (hW : DataW.Whole enc Try.prog Try.f4.params.toList Rows.wireDecodeMatchesSpecSpec.vars false W args.toList ds gs before) :
    Calls Try.prog 4 args W fun e W' => ∃ v, e = .returned v ∧ Rows.wireDecodeMatchesSpecSpec.post enc Try.prog Try.f4 false true false false W args v W' := by
  have hW' := hW
  obtain ⟨p, q, hA0, hV, rfl, hfz, hnd⟩ := hW
  have hA : DataW.TrodAll enc Try.prog W 0 (fun _ => true) true Try.f4.params.toList args.toList ds p := hA0
  rw [Try.params4] at hA hval
  obtain ⟨v0, vs0, d0, ds0, p0, q0, hargs, rfl, rfl, h0, r0⟩ := trodAll_cons hA
  obtain ⟨rfl, rfl, rfl⟩ := trodAll_nil r0
  obtain rfl : args = #[v0] := by cases args; simp_all
  obtain ⟨rfl, rfl⟩ := trodVars_none hV
  obtain ⟨A, l, c, rfl, hr, hc, hm, hA⟩ := open_rd (hval 0 28 v0 rfl rfl) h0
  refine (walk A l c W hr hc hm).mono fun e W' ⟨he, hb⟩ => ⟨_, he, ?_⟩
  exact law_post rfl rfl (by kernel_rfl) hW' rfl hb

set_option maxRecDepth 100000 in
theorem lifted (os : Os) (started : os.Started) (H : Type) (enc : TypeId × Value → H) :
    ReturnsInHanded {} Try.checked os 4 .any (Rows.wireDecodeMatchesSpecSpec.pre6 enc Try.prog Try.f4 Rows.wireDecodeMatchesSpecRow.domain false) (Rows.wireDecodeMatchesSpecSpec.post enc Try.prog Try.f4 false true false false) := by
  refine returnsInHanded_of_change (C := Try.checked) Try.own started (by kernel_rfl) Try.func4
    (ChangeSpec.witness6 (enc := enc) (C := Try.checked) false ⟨#[], #[.slice none 0 0], []⟩ 8 (by kernel_rfl) (by kernel_rfl) (by kernel_rfl) (by kernel_rfl)) ?_
  intro W base args ds gs before hval hW _ _
  exact contract H enc W base args ds gs before hval hW

theorem proved : Rows.WireDecodeMatchesSpecSaid :=
  OpenClaim.holds_of_wide 4 Try.f4 rfl rfl rfl rfl rfl rfl rfl ⟨rfl, rfl, rfl, rfl, rfl⟩ rfl rfl rfl rfl rfl (by kernel_rfl) Try.func4 (by kernel_rfl)
    (of_decide_eq_true (by kernel_rfl)) (by unfold Func.isWrapper; first | (rw [if_pos (by decide +kernel)]; kernel_rfl) | (rw [if_neg (by decide +kernel)]; exact ⟨rfl, rfl⟩))
    (fun os started H enc _ => lifted os started H enc)

end L2
end Go.Proofs.Ytelkekicceoaoaa
