/-
  WireEncodeMatchesSpec: for every integer, every string and every list (whose letters and elements are together at most 1048576) the law returns true, and nothing that was there has turned.
-/
import Derived.Test.YtelkekicceoaoaaWLaw2
import Derived.Test.YtelkekicceoaoaaWREnc
import Derived.Test.YtelkekicceoaoaaWL7
import Derived.JoinedCond
namespace Go.Proofs.Ytelkekicceoaoaa
open Go.ChangeShapes Go.WideShapes Go.ChangeAt Go.RowKit Go.ChangeMaps
set_option linter.unusedVariables false
namespace L1

theorem eS_len (l : List (List UInt8)) : (eS l).length ≤ 9 + 9 * l.length + l.flatten.length := by
  have := flatMap_eB_len l
  have := en_len9 l.length
  unfold eS
  rw [List.length_append]; omega
theorem eL_len (l : List Int) : (eL l).length ≤ 9 + 9 * l.length := by
  have := flatMap_en_len l
  have := en_len9 l.length
  unfold eL
  rw [List.length_append]; omega
theorem eD_len (l : List (List UInt8)) (h : ∀ d ∈ l, d.length = 16) : (eD l).length ≤ 9 + 16 * l.length := by
  have h1 := flat16_len l h l.length
  rw [List.take_length] at h1
  have := en_len9 l.length
  unfold eD
  rw [List.length_append]; omega
set_option maxRecDepth 100000 in
set_option maxHeartbeats 2000000 in
theorem walk (n : Int) (s : ByteArray) (Al : Option Addr) (l : List Int) (cl : Nat) (Ax : Option Addr) (x : List ByteArray) (cx : Nat) (Ad : Option Addr) (d : List (List UInt8)) (cd : Nat) (w : World)
    (hn : inI n) (hs : s.size ≤ 1048576) (hl : l.length ≤ 1048576) (hx : tot x ≤ 1048576) (hd : d.length ≤ 1048576)
    (hi : ∀ n ∈ l, inI n) (h16 : ∀ y ∈ d, y.length = 16) (hrl : Rd w Al (l.map (Value.int .i64))) (hrx : Rd w Ax (x.map Value.string)) (hrd : Rd w Ad (bs d.flatten)) :
    Calls Try.prog 3 #[.int .i64 n, .string s, .slice Al l.length cl, .slice Ax x.length cx, .slice Ad d.length cd] w (San w) := by
  obtain ⟨i0, hi0, hz0, hz1, hz2⟩ := info_parts Try.info5
  have hxl : x.length ≤ 1048576 := by unfold tot at hx; omega
  have HX := Lib.hid hx; clear hx
  have HI := Lib.hid hi; clear hi
  have HN := Lib.hid hn; clear hn
  have H16 := Lib.hid h16; clear h16
  have RL := Lib.hid hrl; clear hrl
  have RX := Lib.hid hrx; clear hrx
  have RD := Lib.hid hrd; clear hrd
  go_enter Try.func3, Try.ntmps3
  by_cases hbig : 2000 < s.size + l.length + d.length
  · go_wp2_with fail
    refine (sanity_any w).mono ?_
    rintro e w1 ⟨rfl, hb⟩
    go_wp2_with fail
    go_ret
    exact ⟨rfl, hb⟩
  by_cases hfew : (tot x : Int) ≤ 2000
  case neg =>
    have HF := Lib.hid hfew
    clear hfew
    go_wp2_with fail
    refine (few_any x Ax cx w (by have := HX.out; omega) RX.out).mono ?_
    rintro e w1 ⟨rfl, rfl⟩
    rw [decide_eq_false (by have := HF.out; omega)]
    go_wp2_with fail
    refine (sanity_any w).mono ?_
    rintro e w1 ⟨rfl, hb⟩
    go_wp2_with fail
    go_ret
    exact ⟨rfl, hb⟩
  have HF := Lib.hid hfew
  clear hfew
  have hb0 := Below.refl w.heap.size w
  go_wp2_with fail
  refine (few_any x Ax cx w (by have := HX.out; omega) RX.out).mono ?_
  rintro e w1 ⟨rfl, rfl⟩
  rw [decide_eq_true HF.out]
  go_wp2_with fail
  refine (sanity_any w).mono ?_
  rintro e w1 ⟨rfl, hn1⟩
  have RL := Lib.hid (RL.out.below hn1)
  have RX := Lib.hid (RX.out.below hn1)
  have RD := Lib.hid (RD.out.below hn1)
  have hb1 := below_next hb0 hn1
  clear hn1 hb0
  go_wp2_with fail
  refine (st_own (w := w1) (int_any n HN.out w1) _ rfl (Below.refl _ _)).mono ?_
  rintro e w2 ⟨Bn, dn, rfl, hn, hn2⟩
  have Qn := Lib.hid hn.1
  have hmn : dn ≤ 9223372036854775807 := by have := hn.2.2; unfold maxLen at this; omega
  have hcn := hn.2.1
  clear hn
  obtain ⟨En, hEn⟩ : ∃ E, E = en n := ⟨_, rfl⟩
  have hlenn : En.length ≤ 20000000 := by rw [hEn]; have := en_len9 n; omega
  have EEn := Lib.hid hEn
  clear hEn
  rw [← EEn.out] at Qn hcn ⊢
  have RL := Lib.hid (RL.out.below hn2)
  have RX := Lib.hid (RX.out.below hn2)
  have RD := Lib.hid (RD.out.below hn2)
  have hb2 := below_next hb1 hn2
  clear hn2 hb1
  go_wp2_with fail
  refine (st_own (w := w2) (rint_any n HN.out w2) _ rfl (Below.refl _ _)).mono ?_
  rintro e w3 ⟨Bn2, dn2, rfl, hn2, hn3⟩
  have Qn2 := Lib.hid hn2.1
  have hmn2 : dn2 ≤ 9223372036854775807 := by have := hn2.2.2; unfold maxLen at this; omega
  have hcn2 := hn2.2.1
  clear hn2
  rw [← EEn.out] at Qn2 hcn2 ⊢
  have RL := Lib.hid (RL.out.below hn3)
  have RX := Lib.hid (RX.out.below hn3)
  have RD := Lib.hid (RD.out.below hn3)
  have Qn := Lib.hid (Qn.out.below hn3)
  have hb3 := below_next hb2 hn3
  clear hn3 hb2
  go_wp2_with fail
  refine (st_drew (w := w3) (same_rd En Bn Bn2 dn dn2 w3 (by unfold maxLen; omega) Qn.out Qn2.out) (Below.refl _ _)).mono ?_
  rintro e w4 ⟨rfl, hn4⟩
  clear Qn Qn2 hmn hmn2 hcn hcn2 hlenn
  have RL := Lib.hid (RL.out.below hn4)
  have RX := Lib.hid (RX.out.below hn4)
  have RD := Lib.hid (RD.out.below hn4)
  have hb4 := below_next hb3 hn4
  clear hn4 hb3
  go_wp2_with fail
  refine (st_own (w := w4) (bytes_any s w4 (by omega)) _ rfl (Below.refl _ _)).mono ?_
  rintro e w5 ⟨Bs, ds, rfl, hs, hn5⟩
  have Qs := Lib.hid hs.1
  have hms : ds ≤ 9223372036854775807 := by have := hs.2.2; unfold maxLen at this; omega
  have hcs := hs.2.1
  clear hs
  obtain ⟨Es, hEs⟩ : ∃ E, E = eB s.data.toList := ⟨_, rfl⟩
  have hlens : Es.length ≤ 20000000 := by rw [hEs]; have := eB_len s.data.toList; have : s.data.toList.length = s.size := rfl; omega
  have EEs := Lib.hid hEs
  clear hEs
  rw [← EEs.out] at Qs hcs ⊢
  have RL := Lib.hid (RL.out.below hn5)
  have RX := Lib.hid (RX.out.below hn5)
  have RD := Lib.hid (RD.out.below hn5)
  have hb5 := below_next hb4 hn5
  clear hn5 hb4
  go_wp2_with fail
  refine (st_own (w := w5) (rbytes_any s w5 (by omega)) _ rfl (Below.refl _ _)).mono ?_
  rintro e w6 ⟨Bs2, ds2, rfl, hs2, hn6⟩
  have Qs2 := Lib.hid hs2.1
  have hms2 : ds2 ≤ 9223372036854775807 := by have := hs2.2.2; unfold maxLen at this; omega
  have hcs2 := hs2.2.1
  clear hs2
  rw [← EEs.out] at Qs2 hcs2 ⊢
  have RL := Lib.hid (RL.out.below hn6)
  have RX := Lib.hid (RX.out.below hn6)
  have RD := Lib.hid (RD.out.below hn6)
  have Qs := Lib.hid (Qs.out.below hn6)
  have hb6 := below_next hb5 hn6
  clear hn6 hb5
  go_wp2_with fail
  refine (st_drew (w := w6) (same_rd Es Bs Bs2 ds ds2 w6 (by unfold maxLen; omega) Qs.out Qs2.out) (Below.refl _ _)).mono ?_
  rintro e w7 ⟨rfl, hn7⟩
  clear Qs Qs2 hms hms2 hcs hcs2 hlens
  have RL := Lib.hid (RL.out.below hn7)
  have RX := Lib.hid (RX.out.below hn7)
  have RD := Lib.hid (RD.out.below hn7)
  have hb7 := below_next hb6 hn7
  clear hn7 hb6
  go_wp2_with fail
  refine (st_own (w := w7) (ints_any l Al cl w7 (by omega) HI.out RL.out) _ rfl (Below.refl _ _)).mono ?_
  rintro e w8 ⟨Bl, dl, rfl, hl, hn8⟩
  have Ql := Lib.hid hl.1
  have hml : dl ≤ 9223372036854775807 := by have := hl.2.2; unfold maxLen at this; omega
  have hcl := hl.2.1
  clear hl
  obtain ⟨El, hEl⟩ : ∃ E, E = eL l := ⟨_, rfl⟩
  have hlenl : El.length ≤ 20000000 := by rw [hEl]; have := eL_len l; omega
  have EEl := Lib.hid hEl
  clear hEl
  rw [← EEl.out] at Ql hcl ⊢
  have RL := Lib.hid (RL.out.below hn8)
  have RX := Lib.hid (RX.out.below hn8)
  have RD := Lib.hid (RD.out.below hn8)
  have hb8 := below_next hb7 hn8
  clear hn8 hb7
  go_wp2_with fail
  refine (st_own (w := w8) (rints_any l Al cl w8 (by omega) HI.out RL.out) _ rfl (Below.refl _ _)).mono ?_
  rintro e w9 ⟨Bl2, dl2, rfl, hl2, hn9⟩
  have Ql2 := Lib.hid hl2.1
  have hml2 : dl2 ≤ 9223372036854775807 := by have := hl2.2.2; unfold maxLen at this; omega
  have hcl2 := hl2.2.1
  clear hl2
  rw [← EEl.out] at Ql2 hcl2 ⊢
  have RL := Lib.hid (RL.out.below hn9)
  have RX := Lib.hid (RX.out.below hn9)
  have RD := Lib.hid (RD.out.below hn9)
  have Ql := Lib.hid (Ql.out.below hn9)
  have hb9 := below_next hb8 hn9
  clear hn9 hb8
  go_wp2_with fail
  refine (st_drew (w := w9) (same_rd El Bl Bl2 dl dl2 w9 (by unfold maxLen; omega) Ql.out Ql2.out) (Below.refl _ _)).mono ?_
  rintro e w10 ⟨rfl, hn10⟩
  clear Ql Ql2 hml hml2 hcl hcl2 hlenl
  have RL := Lib.hid (RL.out.below hn10)
  have RX := Lib.hid (RX.out.below hn10)
  have RD := Lib.hid (RD.out.below hn10)
  have hb10 := below_next hb9 hn10
  clear hn10 hb9
  go_wp2_with fail
  refine (st_own (w := w10) (strings_any x Ax cx w10 (by omega) (by have := HX.out; unfold tot at this; omega) RX.out) _ rfl (Below.refl _ _)).mono ?_
  rintro e w11 ⟨Bx, dx, rfl, hx, hn11⟩
  have Qx := Lib.hid hx.1
  have hmx : dx ≤ 9223372036854775807 := by have := hx.2.2; unfold maxLen at this; omega
  have hcx := hx.2.1
  clear hx
  obtain ⟨Ex, hEx⟩ : ∃ E, E = eS (lists x) := ⟨_, rfl⟩
  have hlenx : Ex.length ≤ 20000000 := by rw [hEx]; have := eS_len (lists x); have h3 : (lists x).length = x.length := (by simp [lists]); have h4 := HX.out; unfold tot at h4; omega
  have EEx := Lib.hid hEx
  clear hEx
  rw [← EEx.out] at Qx hcx ⊢
  have RL := Lib.hid (RL.out.below hn11)
  have RX := Lib.hid (RX.out.below hn11)
  have RD := Lib.hid (RD.out.below hn11)
  have hb11 := below_next hb10 hn11
  clear hn11 hb10
  go_wp2_with fail
  refine (st_own (w := w11) (rstrings_any x Ax cx w11 (by omega) (by have := HX.out; unfold tot at this; omega) RX.out) _ rfl (Below.refl _ _)).mono ?_
  rintro e w12 ⟨Bx2, dx2, rfl, hx2, hn12⟩
  have Qx2 := Lib.hid hx2.1
  have hmx2 : dx2 ≤ 9223372036854775807 := by have := hx2.2.2; unfold maxLen at this; omega
  have hcx2 := hx2.2.1
  clear hx2
  rw [← EEx.out] at Qx2 hcx2 ⊢
  have RL := Lib.hid (RL.out.below hn12)
  have RX := Lib.hid (RX.out.below hn12)
  have RD := Lib.hid (RD.out.below hn12)
  have Qx := Lib.hid (Qx.out.below hn12)
  have hb12 := below_next hb11 hn12
  clear hn12 hb11
  go_wp2_with fail
  refine (st_drew (w := w12) (same_rd Ex Bx Bx2 dx dx2 w12 (by unfold maxLen; omega) Qx.out Qx2.out) (Below.refl _ _)).mono ?_
  rintro e w13 ⟨rfl, hn13⟩
  clear Qx Qx2 hmx hmx2 hcx hcx2 hlenx
  have RL := Lib.hid (RL.out.below hn13)
  have RX := Lib.hid (RX.out.below hn13)
  have RD := Lib.hid (RD.out.below hn13)
  have hb13 := below_next hb12 hn13
  clear hn13 hb12
  go_wp2_with fail
  refine (st_own (w := w13) (digests_any d Ad cd w13 (by omega) H16.out RD.out) _ rfl (Below.refl _ _)).mono ?_
  rintro e w14 ⟨Bd, dd, rfl, hd, hn14⟩
  have Qd := Lib.hid hd.1
  have hmd : dd ≤ 9223372036854775807 := by have := hd.2.2; unfold maxLen at this; omega
  have hcd := hd.2.1
  clear hd
  obtain ⟨Ed, hEd⟩ : ∃ E, E = eD d := ⟨_, rfl⟩
  have hlend : Ed.length ≤ 20000000 := by rw [hEd]; have := eD_len d H16.out; omega
  have EEd := Lib.hid hEd
  clear hEd
  rw [← EEd.out] at Qd hcd ⊢
  have RL := Lib.hid (RL.out.below hn14)
  have RX := Lib.hid (RX.out.below hn14)
  have RD := Lib.hid (RD.out.below hn14)
  have hb14 := below_next hb13 hn14
  clear hn14 hb13
  go_wp2_with fail
  refine (st_own (w := w14) (rdigests_any d Ad cd w14 (by omega) H16.out RD.out) _ rfl (Below.refl _ _)).mono ?_
  rintro e w15 ⟨Bd2, dd2, rfl, hd2, hn15⟩
  have Qd2 := Lib.hid hd2.1
  have hmd2 : dd2 ≤ 9223372036854775807 := by have := hd2.2.2; unfold maxLen at this; omega
  have hcd2 := hd2.2.1
  clear hd2
  rw [← EEd.out] at Qd2 hcd2 ⊢
  have RL := Lib.hid (RL.out.below hn15)
  have RX := Lib.hid (RX.out.below hn15)
  have RD := Lib.hid (RD.out.below hn15)
  have Qd := Lib.hid (Qd.out.below hn15)
  have hb15 := below_next hb14 hn15
  clear hn15 hb14
  go_wp2_with fail
  refine (st_drew (w := w15) (same_rd Ed Bd Bd2 dd dd2 w15 (by unfold maxLen; omega) Qd.out Qd2.out) (Below.refl _ _)).mono ?_
  rintro e w16 ⟨rfl, hn16⟩
  clear Qd Qd2 hmd hmd2 hcd hcd2 hlend
  have RL := Lib.hid (RL.out.below hn16)
  have RX := Lib.hid (RX.out.below hn16)
  have RD := Lib.hid (RD.out.below hn16)
  have hb16 := below_next hb15 hn16
  clear hn16 hb15
  go_wp2_with fail
  go_ret
  exact ⟨rfl, hb16⟩

theorem contract (H : Type) (enc : TypeId × Value → H) (W : World) (base : Nat) (args : Array Value) (ds gs : List (DataW H)) (before : List MemPlace)
    (hval : ∀ (j : Nat) t v, Try.f3.params[j]? = some t → args[j]? = some v → Value.okWide Try.prog W .any base t v)
    (hW : DataW.Whole enc Try.prog Try.f3.params.toList Rows.wireEncodeMatchesSpecSpec.vars false W args.toList ds gs before) (hk : Rows.uptoSmall H (ds ++ gs) = true) :
    Calls Try.prog 3 args W fun e W' => ∃ v, e = .returned v ∧ Rows.wireEncodeMatchesSpecSpec.post enc Try.prog Try.f3 false true false false W args v W' := by
  have hW' := hW
  obtain ⟨p, q, hA0, hV, rfl, hfz, hnd⟩ := hW
  have hA : DataW.TrodAll enc Try.prog W 0 (fun _ => true) true Try.f3.params.toList args.toList ds p := hA0
  rw [Try.params3] at hA hval
  obtain ⟨v0, vs0, d0, ds0, p0, q0, e0, rfl, rfl, h0, r0⟩ := trodAll_cons hA
  obtain ⟨v1, vs1, d1, ds1, p1, q1, rfl, rfl, rfl, h1, r1⟩ := trodAll_cons r0
  obtain ⟨v2, vs2, d2, ds2, p2, q2, rfl, rfl, rfl, h2, r2⟩ := trodAll_cons r1
  obtain ⟨v3, vs3, d3, ds3, p3, q3, rfl, rfl, rfl, h3, r3⟩ := trodAll_cons r2
  obtain ⟨v4, vs4, d4, ds4, p4, q4, rfl, rfl, rfl, h4, r4⟩ := trodAll_cons r3
  obtain ⟨rfl, rfl, rfl⟩ := trodAll_nil r4
  obtain rfl : args = #[v0, v1, v2, v3, v4] := by cases args; simp_all
  obtain ⟨rfl, rfl⟩ := trodVars_none hV
  have hb := of_decide_eq_true hk
  simp only [List.append_nil, Rows.uptoBulkAll] at hb
  obtain ⟨n, rfl, rfl, rfl, wn⟩ := open_int Try.underlying3 (hval 0 3 v0 rfl rfl) h0
  obtain ⟨s, rfl, rfl, rfl, ws⟩ := open_string Try.underlying9 (hval 1 9 v1 rfl rfl) h1
  obtain ⟨Al, l, cl, rfl, hrl, hi, hcl, hml, _⟩ := open_rdI (hval 2 22 v2 rfl rfl) h2
  obtain ⟨Ax, x, cx, rfl, hrx, hcx, hmx, hbx⟩ := open_rdS (hval 3 23 v3 rfl rfl) h3
  obtain ⟨Ad, d, cd, rfl, hrd, h16, hcd, hmd, hbd⟩ := open_rdD (hval 4 24 v4 rfl rfl) h4
  have hbl := slice_bulk Try.underlying22 h2
  have hbs : s.size ≤ Rows.uptoBulk (DataW.lit (H := H) (.string s.data.toList)) := by simp [Rows.uptoBulk]
  refine (walk n s Al l cl Ax x cx Ad d cd W (inI_wf wn) (by omega) (by omega) (by omega) (by omega) hi h16 hrl hrx hrd).mono fun e W' ⟨he, hb⟩ => ⟨_, he, ?_⟩
  exact law_post rfl rfl (by kernel_rfl) hW' rfl hb

set_option maxRecDepth 100000 in
theorem lifted (os : Os) (started : os.Started) (H : Type) (enc : TypeId × Value → H) (F : Stop.Interp) :
    ReturnsInHanded {} Try.checked os 3 .any ((Rows.OpenSpec.upto Rows.wireEncodeMatchesSpecSpec).pre6 enc Try.prog Try.f3 Rows.wireEncodeMatchesSpecUptoRow.domain false) (((Rows.OpenSpec.upto Rows.wireEncodeMatchesSpecSpec).at F).post enc Try.prog Try.f3 false true false false) := by
  refine returnsInHanded_of_cond (C := Try.checked) (s := Rows.OpenSpec.upto Rows.wireEncodeMatchesSpecSpec) (k := Rows.uptoSmall) rfl Try.own started (by kernel_rfl) Try.func3
    (OpenSpec.witness (enc := enc) (C := Try.checked) (s := Rows.OpenSpec.upto Rows.wireEncodeMatchesSpecSpec) (k := Rows.uptoSmall) rfl false ⟨#[], #[.int .i64 0, .string ByteArray.empty, .slice none 0 0, .slice none 0 0, .slice none 0 0], []⟩ 8 (by kernel_rfl) (by kernel_rfl) (by kernel_rfl)
      (x := ([.lit (.int .i64 0), .lit (.string []), .nil, .nil, .nil], [], [])) (by kernel_rfl) rfl (by kernel_rfl)) ?_
  intro W base args ds gs before hval hW _ hk _
  exact contract H enc W base args ds gs before hval hW hk

theorem proved : Rows.WireEncodeMatchesSpecUptoSaid :=
  OpenClaim.holds_of_cond 3 Try.f3 rfl rfl rfl rfl rfl rfl rfl ⟨rfl, rfl, rfl, rfl, rfl⟩ rfl rfl rfl rfl rfl (by kernel_rfl) Try.func3 (by kernel_rfl)
    (of_decide_eq_true (by kernel_rfl)) (by unfold Func.isWrapper; first | (rw [if_pos (by decide +kernel)]; kernel_rfl) | (rw [if_neg (by decide +kernel)]; exact ⟨rfl, rfl⟩))
    (fun os started H enc _ F => lifted os started H enc F)

end L1
end Go.Proofs.Ytelkekicceoaoaa
