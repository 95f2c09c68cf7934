/-
  WireConcat: for every string and every list of integers the law returns true, and nothing that was there has turned.
-/
import Derived.Test.YtelkekicceoaoaaWLaw
import Derived.Test.YtelkekicceoaoaaWBase2
import Derived.Test.YtelkekicceoaoaaWPure2
import Derived.ChangeMaps5
namespace Go.Proofs.Ytelkekicceoaoaa
open Go.ChangeShapes Go.WideShapes Go.ChangeAt Go.RowKit Go.ChangeMaps
set_option linter.unusedVariables false
namespace L8

theorem cells_ints (l : List Int) : (l.map fun n => [Value.int .i64 n]).flatten = l.map (Value.int .i64) := by
  induction l with
  | nil => rfl
  | cons a r ih => simp [ih]

set_option maxHeartbeats 400000 in
theorem walk (s : ByteArray) (A : Option Addr) (l : List Int) (c : Nat) (w : World) (hs47 : s.size ≤ 140737488351232) (hl47 : l.length ≤ 17592186044416) (hi : ∀ n ∈ l, inI n) (hr : Rd w A (l.map (Value.int .i64))) (hc : l.length ≤ c) (hm : c ≤ maxLen) :
    Calls Try.prog 10 #[.string s, .slice A l.length c] w (San w) := by
  obtain ⟨i0, hi0, hz0, hz1, hz2⟩ := info_parts Try.info5
  have HI := Lib.hid hi; clear hi
  have HR := Lib.hid hr; clear hr
  have HM := Lib.hid hm; clear hm
  go_enter Try.func10, Try.ntmps10
  by_cases hbig : 2000 < s.size + l.length
  · go_wp2_with fail
    refine (sanity_any w).mono ?_
    rintro e w1 ⟨rfl, hb⟩
    go_wp2_with fail
    go_ret
    exact ⟨rfl, hb⟩
  · go_wp2_with fail
    refine (bytes_any s (w.alloc (.cells #[] 5)) (by omega)).mono ?_
    rintro e w1 ⟨v1, rfl, hown1, hb1⟩
    have hb1' := below_new hb1
    obtain ⟨A1, c1, rfl, hrd1, hc1, hm1⟩ := Rd.of_own hown1
    have hA1 : A1 = none → eB s.data.toList = [] := fun h => by
      subst h
      rcases hrd1 with h | ⟨b, o, h, _⟩
      · simpa [bs] using h
      · cases h
    have hlB := eB_len s.data.toList
    have HS := Lib.hid (show s.data.toList.length = s.size from rfl)
    have hown0 : w1.ownsRow w.heap.size 5 1 (.slice (some ⟨w.heap.size, 0, none⟩) 0 0) 0 [] := own_keep (World.ownsRow_made w #[] 0 (Nat.le_refl _) (Nat.zero_le _) rfl) hb1
    have HO0 := Lib.hid hown0
    have HR1 := Lib.hid hrd1
    have HA1 := Lib.hid hA1
    have HM1 := Lib.hid hm1
    obtain ⟨EB, hEB⟩ : ∃ EB, EB = eB s.data.toList := ⟨_, rfl⟩
    rw [← hEB] at HR1 HA1 hc1 hlB ⊢
    have HEB := Lib.hid hEB
    have hEBl : EB.length ≤ 9 + s.size := hlB
    clear hown1 hb1 hrd1 hA1 hm1 hown0 hEB hlB
    go_wp2_with (at_builtin; refine wpList_own_src rfl (.tmp 19) (.tmp 21) 28 28 rfl w.heap.size 5 i0 _ 1 1 Try.underlying28 hi0 hz0 hz1 hz2 rfl _ 0 [] rfl HO0.out _ EB.length (bs EB) rfl (src_rd Try.underlying28 hz1 HR1.out HA1.out c1) ?c1 ?c2 ?c3 ?_)
    case c1 => unfold maxLen; omega
    case c2 => omega
    case c3 => exact hb1'.size
    intro v2 w2 hown2 hg2 hat2
    have hb2 : Below w.heap.size w w2 := below_own hb1' hg2 (by simp [Value.ownBlock])
    have HO2 := Lib.hid hown2
    clear hown2 hg2 hat2
    go_wp2_with fail
    refine (ints_any l A c w2 (by omega) HI.out (HR.out.below hb2)).mono ?_
    rintro e w3 ⟨v3, rfl, hown3, hb3⟩
    have hb3' := below_next hb2 hb3
    obtain ⟨A3, c3, rfl, hrd3, hc3, hm3⟩ := Rd.of_own hown3
    have hA3 : A3 = none → eL l = [] := fun h => by
      subst h
      rcases hrd3 with h | ⟨b, o, h, _⟩
      · simpa [bs] using h
      · cases h
    have hlL : (eL l).length ≤ 9 + 9 * l.length := by have := flatMap_en_len l; have := en_len9 l.length; unfold eL; rw [List.length_append]; omega
    have HO2' := Lib.hid (own_keep HO2.out hb3)
    have HR3 := Lib.hid hrd3
    have HA3 := Lib.hid hA3
    obtain ⟨EL, hEL⟩ : ∃ EL, EL = eL l := ⟨_, rfl⟩
    rw [← hEL] at HR3 HA3 hc3 hlL ⊢
    have HEL := Lib.hid hEL
    clear hown3 hb3 hrd3 hA3 hm3 hEL
    go_wp2_with (at_builtin; refine wpList_own_src rfl (.tmp 22) (.tmp 24) 28 28 rfl w.heap.size 5 i0 _ 1 1 Try.underlying28 hi0 hz0 hz1 hz2 rfl _ _ _ rfl HO2'.out _ EL.length (bs EL) rfl (src_rd Try.underlying28 hz1 HR3.out HA3.out c3) ?c1 ?c2 ?c3 ?_)
    case c1 => unfold maxLen; omega
    case c2 => omega
    case c3 => exact hb3'.size
    intro v4 w4 hown4 hg4 hat4
    have hb4 : Below w.heap.size w w4 := below_own hb3' hg4 (fun g hg => (HO2'.out.lt g hg).1)
    have hown4' : w4.ownsRow w.heap.size 5 1 v4 (EB.length + EL.length) (bs (EB ++ EL)) := by simpa [bs] using hown4
    have hEL1 : 1 ≤ EL.length := by have := (en_length l.length).1; rw [HEL.out]; unfold eL; rw [List.length_append]; omega
    obtain ⟨g, cap, rfl, hbg, hlt⟩ := hown4'.form (by omega)
    obtain ⟨A4, c4, e4, hrd4, hc4, hm4⟩ := Rd.of_own hown4'
    obtain ⟨rfl, rfl⟩ : some (⟨g, 0, none⟩ : Addr) = A4 ∧ cap = c4 := by simpa using e4
    have hcap : cap ≤ 9223372036854775807 := by unfold maxLen at hm4; omega
    have HR4 := Lib.hid hrd4
    have HM4 := Lib.hid hm4
    have hcutrd : Rd w4 (some ⟨g, 0 + EB.length, none⟩) (bs EL) := by
      obtain ⟨b, o, e, hcell⟩ := hrd4.open (by intro e; have := congrArg List.length e; rw [bs_length, List.length_append, List.length_nil] at this; omega)
      obtain ⟨rfl, rfl⟩ : g = b ∧ 0 = o := by simpa using e
      have h := Rd.drop g 0 hcell EB.length
      rw [bs_drop, List.drop_left] at h
      exact h
    have HCR := Lib.hid hcutrd
    clear hown4 hown4' hg4 hat4 hrd4 hm4 e4 hcutrd
    go_wp2_with fail
    have hgb := getBytes_any (EB ++ EL) (some ⟨g, 0, none⟩) cap w4 (by rw [List.length_append]; exact hc4) HM4.out HR4.out
    have hs63 : s.data.toList.length ≤ 9223372036854775807 := by rw [HS.out]; omega
    rw [show gB3 (EB ++ EL) = (s.data.toList, EB.length, 0) from by rw [HEB.out]; exact gB3_en _ _ hs63, List.length_append] at hgb
    refine hgb.mono ?_
    rintro e w5 ⟨rfl, rfl⟩
    unfold retS
    clear hgb hs63
    have hself : (ByteArray.mk s.data.toList.toArray) = s := by cases s; rfl
    simp only [hself]
    clear hself
    have hor1 : ((0 : Int) != 0) = false := rfl
    have hlt1 : decide ((EB.length : Int) < 0) = false := by simp
    have hgt1 : decide ((EB.length : Int) + (EL.length : Int) < (EB.length : Int)) = false := by simp; omega
    go_wp2_with fail
    have hgi := getI_any EL (some ⟨g, 0 + EB.length, none⟩) (cap - EB.length) w4 (by omega) (by omega) (by have := HM4.out; omega) HCR.out
    have hge := gList_en codecI (by omega) l HI.out (by omega) []
    rw [List.append_nil, show eLs en l = EL from HEL.out.symm] at hge
    have hst := st_list0 hgi EL.length (l.map fun n => [Value.int .i64 n]) hge.1 hge.2
    rw [Nat.zero_add] at hst
    refine hst.mono ?_
    clear hst hge hgi
    rintro e w6 ⟨A6, c6, rfl, hrd6, hb6⟩
    rw [List.length_map]
    rw [cells_ints] at hrd6
    have HR6 := Lib.hid hrd6
    have HR6' := Lib.hid ((HR.out.below (below_next hb4 hb6)))
    have hb6' := below_next hb4 hb6
    clear hrd6 hb6
    go_wp2_with fail
    refine (sanity_any w6).mono ?_
    rintro e w7 ⟨rfl, hb7⟩
    have hb7' := below_next hb6' hb7
    go_wp2_with fail
    refine (sameInts_rd l A6 A c6 c w7 (by unfold maxLen; omega) (HR6.out.below hb7) (HR6'.out.below hb7)).mono ?_
    rintro e w8 ⟨rfl, m, rfl⟩
    have hb8 := below_drewN hb7' m
    go_wp2_with fail
    go_ret
    exact ⟨rfl, hb8⟩

theorem contract (H : Type) (enc : TypeId × Value → H) (W : World) (base : Nat) (args : Array Value) (ds gs : List (DataW H)) (before : List MemPlace)
    (hval : ∀ (j : Nat) t v, Try.f10.params[j]? = some t → args[j]? = some v → Value.okWide Try.prog W .any base t v)
    (hW : DataW.Whole enc Try.prog Try.f10.params.toList Rows.wireConcatSpec.vars false W args.toList ds gs before)
    (hsz : (DataW.weightsEach Try.prog (Try.f10.params.toList ++ Rows.wireConcatSpec.plain.varTypes Try.prog) (ds ++ gs)).all (· ≤ reachBytes) = true) :
    Calls Try.prog 10 args W fun e W' => ∃ v, e = .returned v ∧ Rows.wireConcatSpec.post enc Try.prog Try.f10 false true false false W args v W' := by
  have hW' := hW
  obtain ⟨p, q, hA0, hV, rfl, hfz, hnd⟩ := hW
  have hA : DataW.TrodAll enc Try.prog W 0 (fun _ => true) true Try.f10.params.toList args.toList ds p := hA0
  rw [Try.params10] at hA hval hsz
  obtain ⟨v0, v1, d0, d1, p0, p1, rfl, rfl, rfl, h0, h1⟩ := trodAll_two hA
  obtain ⟨rfl, rfl⟩ := trodVars_none hV
  obtain ⟨s, rfl, rfl, rfl, ws⟩ := open_string Try.underlying9 (hval 0 9 v0 rfl rfl) h0
  obtain ⟨A, l, c, rfl, hr, hi, hc, hm, hreach⟩ := open_rdI (hval 1 22 v1 rfl rfl) h1
  have hs := sized_string hsz (j := 0) (t := 9) rfl rfl
  refine (walk s A l c W (by simpa [reachBytes] using hs) (hreach (j := 1) hsz rfl rfl) hi hr hc hm).mono fun e W' ⟨he, hb⟩ => ⟨_, he, ?_⟩
  exact law_post rfl rfl (by kernel_rfl) hW' rfl hb

set_option maxRecDepth 100000 in
theorem lifted (os : Os) (started : os.Started) (H : Type) (enc : TypeId × Value → H) :
    ReturnsInHanded {} Try.checked os 10 .any (Rows.wireConcatSpec.pre6 enc Try.prog Try.f10 Rows.wireConcatRow.domain false) (Rows.wireConcatSpec.post enc Try.prog Try.f10 false true false false) := by
  refine returnsInHanded_of_change_sized (C := Try.checked) Try.own started (by kernel_rfl) Try.func10
    (ChangeSpec.witness6 (enc := enc) (C := Try.checked) false ⟨#[], #[.string ByteArray.empty, .slice none 0 0], []⟩ 8 (by kernel_rfl) (by kernel_rfl) (by kernel_rfl) (by kernel_rfl)) ?_
  intro W base args ds gs before hval hW _ hsz _
  exact contract H enc W base args ds gs before hval hW hsz

theorem proved : Rows.WireConcatSaid :=
  OpenClaim.holds_of_wide 10 Try.f10 rfl rfl rfl rfl rfl rfl rfl ⟨rfl, rfl, rfl, rfl, rfl⟩ rfl rfl rfl rfl rfl (by kernel_rfl) Try.func10 (by kernel_rfl)
    (of_decide_eq_true (by kernel_rfl)) (by unfold Func.isWrapper; first | (rw [if_pos (by decide +kernel)]; kernel_rfl) | (rw [if_neg (by decide +kernel)]; exact ⟨rfl, rfl⟩))
    (fun os started H enc _ => lifted os started H enc)

end L8
end Go.Proofs.Ytelkekicceoaoaa
