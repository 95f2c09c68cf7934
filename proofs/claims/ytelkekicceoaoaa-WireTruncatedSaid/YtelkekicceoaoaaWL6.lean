/-
  WireListRoundTrip: for every string and every list (whose letters and elements are together at most 1048576) and every tail the law returns true, and nothing that was there has turned.
-/
import Derived.Test.YtelkekicceoaoaaWLaw2
import Derived.Test.YtelkekicceoaoaaWL7
import Derived.JoinedCond
namespace Go.Proofs.Ytelkekicceoaoaa
open Go.ChangeShapes Go.WideShapes Go.ChangeAt Go.RowKit Go.ChangeMaps
set_option linter.unusedVariables false
namespace L6

theorem rd_cells2 {w : World} {g o : Nat} {xs : List Value} (h : Rd w (some ⟨g, o, none⟩) xs) : ∀ k v, xs[k]? = some v → w.cell? ⟨g, o + k, none⟩ = some v := by
  intro k v hv
  rcases h with rfl | ⟨b', o', e, hc⟩
  · simp at hv
  · obtain ⟨rfl, rfl⟩ : g = b' ∧ o = o' := by simpa using e
    exact hc k v hv
theorem rd_block {w : World} {A : Option Addr} {l : List UInt8} (h : Rd w A (bs l)) (hl : 1 ≤ l.length) : ∃ g o, A = some ⟨g, o, none⟩ := by
  obtain ⟨b, o, rfl, _⟩ := h.open (by intro e; have := congrArg List.length e; rw [bs_length, List.length_nil] at this; omega)
  exact ⟨b, o, rfl⟩
theorem mk_data (s : ByteArray) : (⟨s.data.toList.toArray⟩ : ByteArray) = s := by cases s; rfl
theorem lists_back (x : List ByteArray) : (lists x).map (fun s => (⟨s.toArray⟩ : ByteArray)) = x := by
  unfold lists
  rw [List.map_map]
  conv => rhs; rw [← List.map_id x]
  exact List.map_congr_left fun s _ => mk_data s
theorem eS_len (l : List (List UInt8)) : (eS l).length ≤ 9 + 9 * l.length + l.flatten.length := by
  have := flatMap_eB_len l
  have := en_len9 l.length
  unfold eS
  rw [List.length_append]; omega
theorem eL_len (l : List Int) : (eL l).length ≤ 9 + 9 * l.length := by
  have := flatMap_en_len l
  have := en_len9 l.length
  unfold eL
  rw [List.length_append]; omega
theorem eD_len (l : List (List UInt8)) (h : ∀ d ∈ l, d.length = 16) : (eD l).length ≤ 9 + 16 * l.length := by
  have h1 := flat16_len l h l.length
  rw [List.take_length] at h1
  have := en_len9 l.length
  unfold eD
  rw [List.length_append]; omega
theorem pos_en {α : Type} (n : Nat) (r : List UInt8) : 1 ≤ (en n ++ r).length := by have := (en_length n).1; rw [List.length_append]; omega

set_option maxRecDepth 100000 in
set_option maxHeartbeats 2000000 in
theorem walk (s : ByteArray) (Al : Option Addr) (l : List Int) (cl : Nat) (Ax : Option Addr) (x : List ByteArray) (cx : Nat) (Ad : Option Addr) (d : List (List UInt8)) (cd : Nat) (At : Option Addr) (t : List UInt8) (ct : Nat) (w : World)
    (hs : s.size ≤ 1048576) (hl : l.length ≤ 1048576) (hx : tot x ≤ 1048576) (hd : d.length ≤ 1048576) (ht : t.length ≤ 1048576)
    (hi : ∀ n ∈ l, inI n) (h16 : ∀ y ∈ d, y.length = 16) (hAt : At = none → t = []) (hrl : Rd w Al (l.map (Value.int .i64))) (hrx : Rd w Ax (x.map Value.string)) (hrd : Rd w Ad (bs d.flatten)) (hrt : Rd w At (bs t)) :
    Calls Try.prog 8 #[.string s, .slice Al l.length cl, .slice Ax x.length cx, .slice Ad d.length cd, .slice At t.length ct] w (San w) := by
  obtain ⟨i0, hi0, hz0, hz1, hz2⟩ := info_parts Try.info5
  have hxl : x.length ≤ 1048576 := by unfold tot at hx; omega
  have HX := Lib.hid hx; clear hx
  have HI := Lib.hid hi; clear hi
  have H16 := Lib.hid h16; clear h16
  have HAt := Lib.hid hAt; clear hAt
  have RL := Lib.hid hrl; clear hrl
  have RX := Lib.hid hrx; clear hrx
  have RD := Lib.hid hrd; clear hrd
  have RT := Lib.hid hrt; clear hrt
  go_enter Try.func8, Try.ntmps8
  by_cases hbig : 2000 < s.size + l.length + d.length + t.length
  · go_wp2_with fail
    refine (sanity_any w).mono ?_
    rintro e w1 ⟨rfl, hb⟩
    go_wp2_with fail
    go_ret
    exact ⟨rfl, hb⟩
  by_cases hfew : (tot x : Int) ≤ 2000
  case neg =>
    have HF := Lib.hid hfew
    clear hfew
    go_wp2_with fail
    refine (few_any x Ax cx w (by have := HX.out; omega) RX.out).mono ?_
    rintro e w1 ⟨rfl, rfl⟩
    rw [decide_eq_false (by have := HF.out; omega)]
    go_wp2_with fail
    refine (sanity_any w).mono ?_
    rintro e w1 ⟨rfl, hb⟩
    go_wp2_with fail
    go_ret
    exact ⟨rfl, hb⟩
  have HF := Lib.hid hfew
  clear hfew
  have hb0 := Below.refl w.heap.size w
  go_wp2_with fail
  refine (few_any x Ax cx w (by have := HX.out; omega) RX.out).mono ?_
  rintro e w1 ⟨rfl, rfl⟩
  rw [decide_eq_true HF.out]
  go_wp2_with fail
  refine (st_own (w := w) (bytes_any s w (by omega)) _ rfl (Below.refl _ _)).mono ?_
  rintro e w1 ⟨Bs, ds, rfl, hs, hn1⟩
  obtain ⟨gs, os, rfl⟩ := rd_block hs.1 (pos_en (α := Nat) _ _)
  have Qs := Lib.hid hs.1
  have hcs := hs.2.1
  have hms : ds ≤ 9223372036854775807 := by have := hs.2.2; unfold maxLen at this; omega
  clear hs
  obtain ⟨Es, hEs⟩ : ∃ E, E = eB s.data.toList := ⟨_, rfl⟩
  have hlens : Es.length ≤ 20000000 := by rw [hEs]; have := eB_len s.data.toList; have : s.data.toList.length = s.size := rfl; omega
  rw [← hEs] at Qs hcs ⊢
  have EEs := Lib.hid hEs
  clear hEs
  have RL := Lib.hid (RL.out.below hn1)
  have RX := Lib.hid (RX.out.below hn1)
  have RD := Lib.hid (RD.out.below hn1)
  have RT := Lib.hid (RT.out.below hn1)
  have hb1 := below_next hb0 hn1
  clear hn1 hb0
  go_wp2_with fail
  refine (st_own (w := w1) (ints_any l Al cl w1 (by omega) HI.out RL.out) _ rfl (Below.refl _ _)).mono ?_
  rintro e w2 ⟨Bl, dl, rfl, hl, hn2⟩
  obtain ⟨gl, ol, rfl⟩ := rd_block hl.1 (pos_en (α := Nat) _ _)
  have Ql := Lib.hid hl.1
  have hcl := hl.2.1
  have hml : dl ≤ 9223372036854775807 := by have := hl.2.2; unfold maxLen at this; omega
  clear hl
  obtain ⟨El, hEl⟩ : ∃ E, E = eL l := ⟨_, rfl⟩
  have hlenl : El.length ≤ 20000000 := by rw [hEl]; have := eL_len l; omega
  rw [← hEl] at Ql hcl ⊢
  have EEl := Lib.hid hEl
  clear hEl
  have RL := Lib.hid (RL.out.below hn2)
  have RX := Lib.hid (RX.out.below hn2)
  have RD := Lib.hid (RD.out.below hn2)
  have RT := Lib.hid (RT.out.below hn2)
  have Qs := Lib.hid (Qs.out.below hn2)
  have hb2 := below_next hb1 hn2
  clear hn2 hb1
  go_wp2_with fail
  refine (st_own (w := w2) (digests_any d Ad cd w2 (by omega) H16.out RD.out) _ rfl (Below.refl _ _)).mono ?_
  rintro e w3 ⟨Bd, dd, rfl, hd, hn3⟩
  obtain ⟨gd, od, rfl⟩ := rd_block hd.1 (pos_en (α := Nat) _ _)
  have Qd := Lib.hid hd.1
  have hcd := hd.2.1
  have hmd : dd ≤ 9223372036854775807 := by have := hd.2.2; unfold maxLen at this; omega
  clear hd
  obtain ⟨Ed, hEd⟩ : ∃ E, E = eD d := ⟨_, rfl⟩
  have hlend : Ed.length ≤ 20000000 := by rw [hEd]; have := eD_len d H16.out; omega
  rw [← hEd] at Qd hcd ⊢
  have EEd := Lib.hid hEd
  clear hEd
  have RL := Lib.hid (RL.out.below hn3)
  have RX := Lib.hid (RX.out.below hn3)
  have RD := Lib.hid (RD.out.below hn3)
  have RT := Lib.hid (RT.out.below hn3)
  have Qs := Lib.hid (Qs.out.below hn3)
  have Ql := Lib.hid (Ql.out.below hn3)
  have hb3 := below_next hb2 hn3
  clear hn3 hb2
  go_wp2_with fail
  refine (st_own (w := w3) (strings_any x Ax cx w3 (by omega) (by have := HX.out; unfold tot at this; omega) RX.out) _ rfl (Below.refl _ _)).mono ?_
  rintro e w4 ⟨Bx, dx, rfl, hx, hn4⟩
  obtain ⟨gx, ox, rfl⟩ := rd_block hx.1 (pos_en (α := Nat) _ _)
  have Qx := Lib.hid hx.1
  have hcx := hx.2.1
  have hmx : dx ≤ 9223372036854775807 := by have := hx.2.2; unfold maxLen at this; omega
  clear hx
  obtain ⟨Ex, hEx⟩ : ∃ E, E = eS (lists x) := ⟨_, rfl⟩
  have hlenx : Ex.length ≤ 20000000 := by rw [hEx]; have := eS_len (lists x); have h3 : (lists x).length = x.length := (by simp [lists]); have h4 := HX.out; unfold tot at h4; omega
  rw [← hEx] at Qx hcx ⊢
  have EEx := Lib.hid hEx
  clear hEx
  have RL := Lib.hid (RL.out.below hn4)
  have RX := Lib.hid (RX.out.below hn4)
  have RD := Lib.hid (RD.out.below hn4)
  have RT := Lib.hid (RT.out.below hn4)
  have Qs := Lib.hid (Qs.out.below hn4)
  have Ql := Lib.hid (Ql.out.below hn4)
  have Qd := Lib.hid (Qd.out.below hn4)
  have hb4 := below_next hb3 hn4
  clear hn4 hb3
  go_wp2_with (at_builtin; refine wpList_full_src rfl (.tmp 59) (.tmp 60) 28 28 rfl 5 i0 _ 1 Try.underlying28 hi0 hz0 hz1 hz2 rfl gs os Es.length (bs Es) rfl (bs_length _) (rd_cells2 Qs.out) _ t.length (bs t) rfl (src_rd Try.underlying28 hz1 RT.out HAt.out ct) ?c1 ?c2 ?_)
  case c1 => unfold maxLen; omega
  case c2 => omega
  intro Fs fs w5 hrs hn5 hfcs hfms
  rw [← bs_append] at hrs
  have Ps := Lib.hid hrs
  have PMs := Lib.hid hfms
  clear hrs hfms
  have RL := Lib.hid (RL.out.below hn5)
  have RX := Lib.hid (RX.out.below hn5)
  have RD := Lib.hid (RD.out.below hn5)
  have RT := Lib.hid (RT.out.below hn5)
  have Qs := Lib.hid (Qs.out.below hn5)
  have Ql := Lib.hid (Ql.out.below hn5)
  have Qd := Lib.hid (Qd.out.below hn5)
  have Qx := Lib.hid (Qx.out.below hn5)
  have hb5 := below_next hb4 hn5
  clear hn5 hb4
  go_wp2_with fail
  have hcall := getBytes_any (Es ++ t) Fs fs w5 (by rw [List.length_append]; exact hfcs) PMs.out Ps.out
  rw [show gB3 (Es ++ t) = (s.data.toList, Es.length, 0) from by rw [EEs.out]; exact gB3_en _ _ (by show s.size ≤ _; omega), List.length_append] at hcall
  refine hcall.mono ?_
  rintro e wz ⟨rfl, rfl⟩
  clear hcall Ps PMs hfcs
  unfold retS
  simp only [mk_data]
  go_wp2_with (at_builtin; refine wpList_full_src rfl (.tmp 72) (.tmp 73) 28 28 rfl 5 i0 _ 1 Try.underlying28 hi0 hz0 hz1 hz2 rfl gl ol El.length (bs El) rfl (bs_length _) (rd_cells2 Ql.out) _ t.length (bs t) rfl (src_rd Try.underlying28 hz1 RT.out HAt.out ct) ?c1 ?c2 ?_)
  case c1 => unfold maxLen; omega
  case c2 => omega
  intro Fl fl w6 hrl hn6 hfcl hfml
  rw [← bs_append] at hrl
  have Pl := Lib.hid hrl
  have PMl := Lib.hid hfml
  clear hrl hfml
  have RL := Lib.hid (RL.out.below hn6)
  have RX := Lib.hid (RX.out.below hn6)
  have RD := Lib.hid (RD.out.below hn6)
  have RT := Lib.hid (RT.out.below hn6)
  have Qs := Lib.hid (Qs.out.below hn6)
  have Ql := Lib.hid (Ql.out.below hn6)
  have Qd := Lib.hid (Qd.out.below hn6)
  have Qx := Lib.hid (Qx.out.below hn6)
  have hb6 := below_next hb5 hn6
  clear hn6 hb5
  go_wp2_with fail
  have hge := gList_en codecI (by omega) l HI.out (by first | omega | (simp [lists]; omega)) t
  rw [show eLs en l = El from EEl.out.symm] at hge
  have hcall := st_list0 (getI_any (El ++ t) Fl fl w6 (by rw [List.length_append]; omega) (by rw [List.length_append]; exact hfcl) PMl.out Pl.out) El.length _ hge.1 hge.2
  rw [List.length_append] at hcall
  refine hcall.mono ?_
  clear hcall hge Pl PMl hfcl
  rintro e w7 ⟨Gl, ql, rfl, hrl, hn7⟩
  rw [cells_ints] at hrl
  rw [List.length_map]
  have Zl : Hid (Rd w7 Gl (l.map (Value.int .i64))) := hrl
  clear hrl
  have RL := Lib.hid (RL.out.below hn7)
  have RX := Lib.hid (RX.out.below hn7)
  have RD := Lib.hid (RD.out.below hn7)
  have RT := Lib.hid (RT.out.below hn7)
  have Qs := Lib.hid (Qs.out.below hn7)
  have Ql := Lib.hid (Ql.out.below hn7)
  have Qd := Lib.hid (Qd.out.below hn7)
  have Qx := Lib.hid (Qx.out.below hn7)
  have hb7 := below_next hb6 hn7
  clear hn7 hb6
  go_wp2_with (at_builtin; refine wpList_full_src rfl (.tmp 85) (.tmp 86) 28 28 rfl 5 i0 _ 1 Try.underlying28 hi0 hz0 hz1 hz2 rfl gd od Ed.length (bs Ed) rfl (bs_length _) (rd_cells2 Qd.out) _ t.length (bs t) rfl (src_rd Try.underlying28 hz1 RT.out HAt.out ct) ?c1 ?c2 ?_)
  case c1 => unfold maxLen; omega
  case c2 => omega
  intro Fd fd w8 hrd hn8 hfcd hfmd
  rw [← bs_append] at hrd
  have Pd := Lib.hid hrd
  have PMd := Lib.hid hfmd
  clear hrd hfmd
  have RL := Lib.hid (RL.out.below hn8)
  have RX := Lib.hid (RX.out.below hn8)
  have RD := Lib.hid (RD.out.below hn8)
  have RT := Lib.hid (RT.out.below hn8)
  have Qs := Lib.hid (Qs.out.below hn8)
  have Ql := Lib.hid (Ql.out.below hn8)
  have Qd := Lib.hid (Qd.out.below hn8)
  have Qx := Lib.hid (Qx.out.below hn8)
  have Zl := Lib.hid (Zl.out.below hn8)
  have hb8 := below_next hb7 hn8
  clear hn8 hb7
  go_wp2_with fail
  have hge := gList_en codecD (by omega) d H16.out (by first | omega | (simp [lists]; omega)) t
  rw [show eLs (fun y => y) d = Ed from by rw [EEd.out, eLs_digs]] at hge
  have hcall := st_list0 (getD_any (Ed ++ t) Fd fd w8 (by rw [List.length_append]; omega) (by rw [List.length_append]; exact hfcd) PMd.out Pd.out) Ed.length _ hge.1 hge.2
  rw [List.length_append] at hcall
  refine hcall.mono ?_
  clear hcall hge Pd PMd hfcd
  rintro e w9 ⟨Gd, qd, rfl, hrd, hn9⟩
  rw [cells_digs] at hrd
  rw [List.length_map]
  have Zd : Hid (Rd w9 Gd (bs d.flatten)) := hrd
  clear hrd
  have RL := Lib.hid (RL.out.below hn9)
  have RX := Lib.hid (RX.out.below hn9)
  have RD := Lib.hid (RD.out.below hn9)
  have RT := Lib.hid (RT.out.below hn9)
  have Qs := Lib.hid (Qs.out.below hn9)
  have Ql := Lib.hid (Ql.out.below hn9)
  have Qd := Lib.hid (Qd.out.below hn9)
  have Qx := Lib.hid (Qx.out.below hn9)
  have Zl := Lib.hid (Zl.out.below hn9)
  have hb9 := below_next hb8 hn9
  clear hn9 hb8
  go_wp2_with (at_builtin; refine wpList_full_src rfl (.tmp 98) (.tmp 99) 28 28 rfl 5 i0 _ 1 Try.underlying28 hi0 hz0 hz1 hz2 rfl gx ox Ex.length (bs Ex) rfl (bs_length _) (rd_cells2 Qx.out) _ t.length (bs t) rfl (src_rd Try.underlying28 hz1 RT.out HAt.out ct) ?c1 ?c2 ?_)
  case c1 => unfold maxLen; omega
  case c2 => omega
  intro Fx fx w10 hrx hn10 hfcx hfmx
  rw [← bs_append] at hrx
  have Px := Lib.hid hrx
  have PMx := Lib.hid hfmx
  clear hrx hfmx
  have RL := Lib.hid (RL.out.below hn10)
  have RX := Lib.hid (RX.out.below hn10)
  have RD := Lib.hid (RD.out.below hn10)
  have RT := Lib.hid (RT.out.below hn10)
  have Qs := Lib.hid (Qs.out.below hn10)
  have Ql := Lib.hid (Ql.out.below hn10)
  have Qd := Lib.hid (Qd.out.below hn10)
  have Qx := Lib.hid (Qx.out.below hn10)
  have Zl := Lib.hid (Zl.out.below hn10)
  have Zd := Lib.hid (Zd.out.below hn10)
  have hb10 := below_next hb9 hn10
  clear hn10 hb9
  go_wp2_with fail
  have hge := gList_en codecS (by omega) (lists x) (fun y hy => by have h1 := List.sublist_flatten_of_mem hy; have := h1.length_le; have := HX.out; unfold tot at this; omega) (by first | omega | (simp [lists]; omega)) t
  rw [show eLs eB (lists x) = Ex from EEx.out.symm] at hge
  have hcall := st_list0 (getS_any (Ex ++ t) Fx fx w10 (by rw [List.length_append]; omega) (by rw [List.length_append]; exact hfcx) PMx.out Px.out) Ex.length _ hge.1 hge.2
  rw [List.length_append] at hcall
  refine hcall.mono ?_
  clear hcall hge Px PMx hfcx
  rintro e w11 ⟨Gx, qx, rfl, hrx, hn11⟩
  rw [cells_strs, lists_back] at hrx
  rw [List.length_map, show (lists x).length = x.length from by simp [lists]]
  have Zx : Hid (Rd w11 Gx (x.map Value.string)) := hrx
  clear hrx
  have RL := Lib.hid (RL.out.below hn11)
  have RX := Lib.hid (RX.out.below hn11)
  have RD := Lib.hid (RD.out.below hn11)
  have RT := Lib.hid (RT.out.below hn11)
  have Qs := Lib.hid (Qs.out.below hn11)
  have Ql := Lib.hid (Ql.out.below hn11)
  have Qd := Lib.hid (Qd.out.below hn11)
  have Qx := Lib.hid (Qx.out.below hn11)
  have Zl := Lib.hid (Zl.out.below hn11)
  have Zd := Lib.hid (Zd.out.below hn11)
  have hb11 := below_next hb10 hn11
  clear hn11 hb10
  go_wp2_with fail
  refine (sanity_any w11).mono ?_
  rintro e w12 ⟨rfl, hn12⟩
  have RL := Lib.hid (RL.out.below hn12)
  have RX := Lib.hid (RX.out.below hn12)
  have RD := Lib.hid (RD.out.below hn12)
  have RT := Lib.hid (RT.out.below hn12)
  have Qs := Lib.hid (Qs.out.below hn12)
  have Ql := Lib.hid (Ql.out.below hn12)
  have Qd := Lib.hid (Qd.out.below hn12)
  have Qx := Lib.hid (Qx.out.below hn12)
  have Zl := Lib.hid (Zl.out.below hn12)
  have Zd := Lib.hid (Zd.out.below hn12)
  have Zx := Lib.hid (Zx.out.below hn12)
  have hb12 := below_next hb11 hn12
  clear hn12 hb11
  go_wp2_with fail
  refine (st_drew (w := w12) (sameTexts_rd x Gx Ax qx cx _ (by unfold maxLen; omega) Zx.out RX.out) (Below.refl _ _)).mono ?_
  rintro e w13 ⟨rfl, hn13⟩
  have RL := Lib.hid (RL.out.below hn13)
  have RX := Lib.hid (RX.out.below hn13)
  have RD := Lib.hid (RD.out.below hn13)
  have RT := Lib.hid (RT.out.below hn13)
  have Qs := Lib.hid (Qs.out.below hn13)
  have Ql := Lib.hid (Ql.out.below hn13)
  have Qd := Lib.hid (Qd.out.below hn13)
  have Qx := Lib.hid (Qx.out.below hn13)
  have Zl := Lib.hid (Zl.out.below hn13)
  have Zd := Lib.hid (Zd.out.below hn13)
  have Zx := Lib.hid (Zx.out.below hn13)
  have hb13 := below_next hb12 hn13
  clear hn13 hb12
  go_wp2_with fail
  refine (st_drew (w := w13) (sameInts_rd l Gl Al ql cl _ (by unfold maxLen; omega) Zl.out RL.out) (Below.refl _ _)).mono ?_
  rintro e w14 ⟨rfl, hn14⟩
  have RL := Lib.hid (RL.out.below hn14)
  have RX := Lib.hid (RX.out.below hn14)
  have RD := Lib.hid (RD.out.below hn14)
  have RT := Lib.hid (RT.out.below hn14)
  have Qs := Lib.hid (Qs.out.below hn14)
  have Ql := Lib.hid (Ql.out.below hn14)
  have Qd := Lib.hid (Qd.out.below hn14)
  have Qx := Lib.hid (Qx.out.below hn14)
  have Zl := Lib.hid (Zl.out.below hn14)
  have Zd := Lib.hid (Zd.out.below hn14)
  have Zx := Lib.hid (Zx.out.below hn14)
  have hb14 := below_next hb13 hn14
  clear hn14 hb13
  go_wp2_with fail
  refine (st_drew (w := w14) (sameD_rd d H16.out Gd Ad qd cd _ (by unfold maxLen; omega) Zd.out RD.out) (Below.refl _ _)).mono ?_
  rintro e w15 ⟨rfl, hn15⟩
  have RL := Lib.hid (RL.out.below hn15)
  have RX := Lib.hid (RX.out.below hn15)
  have RD := Lib.hid (RD.out.below hn15)
  have RT := Lib.hid (RT.out.below hn15)
  have Qs := Lib.hid (Qs.out.below hn15)
  have Ql := Lib.hid (Ql.out.below hn15)
  have Qd := Lib.hid (Qd.out.below hn15)
  have Qx := Lib.hid (Qx.out.below hn15)
  have Zl := Lib.hid (Zl.out.below hn15)
  have Zd := Lib.hid (Zd.out.below hn15)
  have Zx := Lib.hid (Zx.out.below hn15)
  have hb15 := below_next hb14 hn15
  clear hn15 hb14
  go_wp2_with fail
  go_ret
  exact ⟨rfl, hb15⟩

theorem contract (H : Type) (enc : TypeId × Value → H) (W : World) (base : Nat) (args : Array Value) (ds gs : List (DataW H)) (before : List MemPlace)
    (hval : ∀ (j : Nat) t v, Try.f8.params[j]? = some t → args[j]? = some v → Value.okWide Try.prog W .any base t v)
    (hW : DataW.Whole enc Try.prog Try.f8.params.toList Rows.wireListRoundTripSpec.vars false W args.toList ds gs before) (hk : Rows.uptoSmall H (ds ++ gs) = true) :
    Calls Try.prog 8 args W fun e W' => ∃ v, e = .returned v ∧ Rows.wireListRoundTripSpec.post enc Try.prog Try.f8 false true false false W args v W' := by
  have hW' := hW
  obtain ⟨p, q, hA0, hV, rfl, hfz, hnd⟩ := hW
  have hA : DataW.TrodAll enc Try.prog W 0 (fun _ => true) true Try.f8.params.toList args.toList ds p := hA0
  rw [Try.params8] at hA hval
  obtain ⟨v0, vs0, d0, ds0, p0, q0, e0, rfl, rfl, h0, r0⟩ := trodAll_cons hA
  obtain ⟨v1, vs1, d1, ds1, p1, q1, rfl, rfl, rfl, h1, r1⟩ := trodAll_cons r0
  obtain ⟨v2, vs2, d2, ds2, p2, q2, rfl, rfl, rfl, h2, r2⟩ := trodAll_cons r1
  obtain ⟨v3, vs3, d3, ds3, p3, q3, rfl, rfl, rfl, h3, r3⟩ := trodAll_cons r2
  obtain ⟨v4, vs4, d4, ds4, p4, q4, rfl, rfl, rfl, h4, r4⟩ := trodAll_cons r3
  obtain ⟨rfl, rfl, rfl⟩ := trodAll_nil r4
  obtain rfl : args = #[v0, v1, v2, v3, v4] := by cases args; simp_all
  obtain ⟨rfl, rfl⟩ := trodVars_none hV
  have hb := of_decide_eq_true hk
  simp only [List.append_nil, Rows.uptoBulkAll] at hb
  obtain ⟨s, rfl, rfl, rfl, ws⟩ := open_string Try.underlying9 (hval 0 9 v0 rfl rfl) h0
  obtain ⟨Al, l, cl, rfl, hrl, hi, hcl, hml, _⟩ := open_rdI (hval 1 22 v1 rfl rfl) h1
  obtain ⟨Ax, x, cx, rfl, hrx, hcx, hmx, hbx⟩ := open_rdS (hval 2 23 v2 rfl rfl) h2
  obtain ⟨Ad, d, cd, rfl, hrd, h16, hcd, hmd, hbd⟩ := open_rdD (hval 3 24 v3 rfl rfl) h3
  obtain ⟨At, t, ct, rfl, hrt, hct, hmt, hAt⟩ := open_rd (hval 4 28 v4 rfl rfl) h4
  have hbl := slice_bulk Try.underlying22 h1
  have hbt := slice_bulk Try.underlying28 h4
  have hbs : s.size ≤ Rows.uptoBulk (DataW.lit (H := H) (.string s.data.toList)) := by simp [Rows.uptoBulk]
  refine (walk s Al l cl Ax x cx Ad d cd At t ct W (by omega) (by omega) (by omega) (by omega) (by omega) hi h16 hAt hrl hrx hrd hrt).mono fun e W' ⟨he, hb⟩ => ⟨_, he, ?_⟩
  exact law_post rfl rfl (by kernel_rfl) hW' rfl hb

set_option maxRecDepth 100000 in
theorem lifted (os : Os) (started : os.Started) (H : Type) (enc : TypeId × Value → H) (F : Stop.Interp) :
    ReturnsInHanded {} Try.checked os 8 .any ((Rows.OpenSpec.upto Rows.wireListRoundTripSpec).pre6 enc Try.prog Try.f8 Rows.wireListRoundTripUptoRow.domain false) (((Rows.OpenSpec.upto Rows.wireListRoundTripSpec).at F).post enc Try.prog Try.f8 false true false false) := by
  refine returnsInHanded_of_cond (C := Try.checked) (s := Rows.OpenSpec.upto Rows.wireListRoundTripSpec) (k := Rows.uptoSmall) rfl Try.own started (by kernel_rfl) Try.func8
    (OpenSpec.witness (enc := enc) (C := Try.checked) (s := Rows.OpenSpec.upto Rows.wireListRoundTripSpec) (k := Rows.uptoSmall) rfl false ⟨#[], #[.string ByteArray.empty, .slice none 0 0, .slice none 0 0, .slice none 0 0, .slice none 0 0], []⟩ 8 (by kernel_rfl) (by kernel_rfl) (by kernel_rfl)
      (x := ([.lit (.string []), .nil, .nil, .nil, .nil], [], [])) (by kernel_rfl) rfl (by kernel_rfl)) ?_
  intro W base args ds gs before hval hW _ hk _
  exact contract H enc W base args ds gs before hval hW hk

theorem proved : Rows.WireListRoundTripUptoSaid :=
  OpenClaim.holds_of_cond 8 Try.f8 rfl rfl rfl rfl rfl rfl rfl ⟨rfl, rfl, rfl, rfl, rfl⟩ rfl rfl rfl rfl rfl (by kernel_rfl) Try.func8 (by kernel_rfl)
    (of_decide_eq_true (by kernel_rfl)) (by unfold Func.isWrapper; first | (rw [if_pos (by decide +kernel)]; kernel_rfl) | (rw [if_neg (by decide +kernel)]; exact ⟨rfl, rfl⟩))
    (fun os started H enc _ F => lifted os started H enc F)

end L6
end Go.Proofs.Ytelkekicceoaoaa
