/-
  The walks of the reference's Bytes, Ints, Strings, Digests.
-/
import Derived.Test.YtelkekicceoaoaaWRInt
import Derived.Test.YtelkekicceoaoaaWEnc2
namespace Go.Proofs.Ytelkekicceoaoaa
open Go.RowKit
set_option linter.unusedVariables false

theorem conv_back {P : Program} {src dst e : TypeId} (hs : P.underlying src = some .string) (hd : P.underlying dst = some (.slice e)) (he : P.underlying e = some (.int .u8)) (w : World) (s : ByteArray) :
    ∃ c w', (convert src dst (.string s)).run P w = .ok (.slice (some ⟨w.heap.size, 0, none⟩) s.size c) w' ∧ Rd w' (some ⟨w.heap.size, 0, none⟩) (bs s.data.toList) ∧ Below w.heap.size w w' := by
  refine ⟨_, _, run_bytes_of_string w src dst e s hs hd he, ?_, ⟨rfl, rfl, rfl, by simp, fun k hk => Below.heap_alloc w.drew _ k hk⟩⟩
  refine .inr ⟨w.heap.size, 0, rfl, fun k v hv => ?_⟩
  have hk : k < s.data.size := by have := (List.getElem?_eq_some_iff.1 hv).1; rw [bs_length] at this; simpa using this
  have hcell : (w.drew.alloc (.cells (bytesRow s (grownCap w s.size 0 e)) e ((bytesRow s (grownCap w s.size 0 e)).size, (bytesRow s (grownCap w s.size 0 e)).size + 1))).cell? ⟨w.heap.size, 0 + k, none⟩ = (bytesRow s (grownCap w s.size 0 e))[0 + k]? :=
    cell_of_row _ w.heap.size (0 + k) _ e _ (heap_alloc_new w.drew _)
  rw [hcell]
  unfold bytesRow
  rw [Nat.zero_add, Array.getElem?_append_left (by simpa using hk)]
  simpa [bs, by8] using hv

set_option maxHeartbeats 400000 in
theorem rbytes_any (s : ByteArray) (w : World) (hs : s.size ≤ 1099511627776) :
    Calls Try.prog 17 #[.string s] w fun e w' => ∃ v', e = .returned v' ∧ w'.ownsRow w.heap.size 5 1 v' (eB s.data.toList).length (bs (eB s.data.toList)) ∧ Below w.heap.size w w' := by
  obtain ⟨i0, hi0, hz0, hz1, hz2⟩ := info_parts Try.info5
  have h9 := en_len9 s.size
  go_enter Try.func17, Try.ntmps17
  go_wp2_with fail
  refine (rint_any s.size (inI_nat _ (by omega)) w).mono ?_
  rintro e w1 ⟨v1, rfl, hown, hb⟩
  obtain ⟨c2, w2, hcv, hrd2, hb2⟩ := conv_back (P := Try.prog) (src := 9) (dst := 28) Try.underlying9 Try.underlying28 Try.underlying5 w1 s
  have HO := Lib.hid (own_keep hown hb2)
  have HR := Lib.hid hrd2
  have hb2' := below_next hb hb2
  have hsz : s.data.toList.length = s.size := rfl
  have HSZ := Lib.hid hsz
  clear hown hrd2 hb2 hsz
  go_wp2_with (at_builtin; refine wpList_own_src rfl (.tmp 5) (.tmp 7) 28 28 rfl w.heap.size 5 i0 _ 1 1 Try.underlying28 hi0 hz0 hz1 hz2 rfl _ _ _ rfl HO.out _ s.size (bs s.data.toList) rfl (src_rd (l := s.data.toList) Try.underlying28 hz1 HR.out (by simp) c2) ?c1 ?c2 ?c3 ?_)
  case c1 => unfold maxLen; omega
  case c2 => omega
  case c3 => exact hb2'.size
  intro v3 w3 hown3 hg3 hat3
  have HO3 := Lib.hid hown3
  have hb3 : Below w.heap.size w w3 := below_own hb2' hg3 (fun g hg => (HO.out.lt g hg).1)
  clear hown3 hg3 hat3
  go_wp2_with fail
  go_ret
  refine ⟨_, rfl, ?_, hb3⟩
  have h := HO3.out
  rw [← bs_append] at h
  have e : (eB s.data.toList).length = (en s.size).length + s.size := by simp [eB]
  rw [e]
  exact h

set_option maxHeartbeats 400000 in
theorem rints_any (l : List Int) (A : Option Addr) (c : Nat) (w : World) (hl : l.length ≤ 1099511627776) (hi : ∀ n ∈ l, inI n) (hr : Rd w A (l.map (Value.int .i64))) :
    Calls Try.prog 19 #[.slice A l.length c] w fun e w' => ∃ v', e = .returned v' ∧ w'.ownsRow w.heap.size 5 1 v' (eL l).length (bs (eL l)) ∧ Below w.heap.size w w' := by
  obtain ⟨i0, hi0, hz0, hz1, hz2⟩ := info_parts Try.info5
  have HI := Lib.hid hi; clear hi
  have HR := Lib.hid hr; clear hr
  go_enter Try.func19, Try.ntmps19
  go_wp2_with fail
  refine (rint_any l.length (inI_nat _ (by omega)) w).mono ?_
  rintro e w1 ⟨v1, rfl, hown, hb⟩
  have HO := Lib.hid hown; clear hown
  go_wp2_with fail
  go_loopg [3, 4] l.length (fun g v i wr => ∃ (j : Nat) (M : List UInt8), j + g = l.length ∧ i = .int .i64 j ∧ Hid (M = en l.length ++ (l.take j).flatMap en) ∧ wr.ownsRow w.heap.size 5 1 v M.length (bs M) ∧ Below w.heap.size w wr)
  case atStart => exact ⟨0, _, by omega, rfl, by simp [Hid], HO.out, hb⟩
  case round =>
    obtain ⟨j, M, hj, rfl, HM, hown, hbw⟩ := hrel
    obtain ⟨A0, c0, rfl, hrd0, hc0, hm0⟩ := Rd.of_own hown
    have HO := Lib.hid hown; clear hown hrd0
    cases gk with
    | zero =>
      have hj' : ¬ (j < l.length) := by omega
      go_wp2_with fail
      go_ret
      refine ⟨_, rfl, ?_, hbw⟩
      have e : M = eL l := by rw [HM.out, List.take_of_length_le (by omega)]; rfl
      rw [← e]
      exact HO.out
    | succ g =>
      have hlt : j < l.length := by omega
      obtain ⟨x, hx⟩ : ∃ x, l[j]? = some x := ⟨_, List.getElem?_eq_getElem hlt⟩
      obtain ⟨b, o, rfl, hc⟩ := HR.out.open (by intro e; rw [List.map_eq_nil_iff] at e; subst e; simp at hlt)
      have h0 := hc j (.int .i64 x) (by simp [hx])
      have hcell : wr.cell? ⟨b, o + j, none⟩ = some (.int .i64 x) := (hbw.cell (p := ⟨b, o + j, none⟩) (World.block_lt_of_cell? w _ h0)).trans h0
      have hfl := flatMap_en_len (l.take j)
      have hlt' : (l.take j).length ≤ l.length := by simp; omega
      have h9 := en_len9 l.length
      have h9x := en_len9 x
      have hbd : M.length + 9 ≤ 70368744177664 := by rw [HM.out, List.length_append]; omega
      have HB := Lib.hid hbd
      have HX := Lib.hid hx
      clear hc h0 hfl hlt' h9 hbd hx
      go_wp2_with fail
      refine (rint_any x (HI.out _ (List.mem_of_getElem? HX.out)) wr).mono ?_
      rintro e w2 ⟨v2, rfl, hown2, hb2⟩
      obtain ⟨A2, c2, rfl, hrd2, hc2, hm2⟩ := Rd.of_own hown2
      have hA2 : A2 = none → en x = [] := fun h => by
        subst h
        rcases hrd2 with h | ⟨b, o, h, _⟩
        · simpa [bs] using h
        · cases h
      have HO2 := Lib.hid (own_keep HO.out hb2)
      have HR2 := Lib.hid hrd2
      have HA2 := Lib.hid hA2
      have hb2' := below_next hbw hb2
      obtain ⟨EX, hEX⟩ : ∃ EX, EX = en x := ⟨_, rfl⟩
      rw [← hEX] at HR2 HA2 hc2 h9x ⊢
      have HEX := Lib.hid hEX
      clear hown2 hrd2 hb2 hA2 hEX
      go_wp2_with (at_builtin; refine wpList_own_src rfl (.tmp 14) (.tmp 19) 28 28 rfl w.heap.size 5 i0 _ 1 1 Try.underlying28 hi0 hz0 hz1 hz2 rfl _ _ _ rfl HO2.out _ EX.length (bs EX) rfl (src_rd Try.underlying28 hz1 HR2.out HA2.out c2) ?c1 ?c2 ?c3 ?_)
      case c1 => have := HB.out; unfold maxLen; omega
      case c2 => have := HB.out; omega
      case c3 => exact hb2'.size
      intro v3 w3 hown3 hg3 hat3
      have HO3 := Lib.hid hown3
      have hb3 : Below w.heap.size w w3 := below_own hb2' hg3 (fun g hg => (HO2.out.lt g hg).1)
      clear hown3 hg3 hat3
      go_wp2_with fail
      go_roundg g
      case measure => omega
      case rel =>
        refine ⟨j + 1, M ++ EX, by omega, by go_num, ?_, ?_, hb3⟩
        · show _ = _
          rw [take_snoc HX.out, List.flatMap_append, HM.out, HEX.out]
          simp
        · rw [bs_append, List.length_append]
          exact HO3.out

set_option maxHeartbeats 400000 in
theorem rstrings_any (l : List ByteArray) (A : Option Addr) (c : Nat) (w : World) (hl : l.length ≤ 1099511627776) (hi : (lists l).flatten.length ≤ 1099511627776) (hr : Rd w A (l.map Value.string)) :
    Calls Try.prog 21 #[.slice A l.length c] w fun e w' => ∃ v', e = .returned v' ∧ w'.ownsRow w.heap.size 5 1 v' (eS (lists l)).length (bs (eS (lists l))) ∧ Below w.heap.size w w' := by
  obtain ⟨i0, hi0, hz0, hz1, hz2⟩ := info_parts Try.info5
  have HI := Lib.hid hi; clear hi
  have HR := Lib.hid hr; clear hr
  go_enter Try.func21, Try.ntmps21
  go_wp2_with fail
  refine (rint_any l.length (inI_nat _ (by omega)) w).mono ?_
  rintro e w1 ⟨v1, rfl, hown, hb⟩
  have HO := Lib.hid hown; clear hown
  go_wp2_with fail
  go_loopg [3, 4] l.length (fun g v i wr => ∃ (j : Nat) (M : List UInt8), j + g = l.length ∧ i = .int .i64 j ∧ Hid (M = en l.length ++ ((lists l).take j).flatMap eB) ∧ wr.ownsRow w.heap.size 5 1 v M.length (bs M) ∧ Below w.heap.size w wr)
  case atStart => exact ⟨0, _, by omega, rfl, by simp [Hid], HO.out, hb⟩
  case round =>
    obtain ⟨j, M, hj, rfl, HM, hown, hbw⟩ := hrel
    obtain ⟨A0, c0, rfl, hrd0, hc0, hm0⟩ := Rd.of_own hown
    have HO := Lib.hid hown; clear hown hrd0
    cases gk with
    | zero =>
      have hj' : ¬ (j < l.length) := by omega
      go_wp2_with fail
      go_ret
      refine ⟨_, rfl, ?_, hbw⟩
      have e : M = eS (lists l) := by rw [HM.out, List.take_of_length_le (by simp [lists]; omega)]; simp [eS, lists]
      rw [← e]
      exact HO.out
    | succ g =>
      have hlt : j < l.length := by omega
      obtain ⟨x, hx⟩ : ∃ x, l[j]? = some x := ⟨_, List.getElem?_eq_getElem hlt⟩
      obtain ⟨b, o, rfl, hc⟩ := HR.out.open (by intro e; rw [List.map_eq_nil_iff] at e; subst e; simp at hlt)
      have h0 := hc j (.string x) (by simp [hx])
      have hcell : wr.cell? ⟨b, o + j, none⟩ = some (.string x) := (hbw.cell (p := ⟨b, o + j, none⟩) (World.block_lt_of_cell? w _ h0)).trans h0
      have hxl : (lists l)[j]? = some x.data.toList := by simp [lists, hx]
      have hfl := flatMap_eB_len ((lists l).take j)
      have hft := flatten_take_len (lists l) j
      have hlt' : ((lists l).take j).length ≤ l.length := by simp [lists]; omega
      have h9 := en_len9 l.length
      have hsz : x.size ≤ (lists l).flatten.length := (List.sublist_flatten_of_mem (List.mem_of_getElem? hxl)).length_le
      have hi := HI.out
      have hbd : M.length + 9 ≤ 20000000000000 := by rw [HM.out, List.length_append]; omega
      have hs40 : x.size ≤ 1099511627776 := by omega
      have hEXl : (eB x.data.toList).length ≤ 9 + x.size := eB_len x.data.toList
      have HB := Lib.hid hbd
      have HXL := Lib.hid hxl
      clear hc h0 hfl hlt' h9 hbd hft hsz hi hx hxl
      go_wp2_with fail
      refine (rbytes_any x wr (by omega)).mono ?_
      rintro e w2 ⟨v2, rfl, hown2, hb2⟩
      obtain ⟨A2, c2, rfl, hrd2, hc2, hm2⟩ := Rd.of_own hown2
      have hA2 : A2 = none → eB x.data.toList = [] := fun h => by
        subst h
        rcases hrd2 with h | ⟨b, o, h, _⟩
        · simpa [bs] using h
        · cases h
      have HO2 := Lib.hid (own_keep HO.out hb2)
      have HR2 := Lib.hid hrd2
      have HA2 := Lib.hid hA2
      have hb2' := below_next hbw hb2
      obtain ⟨EX, hEX⟩ : ∃ EX, EX = eB x.data.toList := ⟨_, rfl⟩
      rw [← hEX] at HR2 HA2 hc2 hEXl ⊢
      have HEX := Lib.hid hEX
      clear hown2 hrd2 hb2 hA2 hEX
      go_wp2_with (at_builtin; refine wpList_own_src rfl (.tmp 14) (.tmp 19) 28 28 rfl w.heap.size 5 i0 _ 1 1 Try.underlying28 hi0 hz0 hz1 hz2 rfl _ _ _ rfl HO2.out _ EX.length (bs EX) rfl (src_rd Try.underlying28 hz1 HR2.out HA2.out c2) ?c1 ?c2 ?c3 ?_)
      case c1 => have := HB.out; unfold maxLen; omega
      case c2 => have := HB.out; omega
      case c3 => exact hb2'.size
      intro v3 w3 hown3 hg3 hat3
      have HO3 := Lib.hid hown3
      have hb3 : Below w.heap.size w w3 := below_own hb2' hg3 (fun g hg => (HO2.out.lt g hg).1)
      clear hown3 hg3 hat3
      go_wp2_with fail
      go_roundg g
      case measure => omega
      case rel =>
        refine ⟨j + 1, M ++ EX, by omega, by go_num, ?_, ?_, hb3⟩
        · show _ = _
          rw [take_snoc HXL.out, List.flatMap_append, HM.out, HEX.out]
          simp
        · rw [bs_append, List.length_append]
          exact HO3.out

set_option maxHeartbeats 400000 in
theorem rdigests_any (l : List (List UInt8)) (A : Option Addr) (c : Nat) (w : World) (hl : l.length ≤ 1099511627776) (hi : ∀ d ∈ l, d.length = 16) (hr : Rd w A (bs l.flatten)) :
    Calls Try.prog 23 #[.slice A l.length c] w fun e w' => ∃ v', e = .returned v' ∧ w'.ownsRow w.heap.size 5 1 v' (eD l).length (bs (eD l)) ∧ Below w.heap.size w w' := by
  obtain ⟨i0, hi0, hz0, hz1, hz2⟩ := info_parts Try.info5
  have HI := Lib.hid hi; clear hi
  have HR := Lib.hid hr; clear hr
  go_enter Try.func23, Try.ntmps23
  go_wp2_with fail
  refine (rint_any l.length (inI_nat _ (by omega)) w).mono ?_
  rintro e w1 ⟨v1, rfl, hown, hb⟩
  have HO := Lib.hid hown; clear hown
  go_wp2_with fail
  go_loopg [3, 4] l.length (fun g v i wr => ∃ (j : Nat) (M : List UInt8), j + g = l.length ∧ i = .int .i64 j ∧ Hid (M = en l.length ++ (l.take j).flatten) ∧ wr.ownsRow w.heap.size 5 1 v M.length (bs M) ∧ Below w.heap.size w wr)
  case atStart => exact ⟨0, _, by omega, rfl, by simp [Hid], HO.out, hb⟩
  case round =>
    obtain ⟨j, M, hj, rfl, HM, hown, hbw⟩ := hrel
    obtain ⟨wo, rfl⟩ : ∃ wo : World, wo = wr := ⟨_, rfl⟩
    have HO := Lib.hid hown; clear hown
    cases gk with
    | zero =>
      have hj' : ¬ (j < l.length) := by omega
      go_wp2_with fail
      go_ret
      refine ⟨_, rfl, ?_, hbw⟩
      have e : M = eD l := by rw [HM.out, List.take_of_length_le (by omega)]; rfl
      rw [← e]
      exact HO.out
    | succ g =>
      have hlt : j < l.length := by omega
      obtain ⟨x, hx⟩ : ∃ x, l[j]? = some x := ⟨_, List.getElem?_eq_getElem hlt⟩
      have h16 : x.length = 16 := HI.out x (List.mem_of_getElem? hx)
      have hpos : ∀ i c, x[i]? = some c → l.flatten[j * 16 + i]? = some c := fun i c hi => flat16 l HI.out j x hx i c hi
      obtain ⟨b, o, rfl, hc⟩ := HR.out.open (by
        intro e
        have h1 := hpos 0 x[0] (by simp)
        have h2 : l.flatten = [] := by simpa [bs] using e
        rw [h2] at h1
        simp at h1)
      have hcell : ∀ i c, x[i]? = some c → w.cell? ⟨b, o + j * 16 + i, none⟩ = some (by8 c) := fun i c hi => by
        have h0 := hc (j * 16 + i) (by8 c) (by unfold bs; rw [List.getElem?_map, hpos i c hi]; rfl)
        rw [← Nat.add_assoc] at h0
        exact h0
      have hft : (l.take j).flatten.length ≤ 16 * j := flat16_len l HI.out j
      have h9 := en_len9 l.length
      have hbd : M.length + 16 ≤ 20000000000000 := by rw [HM.out, List.length_append]; omega
      have HC := Lib.hid hcell
      have H16 := Lib.hid h16
      have HX := Lib.hid hx
      have HB := Lib.hid hbd
      clear hc hcell h16 hx hpos hft h9 hbd
      go_wp2_with fail
      go_loopg [3, 5] 16 (fun g2 v i wr => ∃ q : Nat, q + g2 = 16 ∧ i = .int .i64 q ∧ wr.ownsRow w.heap.size 5 1 v (M.length + q) (bs (M ++ x.take q)) ∧ Below w.heap.size w wr)
      case atStart => exact ⟨0, by omega, rfl, by simpa using HO.out, hbw⟩
      case round =>
        obtain ⟨q, hq, rfl, hown, hbi⟩ := hrel
        obtain ⟨A0, c0, rfl, hrd0, hc0, hm0⟩ := Rd.of_own hown
        have HOi := Lib.hid hown; clear hown hrd0
        cases gk with
        | zero =>
          obtain rfl : q = 16 := by omega
          go_wp2_with fail
          go_roundg g
          case measure => omega
          case rel =>
            refine ⟨j + 1, M ++ x, by omega, by go_num, ?_, ?_, hbi⟩
            · show _ = _
              rw [take_snoc HX.out, List.flatten_append, HM.out]
              simp
            · have h := HOi.out
              rw [List.take_of_length_le (by rw [H16.out]; omega)] at h
              rw [List.length_append, H16.out]
              exact h
        | succ g2 =>
          have hq16 : q < 16 := by omega
          obtain ⟨y, hy⟩ : ∃ y, x[q]? = some y := ⟨_, List.getElem?_eq_getElem (by rw [H16.out]; omega)⟩
          have h0 := HC.out q y hy
          have hcell : wr.cell? ⟨b, o + j * 16 + q, none⟩ = some (.int .u8 y.toNat) := (hbi.cell (p := ⟨b, o + j * 16 + q, none⟩) (World.block_lt_of_cell? w _ h0)).trans h0
          have HY := Lib.hid hy
          obtain ⟨RR, hRR⟩ : ∃ RR, RR = bs (M ++ x.take q) := ⟨_, rfl⟩
          rw [← hRR] at HOi
          have HRR := Lib.hid hRR
          have hy255 : y.toNat ≤ 255 := by have := y.toNat_lt; omega
          clear h0 hy hRR
          go_wp2_with (at_builtin; refine wpList_own_src rfl (.tmp 19) (.tmp 26) 28 28 rfl w.heap.size 5 i0 _ 1 1 Try.underlying28 hi0 hz0 hz1 hz2 rfl _ _ _ rfl (HOi.out.alloc _) _ 1 [.int .u8 y.toNat] rfl (src_one Try.underlying28 hz1 _ _ _ rfl) ?c1 ?c2 ?c3 ?_)
          case c1 => have := HB.out; unfold maxLen; omega
          case c2 => have := HB.out; omega
          case c3 => simp; exact Nat.le_succ_of_le hbi.size
          intro v3 w3 hown3 hg3 hat3
          have hb3 : Below w.heap.size w w3 := (hbi.alloc hbi.size _).grown hg3 (by simp; exact Nat.le_succ_of_le hbi.size) (fun g hg => (HOi.out.lt g hg).1)
          have HO3 := Lib.hid hown3
          clear hown3 hg3 hat3
          go_wp2_with fail
          go_roundg g2
          case measure => omega
          case rel =>
            refine ⟨q + 1, by omega, by go_num, ?_, hb3⟩
            have e : bs (M ++ x.take (q + 1)) = RR ++ [.int .u8 y.toNat] := by
              rw [take_snoc HY.out, ← List.append_assoc, bs_append, HRR.out]; rfl
            rw [e, ← Nat.add_assoc]
            exact HO3.out

end Go.Proofs.Ytelkekicceoaoaa
