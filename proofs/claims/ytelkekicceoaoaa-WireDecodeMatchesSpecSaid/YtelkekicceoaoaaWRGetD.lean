/-
  The walk of the reference's GetDigests: the same answer as wire's.
-/
import Derived.Test.YtelkekicceoaoaaWRList
namespace Go.Proofs.Ytelkekicceoaoaa
open Go.RowKit
set_option linter.unusedVariables false

/-- the array after q bytes -/
def AR (x : List UInt8) (q : Nat) : Array Value := (bs (x.take q) ++ List.replicate (16 - q) (Value.int .u8 0)).toArray
theorem ar_size (x : List UInt8) (hx : x.length = 16) (q : Nat) (hq : q ≤ 16) : (AR x q).size = 16 := by
  unfold AR
  simp [bs_length]; omega
theorem ar_set (x : List UInt8) (hx : x.length = 16) (q : Nat) (hq : q < 16) (y : UInt8) (hy : x[q]? = some y) : (AR x q).setIfInBounds q (.int .u8 y.toNat) = AR x (q + 1) := by
  unfold AR
  rw [List.setIfInBounds_toArray]
  congr 1
  have hl : (bs (x.take q)).length = q := by rw [bs_length, List.length_take]; omega
  rw [List.set_append_right _ _ (by omega), hl, Nat.sub_self, take_snoc hy, bs_append, show 16 - q = (16 - (q + 1)) + 1 from by omega, List.replicate_succ, List.set_cons_zero, List.append_assoc]
  rfl
theorem ar_zero (x : List UInt8) : AR x 0 = #[.int .u8 0, .int .u8 0, .int .u8 0, .int .u8 0, .int .u8 0, .int .u8 0, .int .u8 0, .int .u8 0, .int .u8 0, .int .u8 0, .int .u8 0, .int .u8 0, .int .u8 0, .int .u8 0, .int .u8 0, .int .u8 0] := by
  unfold AR
  rfl
theorem ar_full (x : List UInt8) (hx : x.length = 16) : AR x 16 = (bs x).toArray := by
  unfold AR
  rw [List.take_of_length_le (by omega)]; simp

set_option maxRecDepth 100000 in
set_option maxHeartbeats 800000 in
theorem rgetD_any (l : List UInt8) (A : Option Addr) (c : Nat) (w : World) (hl : l.length ≤ 1099511627776) (hc : l.length ≤ c) (hm : c ≤ maxLen) (hr : Rd w A (bs l)) :
    Calls Try.prog 35 #[.slice A l.length c] w (PostR w 57 16 (gList elD l 16) (sList stD elD l 16 [])) := by
  obtain ⟨i0, hi0, hz0, hz1, hz2⟩ := info_parts Try.infoD3
  have hlen : c ≤ 9223372036854775807 := by unfold maxLen at hm; omega
  have HM := Lib.hid hm; clear hm
  have HR := Lib.hid hr; clear hr
  have hG : ∀ h : (gLen l 16).2.2 = 0, 0 ≤ (gLen l 16).1 ∧ (gLen l 16).1 * 16 ≤ (l.length : Int) - (gLen l 16).2.1 ∧ 1 ≤ (gLen l 16).2.1 ∧ (gLen l 16).2.1 ≤ l.length := fun h => by
    obtain ⟨h1, h2, h3, h4⟩ := gLen_ok h (by omega)
    have h5 := gI_ok h1
    rw [h4]
    exact ⟨h2, h3, h5.2.2.1, h5.2.1⟩
  have hL : gList elD l 16 = if (gLen l 16).2.2 ≠ 0 then (0, (gLen l 16).2.2) else gLoop elD l (gLen l 16).1.toNat (gLen l 16).2.1 := rfl
  have hS : sList stD elD l 16 [] = sLoop stD elD l (gLen l 16).1.toNat (gLen l 16).2.1 [] := rfl
  generalize gList elD l 16 = R at hL ⊢
  generalize sList stD elD l 16 [] = fin at hS ⊢
  have HL := Lib.hid hL; clear hL
  have HS := Lib.hid hS; clear hS
  go_enter Try.func35, Try.ntmps35
  go_wp2_with fail
  refine (rcount_any l A c 16 w (by omega) (by omega) hl hc HM.out HR.out).mono ?_
  rintro e w1 ⟨rfl, hb1⟩
  unfold ret3
  generalize gLen l 16 = r at hG HL HS ⊢
  obtain ⟨n, u, er⟩ := r
  by_cases he : er = 0
  case neg =>
    have h0 : ((er : Int) != 0) = true := by rw [bne_iff_ne]; exact he
    have HF : Hid (R = (0, er)) := by show _ = _; rw [HL.out, if_pos he]
    clear hG HL HS
    have HE := Lib.hid he; clear he
    go_wp2_with fail
    go_ret3
    exact ⟨_, by rw [HF.out]; rfl, hb1, fun _ => rfl, fun h => absurd (by rw [HF.out] at h; exact h) HE.out⟩
  subst he
  obtain ⟨hn, hnw, hu1, hu⟩ := hG rfl
  clear hG
  simp only at hn hnw hu1 hu
  obtain ⟨N, rfl⟩ := Int.eq_ofNat_of_zero_le hn
  have hNl : u + 16 * N ≤ l.length := by omega
  have HF : Hid (R = gLoop elD l N u ∧ fin = sLoop stD elD l N u []) := ⟨by rw [HL.out, if_neg (by simp)]; rfl, by rw [HS.out]; rfl⟩
  obtain ⟨b, o, rfl, hcell⟩ := HR.out.open (by intro e; have := congrArg List.length e; rw [bs_length, List.length_nil] at this; omega)
  have HC := Lib.hid hcell; clear hcell
  clear hnw HL HS
  go_wp2_with fail
  go_loopg [6, 8, 9] N (fun g s6 s8 s9 wr => ∃ (j v : Nat) (s : List (List Value)), j + g = N ∧ s9 = .int .i64 j ∧ s6 = .int .i64 v ∧ v + 16 * g ≤ l.length ∧ Hid (wr.ownsRow w.heap.size 57 16 s8 s.length s.flatten ∧ s.length = j ∧ R = gLoop elD l g v ∧ fin = sLoop stD elD l g v s) ∧ Below w.heap.size w wr)
  case atStart => exact ⟨0, u, [], by omega, rfl, rfl, hNl, ⟨World.ownsRow_nil _ _ _ _, rfl, HF.out.1, HF.out.2⟩, hb1⟩
  case round =>
    obtain ⟨j, v, s, hj, rfl, rfl, hv, H, hbr⟩ := hrel
    obtain ⟨A0, c0, hform, hrd0, hc0, hm0⟩ := Rd.of_own H.out.1
    subst hform
    clear hrd0
    obtain ⟨wo, rfl⟩ : ∃ wo : World, wo = wr := ⟨_, rfl⟩
    cases gk with
    | zero =>
      have hlt : ¬ (j < N) := by omega
      go_wp2_with fail
      go_ret3
      refine ⟨_, by rw [H.out.2.2.1]; rfl, hbr, fun h => absurd (by rw [H.out.2.2.1]; rfl) h, fun _ => ?_⟩
      have e : fin = s := H.out.2.2.2
      rw [e]
      exact H.out.1
    | succ g =>
      have hlt : j < N := by omega
      obtain ⟨x, hx⟩ : ∃ x, x = (l.drop v).take 16 := ⟨_, rfl⟩
      have hx16 : x.length = 16 := by rw [hx]; simp; omega
      have hcell : ∀ q, q < 16 → ∃ y, x[q]? = some y ∧ wo.cell? ⟨b, o + (v + q), none⟩ = some (.int .u8 y.toNat) := fun q hq => by
        have h1 : v + q < l.length := by omega
        have h2 := HC.out (v + q) _ (bs_get h1)
        refine ⟨l[v + q], by rw [hx, List.getElem?_take, if_pos hq, List.getElem?_drop, List.getElem?_eq_getElem h1], ?_⟩
        exact (hbr.cell (p := ⟨b, o + (v + q), none⟩) (World.block_lt_of_cell? w _ h2)).trans h2
      have HX := Lib.hid hx; clear hx
      have H16 := Lib.hid hx16; clear hx16
      have HCX := Lib.hid hcell; clear hcell
      go_wp2_with fail
      go_loopg [11] 16 (fun g2 i wi => ∃ q : Nat, q + g2 = 16 ∧ i = .int .i64 q ∧ Hid (wi.heap[wo.heap.size]? = some (.cells (AR x q) 57 (0, 0))) ∧ Below wo.heap.size wo wi)
      case atStart => exact ⟨0, by omega, rfl, by show _ = _; rw [ar_zero]; exact heap_alloc_new wo _, (Below.refl _ _).alloc (Nat.le_refl _) _⟩
      case round =>
        obtain ⟨q, hq, rfl, HH, hbi⟩ := hrel
        have hcellq : q < 16 → ∃ y, x[q]? = some y ∧ wr.cell? ⟨b, o + (v + q), none⟩ = some (.int .u8 y.toNat) := fun hq => by
          obtain ⟨y, h1, h2⟩ := HCX.out q hq
          exact ⟨y, h1, (hbi.cell (p := ⟨b, o + (v + q), none⟩) (World.block_lt_of_cell? wo _ h2)).trans h2⟩
        cases gk with
        | succ g2 =>
          obtain ⟨y, hy, hcy⟩ := hcellq (by omega)
          have hold : wr.cell? ⟨wo.heap.size, q, none⟩ = (AR x q)[q]? := by rw [cell_of_row wr wo.heap.size q _ _ _ HH.out]
          rw [Array.getElem?_eq_getElem (by rw [ar_size x H16.out q (by omega)]; omega)] at hold
          have hfz : wr.frozen? ⟨wo.heap.size, q, none⟩ = false := by simp [World.frozen?, HH.out]
          have HY := Lib.hid hy; clear hy
          generalize (AR x q)[q]'_ = old at hold
          have hlt16 : q < 16 := by omega
          have hvq : v + q < l.length := by omega
          go_wp2_with fail
          go_roundg g2
          case measure => omega
          case rel =>
            refine ⟨q + 1, by omega, by go_num, ?_, hbi.setCell (Nat.le_refl _) _⟩
            show _ = _
            rw [heap_setCell_same wr wo.heap.size q _ _ _ HH.out, ar_set x H16.out q hlt16 y HY.out]
        | zero =>
          obtain rfl : q = 16 := by omega
          clear hcellq
          have hrow : wr.heap[wo.heap.size]? = some (.cells (bs x).toArray 57 (0, 0)) := by rw [← ar_full x H16.out]; exact HH.out
          have hX : (bs x).length = 16 := by rw [bs_length, H16.out]
          have hown2 := own_keep H.out.1 hbi
          have hbw2 := below_next hbr hbi
          have hsj : s.length = j := H.out.2.1
          have hg1 : Hid (R = gLoop elD l g (v + 16)) := by show _ = _; rw [H.out.2.2.1, gLoop]; rfl
          have hg2 : Hid (fin = sLoop stD elD l g (v + 16) (s ++ [bs x])) := by show _ = _; rw [H.out.2.2.2, sLoop, HX.out]; rfl
          have hone := bs_one x
          generalize bs x = X at hrow hX hg2 hone
          have HO2 := Lib.hid hown2; clear hown2
          have HSJ := Lib.hid hsj; clear hsj
          have hsrcd : ∀ C : Array Value, C = X.toArray → Src Try.prog i0.size 24 (.slice (some ⟨wr.heap.size, 0, none⟩) 1 1) 1 X (wr.alloc (.cells C 57)) := fun C hC => by
            subst hC
            exact Src.ofSlice _ Try.underlying24 _ _ _ _ (by rw [hX, hz1]) (World.news_of_block (heap_alloc_new wr _)) hone
          obtain ⟨x0, x1, x2, x3, x4, x5, x6, x7, x8, x9, x10, x11, x12, x13, x14, x15, rfl⟩ := list16 X hX
          have hc0 : wr.cell? ⟨wo.heap.size, 0, none⟩ = some x0 := by rw [cell_of_row wr wo.heap.size 0 _ _ _ hrow]; rfl
          have hc1 : wr.cell? ⟨wo.heap.size, 1, none⟩ = some x1 := by rw [cell_of_row wr wo.heap.size 1 _ _ _ hrow]; rfl
          have hc2 : wr.cell? ⟨wo.heap.size, 2, none⟩ = some x2 := by rw [cell_of_row wr wo.heap.size 2 _ _ _ hrow]; rfl
          have hc3 : wr.cell? ⟨wo.heap.size, 3, none⟩ = some x3 := by rw [cell_of_row wr wo.heap.size 3 _ _ _ hrow]; rfl
          have hc4 : wr.cell? ⟨wo.heap.size, 4, none⟩ = some x4 := by rw [cell_of_row wr wo.heap.size 4 _ _ _ hrow]; rfl
          have hc5 : wr.cell? ⟨wo.heap.size, 5, none⟩ = some x5 := by rw [cell_of_row wr wo.heap.size 5 _ _ _ hrow]; rfl
          have hc6 : wr.cell? ⟨wo.heap.size, 6, none⟩ = some x6 := by rw [cell_of_row wr wo.heap.size 6 _ _ _ hrow]; rfl
          have hc7 : wr.cell? ⟨wo.heap.size, 7, none⟩ = some x7 := by rw [cell_of_row wr wo.heap.size 7 _ _ _ hrow]; rfl
          have hc8 : wr.cell? ⟨wo.heap.size, 8, none⟩ = some x8 := by rw [cell_of_row wr wo.heap.size 8 _ _ _ hrow]; rfl
          have hc9 : wr.cell? ⟨wo.heap.size, 9, none⟩ = some x9 := by rw [cell_of_row wr wo.heap.size 9 _ _ _ hrow]; rfl
          have hc10 : wr.cell? ⟨wo.heap.size, 10, none⟩ = some x10 := by rw [cell_of_row wr wo.heap.size 10 _ _ _ hrow]; rfl
          have hc11 : wr.cell? ⟨wo.heap.size, 11, none⟩ = some x11 := by rw [cell_of_row wr wo.heap.size 11 _ _ _ hrow]; rfl
          have hc12 : wr.cell? ⟨wo.heap.size, 12, none⟩ = some x12 := by rw [cell_of_row wr wo.heap.size 12 _ _ _ hrow]; rfl
          have hc13 : wr.cell? ⟨wo.heap.size, 13, none⟩ = some x13 := by rw [cell_of_row wr wo.heap.size 13 _ _ _ hrow]; rfl
          have hc14 : wr.cell? ⟨wo.heap.size, 14, none⟩ = some x14 := by rw [cell_of_row wr wo.heap.size 14 _ _ _ hrow]; rfl
          have hc15 : wr.cell? ⟨wo.heap.size, 15, none⟩ = some x15 := by rw [cell_of_row wr wo.heap.size 15 _ _ _ hrow]; rfl
          clear hrow
          go_wp2_with (at_builtin; refine wpList_own_src rfl (.tmp 38) (.tmp 40) 24 24 rfl w.heap.size 57 i0 _ 16 16 Try.underlying24 hi0 hz0 hz1 hz2 rfl _ _ _ rfl (HO2.out.alloc _) _ 1 [x0, x1, x2, x3, x4, x5, x6, x7, x8, x9, x10, x11, x12, x13, x14, x15] rfl (hsrcd _ rfl) ?c1 ?c2 ?c3 ?_)
          case c1 => have := HSJ.out; unfold maxLen; omega
          case c2 => have := HSJ.out; omega
          case c3 => first | exact hbw2.size | exact Nat.le_succ_of_le hbw2.size | (trace_state; fail)
          intro v1 w3 hown3 hg3 hat3
          have hb3 : Below w.heap.size w w3 := (hbw2.alloc hbw2.size _).grown hg3 (by simp; exact Nat.le_succ_of_le hbw2.size) (fun g hg => (HO2.out.lt g hg).1)
          have HO3 := Lib.hid hown3
          clear hown3 hg3 hat3
          go_wp2_with fail
          go_roundg g
          case measure => omega
          case rel =>
            refine ⟨j + 1, v + 16, s ++ [[x0, x1, x2, x3, x4, x5, x6, x7, x8, x9, x10, x11, x12, x13, x14, x15]], by omega, by go_num, by go_num, by omega, ⟨?_, by simp [HSJ.out], hg1.out, hg2.out⟩, hb3⟩
            have := HO3.out
            simpa using this

end Go.Proofs.Ytelkekicceoaoaa
