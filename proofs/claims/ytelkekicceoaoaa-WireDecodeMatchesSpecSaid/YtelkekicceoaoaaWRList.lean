/-
  The walks of the reference's GetInts and GetStrings: the same answers as wire's.
-/
import Derived.Test.YtelkekicceoaoaaWRDec
import Derived.Test.YtelkekicceoaoaaWGetX
namespace Go.Proofs.Ytelkekicceoaoaa
open Go.RowKit
set_option linter.unusedVariables false

/-- What a decoder of lists leaves: the list in new memory, or nil. -/
def PostR (w : World) (t : TypeId) (size : Nat) (res : Nat × Int) (cells : List (List Value)) (e : Ending) (w' : World) : Prop :=
  ∃ v, e = .returned (.tuple #[v, .int .i64 res.1, .int .i64 res.2]) ∧ Below w.heap.size w w' ∧ (res.2 ≠ 0 → v = .slice none 0 0) ∧ (res.2 = 0 → w'.ownsRow w.heap.size t size v cells.length cells.flatten)

theorem rd_dropv {w : World} {b o : Nat} {l : List UInt8} (h : Rd w (some ⟨b, o, none⟩) (bs l)) (v c : Nat) (hc : c = v → l.length ≤ v) : Rd w (if c = v then (some ⟨b, o, none⟩ : Option Addr) else some ⟨b, o + v, none⟩) (bs (l.drop v)) := by
  rcases h with hx | ⟨b', o', hb', hx⟩
  · exact .inl (by rw [← bs_drop, hx]; simp)
  · obtain ⟨rfl, rfl⟩ : b = b' ∧ o = o' := by simpa using hb'
    split
    · rename_i hcv'
      refine .inl ?_
      rw [List.drop_of_length_le (hc hcv')]; rfl
    · have := Rd.drop b o hx v
      rw [bs_drop] at this
      exact this

set_option maxHeartbeats 800000 in
theorem rgetI_any (l : List UInt8) (A : Option Addr) (c : Nat) (w : World) (hl : l.length ≤ 1099511627776) (hc : l.length ≤ c) (hm : c ≤ maxLen) (hr : Rd w A (bs l)) :
    Calls Try.prog 29 #[.slice A l.length c] w (PostR w 3 1 (gList elI l 1) (sList stI elI l 1 [])) := by
  obtain ⟨i0, hi0, hz0, hz1, hz2⟩ := info_parts Try.info3
  have hlen : c ≤ 9223372036854775807 := by unfold maxLen at hm; omega
  have HM := Lib.hid hm; clear hm
  have HR := Lib.hid hr; clear hr
  have hG : ∀ h : (gLen l 1).2.2 = 0, 0 ≤ (gLen l 1).1 ∧ (gLen l 1).1 * 1 ≤ (l.length : Int) - (gLen l 1).2.1 ∧ 1 ≤ (gLen l 1).2.1 ∧ (gLen l 1).2.1 ≤ l.length := fun h => by
    obtain ⟨h1, h2, h3, h4⟩ := gLen_ok h (by omega)
    have h5 := gI_ok h1
    rw [h4]
    exact ⟨h2, h3, h5.2.2.1, h5.2.1⟩
  have hL : gList elI l 1 = if (gLen l 1).2.2 ≠ 0 then (0, (gLen l 1).2.2) else gLoop elI l (gLen l 1).1.toNat (gLen l 1).2.1 := rfl
  have hS : sList stI elI l 1 [] = sLoop stI elI l (gLen l 1).1.toNat (gLen l 1).2.1 [] := rfl
  generalize gList elI l 1 = R at hL ⊢
  generalize sList stI elI l 1 [] = fin at hS ⊢
  have HL := Lib.hid hL; clear hL
  have HS := Lib.hid hS; clear hS
  go_enter Try.func29, Try.ntmps29
  go_wp2_with fail
  refine (rcount_any l A c 1 w (by omega) (by omega) hl hc HM.out HR.out).mono ?_
  rintro e w1 ⟨rfl, hb1⟩
  unfold ret3
  generalize gLen l 1 = r at hG HL HS ⊢
  obtain ⟨n, u, er⟩ := r
  by_cases he : er = 0
  case neg =>
    have h0 : ((er : Int) != 0) = true := by rw [bne_iff_ne]; exact he
    have HF : Hid (R = (0, er)) := by show _ = _; rw [HL.out, if_pos he]
    clear hG HL HS
    have HE := Lib.hid he; clear he
    go_wp2_with fail
    go_ret3
    exact ⟨_, by rw [HF.out]; rfl, hb1, fun _ => rfl, fun h => absurd (by rw [HF.out] at h; exact h) HE.out⟩
  subst he
  obtain ⟨hn, hnw, hu1, hu⟩ := hG rfl
  clear hG
  simp only at hn hnw hu1 hu
  obtain ⟨N, rfl⟩ := Int.eq_ofNat_of_zero_le hn
  have hNl : N ≤ l.length := by omega
  have HF : Hid (R = gLoop elI l N u ∧ fin = sLoop stI elI l N u []) := ⟨by rw [HL.out, if_neg (by simp)]; rfl, by rw [HS.out]; rfl⟩
  obtain ⟨b, o, rfl, _⟩ := HR.out.open (by intro e; have := congrArg List.length e; rw [bs_length, List.length_nil] at this; omega)
  clear hnw HL HS
  go_wp2_with fail
  go_loopg [6, 8, 9] N (fun g s6 s8 s9 wr => ∃ (j v : Nat) (s : List (List Value)), j + g = N ∧ s9 = .int .i64 j ∧ s6 = .int .i64 v ∧ v ≤ l.length ∧ Hid (wr.ownsRow w.heap.size 3 1 s8 s.length s.flatten ∧ s.length = j ∧ R = gLoop elI l g v ∧ fin = sLoop stI elI l g v s) ∧ Below w.heap.size w wr)
  case atStart => exact ⟨0, u, [], by omega, rfl, rfl, hu, ⟨World.ownsRow_nil _ _ _ _, rfl, HF.out.1, HF.out.2⟩, hb1⟩
  case round =>
    obtain ⟨j, v, s, hj, rfl, rfl, hv, H, hbr⟩ := hrel
    obtain ⟨A0, c0, hform, hrd0, hc0, hm0⟩ := Rd.of_own H.out.1
    subst hform
    clear hrd0
    cases gk with
    | zero =>
      have hlt : ¬ (j < N) := by omega
      go_wp2_with fail
      go_ret3
      refine ⟨_, by rw [H.out.2.2.1]; rfl, hbr, fun h => absurd (by rw [H.out.2.2.1]; rfl) h, fun _ => ?_⟩
      have e : fin = s := H.out.2.2.2
      rw [e]
      exact H.out.1
    | succ g =>
      have hlt : j < N := by omega
      have hdl : (l.drop v).length = l.length - v := by simp
      have HDL := Lib.hid hdl; clear hdl
      have hcv : v ≤ c := by omega
      have HLE : Hid ((gI (l.drop v)).2.2 = 0 → (gI (l.drop v)).2.1 ≤ l.length - v) := fun h => by have := (gI_ok h).2.1; rw [HDL.out] at this; exact this
      obtain ⟨A', hA', hrdA⟩ : ∃ A', (if c = v then (some ⟨b, o, none⟩ : Option Addr) else some ⟨b, o + v, none⟩) = A' ∧ Rd wr A' (bs (l.drop v)) := ⟨_, rfl, rd_dropv (HR.out.below hbr) v c (by omega)⟩
      have HA := Lib.hid hrdA; clear hrdA
      by_cases hcu : c = v
      · rw [if_pos hcu] at hA'
        subst hA'
        obtain rfl : c = v := hcu
        have hcall := rgetInt_any (l.drop c) (some ⟨b, o, none⟩) 0 wr (by rw [HDL.out]; omega) (Nat.zero_le _) HA.out
        rw [HDL.out, show l.length - c = 0 from by omega] at hcall
        have HCALL := Lib.hid hcall; clear hcall
        go_wp2_with fail
        refine HCALL.out.mono ?_
        rintro e w2 ⟨rfl, hb2⟩
        unfold ret3
        generalize hx : gI (l.drop c) = x at HLE
        obtain ⟨n, sz, ee⟩ := x
        have HX := Lib.hid hx; clear hx
        by_cases hee : ee = 0
        · subst hee
          have hsz := HLE.out rfl
          simp only at hsz
          have hown2 := own_keep H.out.1 hb2
          have HO2 := Lib.hid hown2; clear hown2
          have hbw2 := below_next hbr hb2
          have hsj : s.length = j := H.out.2.1
          have hg1 : Hid (R = gLoop elI l g (c + sz)) := by show _ = _; rw [H.out.2.2.1, gLoop]; unfold elI; rw [HX.out, if_neg (by simp)]
          have hg2 : Hid (fin = sLoop stI elI l g (c + sz) (s ++ [[.int .i64 n]])) := by show _ = _; rw [H.out.2.2.2, sLoop]; unfold elI stI; rw [HX.out]
          have HSJ := Lib.hid hsj; clear hsj
          go_wp2_with (at_builtin; refine wpList_own_src rfl (.tmp 38) (.tmp 40) 22 22 rfl w.heap.size 3 i0 _ 1 8 Try.underlying22 hi0 hz0 hz1 hz2 rfl _ _ _ rfl (HO2.out.alloc _) _ 1 [.int .i64 n] rfl (src_one Try.underlying22 hz1 _ _ _ rfl) ?c1 ?c2 ?c3 ?_)
          case c1 => have := HSJ.out; unfold maxLen; omega
          case c2 => have := HSJ.out; omega
          case c3 => simp; exact Nat.le_succ_of_le hbw2.size
          intro v1 w3 hown3 hg3 hat3
          have hb3 : Below w.heap.size w w3 := (hbw2.alloc hbw2.size _).grown hg3 (by simp; exact Nat.le_succ_of_le hbw2.size) (fun g hg => (HO2.out.lt g hg).1)
          have HO3 := Lib.hid hown3
          clear hown3 hg3 hat3
          go_wp2_with fail
          go_roundg g
          case measure => omega
          case rel =>
            refine ⟨j + 1, c + sz, s ++ [[.int .i64 n]], by omega, by go_num, by go_num, by omega, ⟨?_, by simp [HSJ.out], hg1.out, hg2.out⟩, hb3⟩
            have := HO3.out
            simpa using this
        · have h0 : ((ee : Int) != 0) = true := by rw [bne_iff_ne]; exact hee
          have HEE := Lib.hid hee; clear hee
          have HF2 : Hid (R = (0, ee)) := by show _ = _; rw [H.out.2.2.1, gLoop]; unfold elI; rw [HX.out, if_pos HEE.out]
          have hbw2 := below_next hbr hb2
          go_wp2_with fail
          go_ret3
          exact ⟨_, by rw [HF2.out]; rfl, hbw2, fun _ => rfl, fun h => absurd (by rw [HF2.out] at h; exact h) HEE.out⟩
      · rw [if_neg hcu] at hA'
        subst hA'
        have hcall := rgetInt_any (l.drop v) (some ⟨b, o + v, none⟩) (c - v) wr (by rw [HDL.out]; omega) (by have := HM.out; omega) HA.out
        rw [HDL.out] at hcall
        have HCALL := Lib.hid hcall; clear hcall
        go_wp2_with fail
        refine HCALL.out.mono ?_
        rintro e w2 ⟨rfl, hb2⟩
        unfold ret3
        generalize hx : gI (l.drop v) = x at HLE
        obtain ⟨n, sz, ee⟩ := x
        have HX := Lib.hid hx; clear hx
        by_cases hee : ee = 0
        · subst hee
          have hsz := HLE.out rfl
          simp only at hsz
          have hown2 := own_keep H.out.1 hb2
          have HO2 := Lib.hid hown2; clear hown2
          have hbw2 := below_next hbr hb2
          have hsj : s.length = j := H.out.2.1
          have hg1 : Hid (R = gLoop elI l g (v + sz)) := by show _ = _; rw [H.out.2.2.1, gLoop]; unfold elI; rw [HX.out, if_neg (by simp)]
          have hg2 : Hid (fin = sLoop stI elI l g (v + sz) (s ++ [[.int .i64 n]])) := by show _ = _; rw [H.out.2.2.2, sLoop]; unfold elI stI; rw [HX.out]
          have HSJ := Lib.hid hsj; clear hsj
          go_wp2_with (at_builtin; refine wpList_own_src rfl (.tmp 38) (.tmp 40) 22 22 rfl w.heap.size 3 i0 _ 1 8 Try.underlying22 hi0 hz0 hz1 hz2 rfl _ _ _ rfl (HO2.out.alloc _) _ 1 [.int .i64 n] rfl (src_one Try.underlying22 hz1 _ _ _ rfl) ?c1 ?c2 ?c3 ?_)
          case c1 => have := HSJ.out; unfold maxLen; omega
          case c2 => have := HSJ.out; omega
          case c3 => simp; exact Nat.le_succ_of_le hbw2.size
          intro v1 w3 hown3 hg3 hat3
          have hb3 : Below w.heap.size w w3 := (hbw2.alloc hbw2.size _).grown hg3 (by simp; exact Nat.le_succ_of_le hbw2.size) (fun g hg => (HO2.out.lt g hg).1)
          have HO3 := Lib.hid hown3
          clear hown3 hg3 hat3
          go_wp2_with fail
          go_roundg g
          case measure => omega
          case rel =>
            refine ⟨j + 1, v + sz, s ++ [[.int .i64 n]], by omega, by go_num, by go_num, by omega, ⟨?_, by simp [HSJ.out], hg1.out, hg2.out⟩, hb3⟩
            have := HO3.out
            simpa using this
        · have h0 : ((ee : Int) != 0) = true := by rw [bne_iff_ne]; exact hee
          have HEE := Lib.hid hee; clear hee
          have HF2 : Hid (R = (0, ee)) := by show _ = _; rw [H.out.2.2.1, gLoop]; unfold elI; rw [HX.out, if_pos HEE.out]
          have hbw2 := below_next hbr hb2
          go_wp2_with fail
          go_ret3
          exact ⟨_, by rw [HF2.out]; rfl, hbw2, fun _ => rfl, fun h => absurd (by rw [HF2.out] at h; exact h) HEE.out⟩

set_option maxHeartbeats 800000 in
theorem rgetS_any (l : List UInt8) (A : Option Addr) (c : Nat) (w : World) (hl : l.length ≤ 1099511627776) (hc : l.length ≤ c) (hm : c ≤ maxLen) (hr : Rd w A (bs l)) :
    Calls Try.prog 32 #[.slice A l.length c] w (PostR w 9 1 (gList elS l 1) (sList stS elS l 1 [])) := by
  obtain ⟨i0, hi0, hz0, hz1, hz2⟩ := info_parts Try.info9
  have hlen : c ≤ 9223372036854775807 := by unfold maxLen at hm; omega
  have HM := Lib.hid hm; clear hm
  have HR := Lib.hid hr; clear hr
  have hG : ∀ h : (gLen l 1).2.2 = 0, 0 ≤ (gLen l 1).1 ∧ (gLen l 1).1 * 1 ≤ (l.length : Int) - (gLen l 1).2.1 ∧ 1 ≤ (gLen l 1).2.1 ∧ (gLen l 1).2.1 ≤ l.length := fun h => by
    obtain ⟨h1, h2, h3, h4⟩ := gLen_ok h (by omega)
    have h5 := gI_ok h1
    rw [h4]
    exact ⟨h2, h3, h5.2.2.1, h5.2.1⟩
  have hL : gList elS l 1 = if (gLen l 1).2.2 ≠ 0 then (0, (gLen l 1).2.2) else gLoop elS l (gLen l 1).1.toNat (gLen l 1).2.1 := rfl
  have hS : sList stS elS l 1 [] = sLoop stS elS l (gLen l 1).1.toNat (gLen l 1).2.1 [] := rfl
  generalize gList elS l 1 = R at hL ⊢
  generalize sList stS elS l 1 [] = fin at hS ⊢
  have HL := Lib.hid hL; clear hL
  have HS := Lib.hid hS; clear hS
  go_enter Try.func32, Try.ntmps32
  go_wp2_with fail
  refine (rcount_any l A c 1 w (by omega) (by omega) hl hc HM.out HR.out).mono ?_
  rintro e w1 ⟨rfl, hb1⟩
  unfold ret3
  generalize gLen l 1 = r at hG HL HS ⊢
  obtain ⟨n, u, er⟩ := r
  by_cases he : er = 0
  case neg =>
    have h0 : ((er : Int) != 0) = true := by rw [bne_iff_ne]; exact he
    have HF : Hid (R = (0, er)) := by show _ = _; rw [HL.out, if_pos he]
    clear hG HL HS
    have HE := Lib.hid he; clear he
    go_wp2_with fail
    go_ret3
    exact ⟨_, by rw [HF.out]; rfl, hb1, fun _ => rfl, fun h => absurd (by rw [HF.out] at h; exact h) HE.out⟩
  subst he
  obtain ⟨hn, hnw, hu1, hu⟩ := hG rfl
  clear hG
  simp only at hn hnw hu1 hu
  obtain ⟨N, rfl⟩ := Int.eq_ofNat_of_zero_le hn
  have hNl : N ≤ l.length := by omega
  have HF : Hid (R = gLoop elS l N u ∧ fin = sLoop stS elS l N u []) := ⟨by rw [HL.out, if_neg (by simp)]; rfl, by rw [HS.out]; rfl⟩
  obtain ⟨b, o, rfl, _⟩ := HR.out.open (by intro e; have := congrArg List.length e; rw [bs_length, List.length_nil] at this; omega)
  clear hnw HL HS
  go_wp2_with fail
  go_loopg [6, 8, 9] N (fun g s6 s8 s9 wr => ∃ (j v : Nat) (s : List (List Value)), j + g = N ∧ s9 = .int .i64 j ∧ s6 = .int .i64 v ∧ v ≤ l.length ∧ Hid (wr.ownsRow w.heap.size 9 1 s8 s.length s.flatten ∧ s.length = j ∧ R = gLoop elS l g v ∧ fin = sLoop stS elS l g v s) ∧ Below w.heap.size w wr)
  case atStart => exact ⟨0, u, [], by omega, rfl, rfl, hu, ⟨World.ownsRow_nil _ _ _ _, rfl, HF.out.1, HF.out.2⟩, hb1⟩
  case round =>
    obtain ⟨j, v, s, hj, rfl, rfl, hv, H, hbr⟩ := hrel
    obtain ⟨A0, c0, hform, hrd0, hc0, hm0⟩ := Rd.of_own H.out.1
    subst hform
    clear hrd0
    cases gk with
    | zero =>
      have hlt : ¬ (j < N) := by omega
      go_wp2_with fail
      go_ret3
      refine ⟨_, by rw [H.out.2.2.1]; rfl, hbr, fun h => absurd (by rw [H.out.2.2.1]; rfl) h, fun _ => ?_⟩
      have e : fin = s := H.out.2.2.2
      rw [e]
      exact H.out.1
    | succ g =>
      have hlt : j < N := by omega
      have hdl : (l.drop v).length = l.length - v := by simp
      have HDL := Lib.hid hdl; clear hdl
      have hcv : v ≤ c := by omega
      have HLE : Hid ((gB3 (l.drop v)).2.2 = 0 → (gB3 (l.drop v)).2.1 ≤ l.length - v) := fun h => by have := (gB3_ok h).1; rw [HDL.out] at this; exact this
      obtain ⟨A', hA', hrdA⟩ : ∃ A', (if c = v then (some ⟨b, o, none⟩ : Option Addr) else some ⟨b, o + v, none⟩) = A' ∧ Rd wr A' (bs (l.drop v)) := ⟨_, rfl, rd_dropv (HR.out.below hbr) v c (by omega)⟩
      have HA := Lib.hid hrdA; clear hrdA
      by_cases hcu : c = v
      · rw [if_pos hcu] at hA'
        subst hA'
        obtain rfl : c = v := hcu
        have hcall := rgetBytes_any (l.drop c) (some ⟨b, o, none⟩) 0 wr (by rw [HDL.out]; omega) (by rw [HDL.out]; omega) (Nat.zero_le _) HA.out
        rw [HDL.out, show l.length - c = 0 from by omega] at hcall
        have HCALL := Lib.hid hcall; clear hcall
        go_wp2_with fail
        refine HCALL.out.mono ?_
        rintro e w2 ⟨rfl, hb2⟩
        unfold retS
        generalize hx : gB3 (l.drop c) = x at HLE
        obtain ⟨n, sz, ee⟩ := x
        have HX := Lib.hid hx; clear hx
        by_cases hee : ee = 0
        · subst hee
          have hsz := HLE.out rfl
          simp only at hsz
          have hown2 := own_keep H.out.1 hb2
          have HO2 := Lib.hid hown2; clear hown2
          have hbw2 := below_next hbr hb2
          have hsj : s.length = j := H.out.2.1
          have hg1 : Hid (R = gLoop elS l g (c + sz)) := by show _ = _; rw [H.out.2.2.1, gLoop]; unfold elS; rw [HX.out, if_neg (by simp)]
          have hg2 : Hid (fin = sLoop stS elS l g (c + sz) (s ++ [[.string ⟨n.toArray⟩]])) := by show _ = _; rw [H.out.2.2.2, sLoop]; unfold elS stS; rw [HX.out]
          have HSJ := Lib.hid hsj; clear hsj
          go_wp2_with (at_builtin; refine wpList_own_src rfl (.tmp 38) (.tmp 40) 23 23 rfl w.heap.size 9 i0 _ 1 16 Try.underlying23 hi0 hz0 hz1 hz2 rfl _ _ _ rfl (HO2.out.alloc _) _ 1 [.string ⟨n.toArray⟩] rfl (src_one Try.underlying23 hz1 _ _ _ rfl) ?c1 ?c2 ?c3 ?_)
          case c1 => have := HSJ.out; unfold maxLen; omega
          case c2 => have := HSJ.out; omega
          case c3 => simp; exact Nat.le_succ_of_le hbw2.size
          intro v1 w3 hown3 hg3 hat3
          have hb3 : Below w.heap.size w w3 := (hbw2.alloc hbw2.size _).grown hg3 (by simp; exact Nat.le_succ_of_le hbw2.size) (fun g hg => (HO2.out.lt g hg).1)
          have HO3 := Lib.hid hown3
          clear hown3 hg3 hat3
          go_wp2_with fail
          go_roundg g
          case measure => omega
          case rel =>
            refine ⟨j + 1, c + sz, s ++ [[.string ⟨n.toArray⟩]], by omega, by go_num, by go_num, by omega, ⟨?_, by simp [HSJ.out], hg1.out, hg2.out⟩, hb3⟩
            have := HO3.out
            simpa using this
        · have h0 : ((ee : Int) != 0) = true := by rw [bne_iff_ne]; exact hee
          have HEE := Lib.hid hee; clear hee
          have HF2 : Hid (R = (0, ee)) := by show _ = _; rw [H.out.2.2.1, gLoop]; unfold elS; rw [HX.out, if_pos HEE.out]
          have hbw2 := below_next hbr hb2
          go_wp2_with fail
          go_ret3
          exact ⟨_, by rw [HF2.out]; rfl, hbw2, fun _ => rfl, fun h => absurd (by rw [HF2.out] at h; exact h) HEE.out⟩
      · rw [if_neg hcu] at hA'
        subst hA'
        have hcall := rgetBytes_any (l.drop v) (some ⟨b, o + v, none⟩) (c - v) wr (by rw [HDL.out]; omega) (by rw [HDL.out]; omega) (by have := HM.out; omega) HA.out
        rw [HDL.out] at hcall
        have HCALL := Lib.hid hcall; clear hcall
        go_wp2_with fail
        refine HCALL.out.mono ?_
        rintro e w2 ⟨rfl, hb2⟩
        unfold retS
        generalize hx : gB3 (l.drop v) = x at HLE
        obtain ⟨n, sz, ee⟩ := x
        have HX := Lib.hid hx; clear hx
        by_cases hee : ee = 0
        · subst hee
          have hsz := HLE.out rfl
          simp only at hsz
          have hown2 := own_keep H.out.1 hb2
          have HO2 := Lib.hid hown2; clear hown2
          have hbw2 := below_next hbr hb2
          have hsj : s.length = j := H.out.2.1
          have hg1 : Hid (R = gLoop elS l g (v + sz)) := by show _ = _; rw [H.out.2.2.1, gLoop]; unfold elS; rw [HX.out, if_neg (by simp)]
          have hg2 : Hid (fin = sLoop stS elS l g (v + sz) (s ++ [[.string ⟨n.toArray⟩]])) := by show _ = _; rw [H.out.2.2.2, sLoop]; unfold elS stS; rw [HX.out]
          have HSJ := Lib.hid hsj; clear hsj
          go_wp2_with (at_builtin; refine wpList_own_src rfl (.tmp 38) (.tmp 40) 23 23 rfl w.heap.size 9 i0 _ 1 16 Try.underlying23 hi0 hz0 hz1 hz2 rfl _ _ _ rfl (HO2.out.alloc _) _ 1 [.string ⟨n.toArray⟩] rfl (src_one Try.underlying23 hz1 _ _ _ rfl) ?c1 ?c2 ?c3 ?_)
          case c1 => have := HSJ.out; unfold maxLen; omega
          case c2 => have := HSJ.out; omega
          case c3 => simp; exact Nat.le_succ_of_le hbw2.size
          intro v1 w3 hown3 hg3 hat3
          have hb3 : Below w.heap.size w w3 := (hbw2.alloc hbw2.size _).grown hg3 (by simp; exact Nat.le_succ_of_le hbw2.size) (fun g hg => (HO2.out.lt g hg).1)
          have HO3 := Lib.hid hown3
          clear hown3 hg3 hat3
          go_wp2_with fail
          go_roundg g
          case measure => omega
          case rel =>
            refine ⟨j + 1, v + sz, s ++ [[.string ⟨n.toArray⟩]], by omega, by go_num, by go_num, by omega, ⟨?_, by simp [HSJ.out], hg1.out, hg2.out⟩, hb3⟩
            have := HO3.out
            simpa using this
        · have h0 : ((ee : Int) != 0) = true := by rw [bne_iff_ne]; exact hee
          have HEE := Lib.hid hee; clear hee
          have HF2 : Hid (R = (0, ee)) := by show _ = _; rw [H.out.2.2.1, gLoop]; unfold elS; rw [HX.out, if_pos HEE.out]
          have hbw2 := below_next hbr hb2
          go_wp2_with fail
          go_ret3
          exact ⟨_, by rw [HF2.out]; rfl, hbw2, fun _ => rfl, fun h => absurd (by rw [HF2.out] at h; exact h) HEE.out⟩

end Go.Proofs.Ytelkekicceoaoaa
