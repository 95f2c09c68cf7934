/-
  slices.symMergeCmpFunc.
-/
import Derived.Test.YtalladdmedmfeaaKSym2
namespace Go.Proofs.Ytalladdmedmfeaa
open Go.RowKit
open Alp
open Col
set_option linter.unusedVariables false
set_option linter.unusedSimpArgs false

theorem sym_fin {c : Int → Int → Int} {P U1 U2 V1 V2 M1 M2 S : List Int} (hU : Sd c (U1 ++ U2)) (hV : Sd c (V1 ++ V2)) (hx1 : ∀ u ∈ U1, ∀ v ∈ V2, lt c u v) (hx2 : ∀ v ∈ V1, ∀ u ∈ U2, lt c v u) (p1 : M1.Perm (U1 ++ V1)) (s1 : Sd c M1) (p2 : M2.Perm (U2 ++ V2)) (s2 : Sd c M2) :
    MergeQ c P (U1 ++ U2) (V1 ++ V2) S (P ++ M1 ++ M2 ++ S) := by
  refine ⟨M1 ++ M2, by simp, ?_, sd_app.2 ⟨s1, s2, fun x hx y hy => ?_⟩⟩
  · refine (p1.append p2).trans ?_
    rw [List.append_assoc, List.append_assoc]
    refine List.Perm.append_left U1 ?_
    rw [← List.append_assoc, ← List.append_assoc]
    exact List.Perm.append_right V2 List.perm_append_comm
  · rcases List.mem_append.1 (p1.mem_iff.1 hx) with hx | hx
    · rcases List.mem_append.1 (p2.mem_iff.1 hy) with hy | hy
      · exact (sd_app.1 hU).2.2 x hx y hy
      · exact hx1 x hx y hy
    · rcases List.mem_append.1 (p2.mem_iff.1 hy) with hy | hy
      · exact hx2 x hx y hy
      · exact (sd_app.1 hV).2.2 x hx y hy
/-- The contract of symMergeCmpFunc for lists of fewer than K numbers. -/
def SymIH (c : Int → Int → Int) (C1 C2 q g N cN K : Nat) : Prop := ∀ (P U V S : List Int) (a m b : Nat) (w : World), U.length + V.length < K → N = (P ++ U ++ V ++ S).length → a = P.length → m = a + U.length → b = m + V.length → U ≠ [] → V ≠ [] → Sd c U → Sd c V → (∀ u ∈ U, ∀ v ∈ V, u < v) → inL q (U ++ V) → Blk w g (iv (P ++ U ++ V ++ S)) 3 → CmpOK c C1 C2 q g w →
  Calls Try.prog 71 #[.slice (some ⟨g, 0, none⟩) N cN, .int .i64 (a : Int), .int .i64 (m : Int), .int .i64 (b : Int), .func (.func 52) #[] #[.pointer (some ⟨C1, 0, none⟩), .pointer (some ⟨C2, 0, none⟩)]] w (MPost w g (MergeQ c P U V S))
set_option maxRecDepth 1000000 in
set_option maxHeartbeats 16000000 in
theorem sym_genA (c : Int → Int → Int) (hc : Cmp c) (C1 C2 q : Nat) (P U V S : List Int) (g N cN a m b mid n lo hi : Nat) (hN : N = (P ++ U ++ V ++ S).length) (hN2 : N ≤ 1000000) (hcN : N ≤ cN) (hm : cN ≤ maxLen) (ha : a = P.length) (hma : m = a + U.length) (hb : b = m + V.length) (hU2 : 2 ≤ U.length) (hV2 : 2 ≤ V.length) (hU : Sd c U) (hV : Sd c V) (hlt : ∀ u ∈ U, ∀ v ∈ V, u < v) (hin : inL q (U ++ V)) (w : World) (hw : Blk w g (iv (P ++ U ++ V ++ S)) 3) (hcm : CmpOK c C1 C2 q g w)
    (hmid : mid = (a + b) / 2) (hn : n = mid + m) (hmm : mid < m) (hlo : lo + b = n) (hhi : hi = mid) (hIH : SymIH c C1 C2 q g N cN (U.length + V.length)) :
    Calls Try.prog 71 #[.slice (some ⟨g, 0, none⟩) N cN, .int .i64 (a : Int), .int .i64 (m : Int), .int .i64 (b : Int), .func (.func 52) #[] #[.pointer (some ⟨C1, 0, none⟩), .pointer (some ⟨C2, 0, none⟩)]] w (MPost w g (MergeQ c P U V S)) := by
  have hm' : cN ≤ 9223372036854775807 := by unfold maxLen at hm; omega
  have HW := Lib.hid (SW.start hw)
  have HCM := Lib.hid hcm
  have HCP := Lib.hid hc
  have hbN : b ≤ N := by rw [hb, hma, ha, hN]; simp only [List.length_append]; omega
  obtain ⟨d1, hd1⟩ : ∃ d, d = U.length := ⟨_, rfl⟩
  obtain ⟨d2, hd2⟩ : ∃ d, d = V.length := ⟨_, rfl⟩
  have e1 : (m : Int) - (a : Int) = (d1 : Int) := by omega
  have e0 : ((d1 : Int) == 1) = false := beq_eq_false_iff_ne.2 (by omega)
  have e3 : (b : Int) - (m : Int) = (d2 : Int) := by omega
  have e4 : ((d2 : Int) == 1) = false := beq_eq_false_iff_ne.2 (by omega)
  have ham : a + 2 ≤ m := by omega
  have hmb : m + 2 ≤ b := by omega
  have hm3 : ((a : Int) + (b : Int)).toNat / 2 = mid := by omega
  have hm2 : (((a : Int) + (b : Int)) / 2) = (mid : Int) := by omega
  have e5 : (mid : Int) + (m : Int) = (n : Int) := by omega
  obtain ⟨p, hp⟩ : ∃ p, p + 1 = n := ⟨n - 1, by omega⟩
  have e6 : (n : Int) - 1 = (p : Int) := by omega
  obtain ⟨hab1, hab2⟩ : a < mid ∧ mid < b := by omega
  have hmN : mid < N := by omega
  have hnN : n ≤ 2 * N := by omega
  have e7 : (n : Int) - (b : Int) = (lo : Int) := by omega
  have hcond : (mid : Int) < (m : Int) := by omega
  obtain ⟨hlh1, hlh2, hlh3, hlh4⟩ : a ≤ lo ∧ lo ≤ hi ∧ hi ≤ m ∧ hi ≤ mid := by omega
  obtain ⟨hnb1, hnb2⟩ : n ≤ lo + b ∧ m + hi ≤ n := by omega
  obtain ⟨D, hD⟩ : ∃ D, D = P ++ U ++ V ++ S := ⟨_, rfl⟩
  have HX : Hid (N = D.length ∧ a = P.length ∧ m = a + U.length ∧ b = m + V.length ∧ Sd c U ∧ Sd c V ∧ (∀ u ∈ U, ∀ v ∈ V, u < v) ∧ (inL q U ∧ inL q V) ∧ D = P ++ U ++ V ++ S) := Lib.hid ⟨by rw [hD]; exact hN, ha, hma, hb, hU, hV, hlt, inL_app.1 hin, hD⟩
  have HSW0 : Hid (SW w g D w) := Lib.hid (by rw [hD]; exact HW.out)
  have HIH := Lib.hid hIH
  have hlow : lo + b = n := hlo
  have hhigh : hi = mid := hhi
  have HLH : Hid (lo + b = n ∧ hi = mid) := Lib.hid ⟨hlo, hhi⟩
  clear hN ha hma hb hU hV hlt hin hw hcm hc hD HW hU2 hV2 hIH hlo hhi hlow hhigh hd1 hd2 hmid hmm hn hp 
  
  go_enter Try.func71, Try.ntmps71
  
  rw [show hi = mid from HLH.out.2] at hlh2 hlh3 hlh4 hnb2
  go_wp2_with fail
  go_loopg [20, 21, 23] (n + 1) (fun gg s20 s21 s23 wr => ∃ (i j : Nat), lo ≤ i ∧ i ≤ j ∧ j ≤ mid ∧ j ≤ i + gg ∧ s20 = .int .i64 (i : Int) ∧ s21 = .int .i64 (j : Int) ∧ Hid ((i = lo ∨ ∃ Ua x Ub Va y Vb, U = Ua ++ x :: Ub ∧ V = Va ++ y :: Vb ∧ Ua.length + a + 1 = i ∧ Va.length + m + i = n ∧ ¬ c y x < 0) ∧ (j = mid ∨ ∃ Ua x Ub Va y Vb, U = Ua ++ x :: Ub ∧ V = Va ++ y :: Vb ∧ Ua.length + a = j ∧ Va.length + m + j + 1 = n ∧ c y x < 0) ∧ SW w g D wr))
  case atStart => exact ⟨lo, mid, Nat.le_refl _, by omega, Nat.le_refl _, by omega, rfl, rfl, Lib.hid ⟨.inl rfl, .inl rfl, HSW0.out⟩⟩
  case round =>
    clear HSW0
    obtain ⟨i, j, hmi, hij, hjb, hjg, rfl, rfl, HI⟩ := hrel
    have HSW : Hid (SW w g D wr) := Lib.hid HI.out.2.2
    by_cases hlt : i < j
    · obtain ⟨h, hh⟩ : ∃ x, x = (i + j) / 2 := ⟨_, rfl⟩
      have hq1 : i ≤ h ∧ h < j := by omega
      have hq2 : (((i : Int) + (j : Int)) / 2) = (h : Int) := by omega
      have hq3 : ((i : Int) + (j : Int)).toNat / 2 = h := by omega
      clear hh
      obtain ⟨t, ht⟩ : ∃ t, t + h = p := ⟨p - h, by omega⟩
      have z1 : (p : Int) - (h : Int) = (t : Int) := by omega
      have z2 : IntKind.i64.wrap (t : Int) = (t : Int) := by rw [IntKind.wrap_i64]; omega
      have hhm : a ≤ h ∧ h < m := by omega
      have htm : m ≤ t ∧ t < b := by omega
      have hhN : h < N := by omega
      have htN : t < N := by omega
      obtain ⟨Ua, x, Ub, eU, lU⟩ := split_mid (V := U) (k := h - a) (by have := HX.out.2.2.1; omega)
      obtain ⟨Va, y, Vb, eV, lV⟩ := split_mid (V := V) (k := t - m) (by have := HX.out.2.2.2.1; omega)
      obtain ⟨xn, hxn, hxq⟩ : ∃ z : Nat, x = z ∧ z < q := by have := HX.out.2.2.2.2.2.2.2.1.1 x (by rw [eU]; simp); exact ⟨x.toNat, by omega, by omega⟩
      obtain ⟨yn, hyn, hyq⟩ : ∃ z : Nat, y = z ∧ z < q := by have := HX.out.2.2.2.2.2.2.2.1.2 y (by rw [eV]; simp); exact ⟨y.toNat, by omega, by omega⟩
      have hgh : D.getD h 0 = (xn : Int) := by
        obtain ⟨k1, k2, k3, k4, k5, k6, k7, k8, k9⟩ := HX.out
        rw [k9, ← hxn, eU]
        exact getD_mid' (A := P ++ Ua) (B := Ub ++ V ++ S) (by simp) (by simp only [List.length_append]; omega)
      have hgt : D.getD t 0 = (yn : Int) := by
        obtain ⟨k1, k2, k3, k4, k5, k6, k7, k8, k9⟩ := HX.out
        rw [k9, ← hyn, eV]
        exact getD_mid' (A := P ++ U ++ Va) (B := Vb ++ S) (by simp) (by simp only [List.length_append]; omega)
      have l1 : ∀ p : Wo (SW w g D), p.wo.cell? ⟨g, h, none⟩ = some (.int .i64 (xn : Int)) := fun p => p.ok.cell (by rw [← HX.out.1]; exact hhN) hgh
      have l2 : ∀ p : Wo (SW w g D), p.wo.cell? ⟨g, t, none⟩ = some (.int .i64 (yn : Int)) := fun p => p.ok.cell (by rw [← HX.out.1]; exact htN) hgt
      obtain ⟨r, hr⟩ : ∃ r, r = c (yn : Int) (xn : Int) := ⟨_, rfl⟩
      have HCC : Hid (∀ W, SW w g D W → Calls Try.prog 52 #[.int .i64 (yn : Int), .int .i64 (xn : Int), .pointer (some ⟨C1, 0, none⟩), .pointer (some ⟨C2, 0, none⟩)] W fun e w' => e = .returned (.int .i64 r) ∧ SW w g D w') := Lib.hid (sw_cmp fun W hW => by rw [hr]; exact HCM.out W hW yn xn hyq hxq)
      have HV : Hid (U = Ua ++ x :: Ub ∧ V = Va ++ y :: Vb ∧ Ua.length + a = h ∧ Va.length + m + h + 1 = n ∧ r = c y x) := Lib.hid ⟨eU, eV, by omega, by omega, by rw [hr, hxn, hyn]⟩
      clear hr hgh hgt hxn hyn eU eV lU lV ht
      by_cases hr0 : r < 0
      · have hd3 : decide (r < 0) = true := decide_eq_true hr0
        go_wp2_with fail
        haveI : Nonempty (Wo (SW w g D)) := ⟨⟨_, HSW.out⟩⟩
        refine wp_region_wo (SW w g D) mixedTry (by kernel_rfl) (HSW.out.drewN 1) ?_
        repeat (quiet_step (first | (go_at_call 52; exact calls_wo HCC.out _)))
        refine wpQuiet_nil ?_
        intro w2 hw2
        obtain ⟨⟨w2', hok⟩, hw3⟩ := hw2
        have hw4 : w2 = w2' := hw3
        subst hw4
        have HS2 := Lib.hid hok
        clear hw3 hok
        clear l1 l2
        go_wp2_with fail
        go_roundg (gk - 1)
        case rel => exact ⟨i, h, by omega, by omega, by omega, by omega, rfl, rfl, Lib.hid ⟨HI.out.1, .inr ⟨Ua, x, Ub, Va, y, Vb, HV.out.1, HV.out.2.1, HV.out.2.2.1, HV.out.2.2.2.1, by rw [← HV.out.2.2.2.2]; exact hr0⟩, HS2.out⟩⟩
        case measure => omega
      · have hd3 : decide (r < 0) = false := decide_eq_false hr0
        go_wp2_with fail
        haveI : Nonempty (Wo (SW w g D)) := ⟨⟨_, HSW.out⟩⟩
        refine wp_region_wo (SW w g D) mixedTry (by kernel_rfl) (HSW.out.drewN 1) ?_
        repeat (quiet_step (first | (go_at_call 52; exact calls_wo HCC.out _)))
        refine wpQuiet_nil ?_
        intro w2 hw2
        obtain ⟨⟨w2', hok⟩, hw3⟩ := hw2
        have hw4 : w2 = w2' := hw3
        subst hw4
        have HS2 := Lib.hid hok
        clear hw3 hok
        clear l1 l2
        go_wp2_with fail
        go_roundg (gk - 1)
        case rel => exact ⟨h + 1, j, by omega, by omega, hjb, by omega, by go_num, rfl, Lib.hid ⟨.inr ⟨Ua, x, Ub, Va, y, Vb, HV.out.1, HV.out.2.1, by rw [HV.out.2.2.1], by have := HV.out.2.2.2.1; omega, by rw [← HV.out.2.2.2.2]; exact hr0⟩, HI.out.2.1, HS2.out⟩⟩
        case measure => omega
    · obtain ⟨s, hs⟩ : ∃ s, s = i := ⟨_, rfl⟩
      obtain rfl : i = j := by omega
      subst hs
      obtain ⟨e, he⟩ : ∃ e, e + s = n := ⟨n - s, by omega⟩
      have e8 : (n : Int) - (s : Int) = (e : Int) := by omega
      have hem : m ≤ e ∧ e ≤ b := by omega
      obtain ⟨U1, U2, eU, lU⟩ := split_at U (s - a) (by have := HX.out.2.2.1; omega)
      obtain ⟨V1, V2, eV, lV⟩ := split_at V (e - m) (by have := HX.out.2.2.2.1; omega)
      have hlU1 : U1.length + a = s := by omega
      have hlV1 : V1.length + m = e := by omega
      have hlU2 : U2.length + s = m := by have h1 := HX.out.2.2.1; rw [eU, List.length_append] at h1; omega
      have hlV2 : V2.length + e = b := by have h1 := HX.out.2.2.2.1; rw [eV, List.length_append] at h1; omega
      have hx1 : ∀ u ∈ U1, ∀ v ∈ V2, lt c u v := by
        obtain ⟨k1, k2, k3, k4, k5, k6, k7, k8, k9⟩ := HX.out
        have o1 := HLH.out
        have m1 := HI.out.1
        refine sd_join HCP.out (sd_app.1 (eU ▸ k5)).1 (sd_app.1 (eV ▸ k6)).2.1 (fun x y hx hy => ?_)
        rcases m1 with m1 | ⟨Ua, x', Ub, Va, y', Vb, f1, f2, f3, f4, f5⟩
        · have : V2 = [] := List.eq_nil_of_length_eq_zero (by omega)
          rw [this] at hy; cases hy
        · have g1 := low_last (eU.symm.trans f1) (by omega)
          have g2 := high_head (eV.symm.trans f2) (by omega)
          rw [g1] at hx
          rw [g2] at hy
          obtain rfl := Option.some.inj hx
          obtain rfl := Option.some.inj hy
          exact lt_of_idx HCP.out f5 (k7 x' (by rw [f1]; simp) y' (by rw [f2]; simp))
      have hx2 : ∀ v ∈ V1, ∀ u ∈ U2, lt c v u := by
        obtain ⟨k1, k2, k3, k4, k5, k6, k7, k8, k9⟩ := HX.out
        have o1 := HLH.out
        have m1 := HI.out.2.1
        refine sd_join HCP.out (sd_app.1 (eV ▸ k6)).1 (sd_app.1 (eU ▸ k5)).2.1 (fun y x hy hx => ?_)
        rcases m1 with m1 | ⟨Ua, x', Ub, Va, y', Vb, f1, f2, f3, f4, f5⟩
        · have : V1 = [] := List.eq_nil_of_length_eq_zero (by omega)
          rw [this] at hy; cases hy
        · have g1 := low_last (eV.symm.trans f2) (by omega)
          have g2 := high_head (eU.symm.trans f1) (by omega)
          rw [g1] at hy
          rw [g2] at hx
          obtain rfl := Option.some.inj hx
          obtain rfl := Option.some.inj hy
          exact .inl f5
      have HF : Hid (U = U1 ++ U2 ∧ V = V1 ++ V2 ∧ U1.length + a = s ∧ V1.length + m = e ∧ (∀ u ∈ U1, ∀ v ∈ V2, lt c u v) ∧ (∀ v ∈ V1, ∀ u ∈ U2, lt c v u)) := Lib.hid ⟨eU, eV, hlU1, hlV1, hx1, hx2⟩
      have hPM : (P ++ U1 ++ V1).length = mid := by have := HX.out.2.1; simp only [List.length_append]; omega
      have HROT : Hid (∀ W, SW w g D W → U2 ≠ [] → V1 ≠ [] → Calls Try.prog 73 #[.slice (some ⟨g, 0, none⟩) N cN, .int .i64 (s : Int), .int .i64 (m : Int), .int .i64 (e : Int), .func (.func 52) #[] #[.pointer (some ⟨C1, 0, none⟩), .pointer (some ⟨C2, 0, none⟩)]] W (SPost W g (P ++ U1 ++ V1 ++ (U2 ++ V2 ++ S)))) := Lib.hid (fun W hW n1 n2 => by
        obtain ⟨k1, k2, k3, k4, k5, k6, k7, k8, k9⟩ := HX.out
        have eD : D = (P ++ U1) ++ U2 ++ V1 ++ (V2 ++ S) := by rw [k9, eU, eV]; simp
        rw [eD] at hW
        have h := rot_any (.func (.func 52) #[] #[.pointer (some ⟨C1, 0, none⟩), .pointer (some ⟨C2, 0, none⟩)]) (P ++ U1) U2 V1 (V2 ++ S) g N cN s m e (by rw [k1, eD]) hN2 hcN hm (by rw [List.length_append]; omega) (by simp only [List.length_append]; omega) (by simp only [List.length_append]; omega) n1 n2 W hW.1
        simpa using h)
      have H1 : Hid (∀ W, SW w g (P ++ U1 ++ V1 ++ (U2 ++ V2 ++ S)) W → U1 ≠ [] → V1 ≠ [] → Calls Try.prog 71 #[.slice (some ⟨g, 0, none⟩) N cN, .int .i64 (a : Int), .int .i64 (s : Int), .int .i64 (mid : Int), .func (.func 52) #[] #[.pointer (some ⟨C1, 0, none⟩), .pointer (some ⟨C2, 0, none⟩)]] W (MPost W g (MergeQ c P U1 V1 (U2 ++ V2 ++ S)))) := Lib.hid (fun W hW n1 n2 => by
        obtain ⟨k1, k2, k3, k4, k5, k6, k7, k8, k9⟩ := HX.out
        exact HIH.out P U1 V1 (U2 ++ V2 ++ S) a s mid W (by rw [eU, eV, List.length_append, List.length_append]; omega) (by rw [k1, k9, eU, eV]; simp only [List.length_append]; omega) k2 (by omega) (by omega) n1 n2 (sd_app.1 (eU ▸ k5)).1 (sd_app.1 (eV ▸ k6)).1 (fun u hu v hv => k7 u (by rw [eU]; simp [hu]) v (by rw [eV]; simp [hv])) (inL_app.2 ⟨(inL_app.1 (eU ▸ k8.1)).1, (inL_app.1 (eV ▸ k8.2)).1⟩) hW.1 (HCM.out.next hW.2))
      have H2 : Hid (∀ W M1, M1.length = U1.length + V1.length → SW w g (P ++ M1 ++ (U2 ++ V2 ++ S)) W → U2 ≠ [] → V2 ≠ [] → Calls Try.prog 71 #[.slice (some ⟨g, 0, none⟩) N cN, .int .i64 (mid : Int), .int .i64 (e : Int), .int .i64 (b : Int), .func (.func 52) #[] #[.pointer (some ⟨C1, 0, none⟩), .pointer (some ⟨C2, 0, none⟩)]] W (MPost W g (MergeQ c (P ++ M1) U2 V2 S))) := Lib.hid (fun W M1 hM hW n1 n2 => by
        obtain ⟨k1, k2, k3, k4, k5, k6, k7, k8, k9⟩ := HX.out
        have h1 : (P ++ M1).length = mid := by rw [← hPM]; simp only [List.length_append]; omega
        exact HIH.out (P ++ M1) U2 V2 S mid e b W (by rw [eU, eV, List.length_append, List.length_append]; omega) (by rw [k1, k9, eU, eV]; simp only [List.length_append]; omega) h1.symm (by omega) (by omega) n1 n2 (sd_app.1 (eU ▸ k5)).2.1 (sd_app.1 (eV ▸ k6)).2.1 (fun u hu v hv => k7 u (by rw [eU]; simp [hu]) v (by rw [eV]; simp [hv])) (inL_app.2 ⟨(inL_app.1 (eU ▸ k8.1)).2, (inL_app.1 (eV ▸ k8.2)).2⟩) (by have h := hW.1; simpa using h) (HCM.out.next hW.2))
      have hls : U1.length + V1.length + a = mid ∧ U2.length + mid = e := by omega
      clear eU eV lU lV hx1 hx2 hPM HI HIH HLH he
      by_cases nV1 : V1 = []
      · have lnV1 : V1.length = 0 := by rw [nV1]; rfl
        have nV2 : V2 ≠ [] := fun h => by rw [h] at hlV2; simp at hlV2; omega
        have lnV2 : 0 < V2.length := List.length_pos_iff.2 nV2
        have nU1 : U1 ≠ [] := fun h => by rw [h] at hlU1; simp at hlU1; omega
        have lnU1 : 0 < U1.length := List.length_pos_iff.2 nU1
        by_cases nU2 : U2 = []
        · have lnU2 : U2.length = 0 := by rw [nU2]; rfl
          have HE : Hid (V1 = [] ∧ U2 = [] ∧ True ∧ True) := Lib.hid ⟨nV1, nU2, True.intro, True.intro⟩
          have t1 : ¬ (s : Int) < (m : Int) := by omega
          have t2 : ¬ (m : Int) < (e : Int) := by omega
          have t3 : (a : Int) < (s : Int) := by omega
          have t4 : ¬ (s : Int) < (mid : Int) := by omega
          have t5 : ¬ (mid : Int) < (e : Int) := by omega
          have t6 : (e : Int) < (b : Int) := by omega
          have HS3 : Hid (SW w g (P ++ U1 ++ V1 ++ (U2 ++ V2 ++ S)) wr) := Lib.hid (by have h := HSW.out; rw [HX.out.2.2.2.2.2.2.2.2, HF.out.1, HF.out.2.1] at h; rw [HE.out.1] at h ⊢; simpa using h)
          have HM : Hid ((U1 ++ V1).Perm (U1 ++ V1) ∧ Sd c (U1 ++ V1)) := Lib.hid ⟨List.Perm.refl _, by rw [HE.out.1]; simp only [List.append_nil, List.nil_append]; exact (sd_app.1 (HF.out.1 ▸ HX.out.2.2.2.2.1)).1⟩
          have HM2 : Hid ((U2 ++ V2).Perm (U2 ++ V2) ∧ Sd c (U2 ++ V2)) := Lib.hid ⟨List.Perm.refl _, by rw [HE.out.2.1]; simp only [List.append_nil, List.nil_append]; exact (sd_app.1 (HF.out.2.1 ▸ HX.out.2.2.2.2.2.1)).2.1⟩
          clear nV1 lnV1 nU2 lnU2 nV2 lnV2 nU1 lnU1 hlU1 hlV1 hlU2 hlV2 hls
          go_wp2_with fail
          all_goals
            go_end0
            refine ⟨P ++ (U1 ++ V1) ++ (U2 ++ V2) ++ S, ?_, rfl, (by have h := HS3.out; simpa using h)⟩
            rw [HF.out.1, HF.out.2.1]
            exact sym_fin (HF.out.1 ▸ HX.out.2.2.2.2.1) (HF.out.2.1 ▸ HX.out.2.2.2.2.2.1) HF.out.2.2.2.2.1 HF.out.2.2.2.2.2 HM.out.1 HM.out.2 HM2.out.1 HM2.out.2
        · have lnU2 : 0 < U2.length := List.length_pos_iff.2 nU2
          have HE : Hid (V1 = [] ∧ True ∧ True ∧ True) := Lib.hid ⟨nV1, True.intro, True.intro, True.intro⟩
          have H2 := Lib.hid fun W M hM hW => H2.out W M hM hW nU2 nV2
          have t1 : (s : Int) < (m : Int) := by omega
          have t2 : ¬ (m : Int) < (e : Int) := by omega
          have t3 : (a : Int) < (s : Int) := by omega
          have t4 : ¬ (s : Int) < (mid : Int) := by omega
          have t5 : (mid : Int) < (e : Int) := by omega
          have t6 : (e : Int) < (b : Int) := by omega
          have HS3 : Hid (SW w g (P ++ U1 ++ V1 ++ (U2 ++ V2 ++ S)) wr) := Lib.hid (by have h := HSW.out; rw [HX.out.2.2.2.2.2.2.2.2, HF.out.1, HF.out.2.1] at h; rw [HE.out.1] at h ⊢; simpa using h)
          have HM : Hid ((U1 ++ V1).Perm (U1 ++ V1) ∧ Sd c (U1 ++ V1)) := Lib.hid ⟨List.Perm.refl _, by rw [HE.out.1]; simp only [List.append_nil, List.nil_append]; exact (sd_app.1 (HF.out.1 ▸ HX.out.2.2.2.2.1)).1⟩
          clear nV1 lnV1 nU2 lnU2 nV2 lnV2 nU1 lnU1 hlU1 hlV1 hlU2 hlV2 hls
          go_wp2_with (first | ((with_reducible refine (H2.out _ (U1 ++ V1) (by rw [HM.out.1.length_eq, List.length_append]) (by have h := HS3.out; simpa using h)).mono ?_); rintro e w5 hp; obtain ⟨rfl, d5, ⟨M2, hd5, hp5, hsd5⟩, hs5⟩ := m_out hp; have HM2 : Hid (M2.Perm (U2 ++ V2) ∧ Sd c M2) := Lib.hid ⟨hp5, hsd5⟩; have HS5 : Hid (SW w g (P ++ (U1 ++ V1) ++ M2 ++ S) w5) := Lib.hid (by rw [← hd5]; exact SW.trans (d := P ++ (U1 ++ V1) ++ (U2 ++ V2 ++ S)) (by have h := HS3.out; simpa using h) hs5); clear hp hs5 hd5 hp5 hsd5))
          all_goals
            go_end0
            refine ⟨P ++ (U1 ++ V1) ++ M2 ++ S, ?_, rfl, HS5.out⟩
            rw [HF.out.1, HF.out.2.1]
            exact sym_fin (HF.out.1 ▸ HX.out.2.2.2.2.1) (HF.out.2.1 ▸ HX.out.2.2.2.2.2.1) HF.out.2.2.2.2.1 HF.out.2.2.2.2.2 HM.out.1 HM.out.2 HM2.out.1 HM2.out.2
      · have lnV1 : 0 < V1.length := List.length_pos_iff.2 nV1
        by_cases nU2 : U2 = []
        · have lnU2 : U2.length = 0 := by rw [nU2]; rfl
          have nU1 : U1 ≠ [] := fun h => by rw [h] at hlU1; simp at hlU1; omega
          have lnU1 : 0 < U1.length := List.length_pos_iff.2 nU1
          by_cases nV2 : V2 = []
          · have lnV2 : V2.length = 0 := by rw [nV2]; rfl
            have HE : Hid (True ∧ U2 = [] ∧ True ∧ V2 = []) := Lib.hid ⟨True.intro, nU2, True.intro, nV2⟩
            have H1 := Lib.hid fun W hW => H1.out W hW nU1 nV1
            have t1 : ¬ (s : Int) < (m : Int) := by omega
            have t2 : (m : Int) < (e : Int) := by omega
            have t3 : (a : Int) < (s : Int) := by omega
            have t4 : (s : Int) < (mid : Int) := by omega
            have t5 : ¬ (mid : Int) < (e : Int) := by omega
            have t6 : ¬ (e : Int) < (b : Int) := by omega
            have HS3 : Hid (SW w g (P ++ U1 ++ V1 ++ (U2 ++ V2 ++ S)) wr) := Lib.hid (by have h := HSW.out; rw [HX.out.2.2.2.2.2.2.2.2, HF.out.1, HF.out.2.1] at h; rw [HE.out.2.1] at h ⊢; simpa using h)
            have HM2 : Hid ((U2 ++ V2).Perm (U2 ++ V2) ∧ Sd c (U2 ++ V2)) := Lib.hid ⟨List.Perm.refl _, by rw [HE.out.2.1]; simp only [List.append_nil, List.nil_append]; exact (sd_app.1 (HF.out.2.1 ▸ HX.out.2.2.2.2.2.1)).2.1⟩
            clear nV1 lnV1 nU2 lnU2 nV2 lnV2 nU1 lnU1 hlU1 hlV1 hlU2 hlV2 hls
            go_wp2_with (first | ((with_reducible refine (H1.out _ HS3.out).mono ?_); rintro e w4 hp; obtain ⟨rfl, d4, ⟨M1, hd4, hp4, hsd4⟩, hs4⟩ := m_out hp; have HM : Hid (M1.Perm (U1 ++ V1) ∧ Sd c M1) := Lib.hid ⟨hp4, hsd4⟩; have HS4 : Hid (SW w g (P ++ M1 ++ (U2 ++ V2 ++ S)) w4) := Lib.hid (by rw [← hd4]; exact HS3.out.trans hs4); clear hp hs4 hd4 hp4 hsd4))
            all_goals
              go_end0
              refine ⟨P ++ M1 ++ (U2 ++ V2) ++ S, ?_, rfl, (by have h := HS4.out; simpa using h)⟩
              rw [HF.out.1, HF.out.2.1]
              exact sym_fin (HF.out.1 ▸ HX.out.2.2.2.2.1) (HF.out.2.1 ▸ HX.out.2.2.2.2.2.1) HF.out.2.2.2.2.1 HF.out.2.2.2.2.2 HM.out.1 HM.out.2 HM2.out.1 HM2.out.2
          · have lnV2 : 0 < V2.length := List.length_pos_iff.2 nV2
            have HE : Hid (True ∧ U2 = [] ∧ True ∧ True) := Lib.hid ⟨True.intro, nU2, True.intro, True.intro⟩
            have H1 := Lib.hid fun W hW => H1.out W hW nU1 nV1
            have t1 : ¬ (s : Int) < (m : Int) := by omega
            have t2 : (m : Int) < (e : Int) := by omega
            have t3 : (a : Int) < (s : Int) := by omega
            have t4 : (s : Int) < (mid : Int) := by omega
            have t5 : ¬ (mid : Int) < (e : Int) := by omega
            have t6 : (e : Int) < (b : Int) := by omega
            have HS3 : Hid (SW w g (P ++ U1 ++ V1 ++ (U2 ++ V2 ++ S)) wr) := Lib.hid (by have h := HSW.out; rw [HX.out.2.2.2.2.2.2.2.2, HF.out.1, HF.out.2.1] at h; rw [HE.out.2.1] at h ⊢; simpa using h)
            have HM2 : Hid ((U2 ++ V2).Perm (U2 ++ V2) ∧ Sd c (U2 ++ V2)) := Lib.hid ⟨List.Perm.refl _, by rw [HE.out.2.1]; simp only [List.append_nil, List.nil_append]; exact (sd_app.1 (HF.out.2.1 ▸ HX.out.2.2.2.2.2.1)).2.1⟩
            clear nV1 lnV1 nU2 lnU2 nV2 lnV2 nU1 lnU1 hlU1 hlV1 hlU2 hlV2 hls
            go_wp2_with (first | ((with_reducible refine (H1.out _ HS3.out).mono ?_); rintro e w4 hp; obtain ⟨rfl, d4, ⟨M1, hd4, hp4, hsd4⟩, hs4⟩ := m_out hp; have HM : Hid (M1.Perm (U1 ++ V1) ∧ Sd c M1) := Lib.hid ⟨hp4, hsd4⟩; have HS4 : Hid (SW w g (P ++ M1 ++ (U2 ++ V2 ++ S)) w4) := Lib.hid (by rw [← hd4]; exact HS3.out.trans hs4); clear hp hs4 hd4 hp4 hsd4))
            all_goals
              go_end0
              refine ⟨P ++ M1 ++ (U2 ++ V2) ++ S, ?_, rfl, (by have h := HS4.out; simpa using h)⟩
              rw [HF.out.1, HF.out.2.1]
              exact sym_fin (HF.out.1 ▸ HX.out.2.2.2.2.1) (HF.out.2.1 ▸ HX.out.2.2.2.2.2.1) HF.out.2.2.2.2.1 HF.out.2.2.2.2.2 HM.out.1 HM.out.2 HM2.out.1 HM2.out.2
        · have lnU2 : 0 < U2.length := List.length_pos_iff.2 nU2
          by_cases nU1 : U1 = []
          · have lnU1 : U1.length = 0 := by rw [nU1]; rfl
            by_cases nV2 : V2 = []
            · have lnV2 : V2.length = 0 := by rw [nV2]; rfl
              have HE : Hid (True ∧ True ∧ U1 = [] ∧ V2 = []) := Lib.hid ⟨True.intro, True.intro, nU1, nV2⟩
              have HROT := Lib.hid fun W hW => HROT.out W hW nU2 nV1
              have t1 : (s : Int) < (m : Int) := by omega
              have t2 : (m : Int) < (e : Int) := by omega
              have t3 : ¬ (a : Int) < (s : Int) := by omega
              have t4 : (s : Int) < (mid : Int) := by omega
              have t5 : (mid : Int) < (e : Int) := by omega
              have t6 : ¬ (e : Int) < (b : Int) := by omega
              have HM : Hid ((U1 ++ V1).Perm (U1 ++ V1) ∧ Sd c (U1 ++ V1)) := Lib.hid ⟨List.Perm.refl _, by rw [HE.out.2.2.1]; simp only [List.append_nil, List.nil_append]; exact (sd_app.1 (HF.out.2.1 ▸ HX.out.2.2.2.2.2.1)).1⟩
              have HM2 : Hid ((U2 ++ V2).Perm (U2 ++ V2) ∧ Sd c (U2 ++ V2)) := Lib.hid ⟨List.Perm.refl _, by rw [HE.out.2.2.2]; simp only [List.append_nil, List.nil_append]; exact (sd_app.1 (HF.out.1 ▸ HX.out.2.2.2.2.1)).2.1⟩
              clear nV1 lnV1 nU2 lnU2 nV2 lnV2 nU1 lnU1 hlU1 hlV1 hlU2 hlV2 hls
              go_wp2_with (first | ((with_reducible refine (HROT.out _ HSW.out).mono ?_); rintro e w3 hp; obtain ⟨rfl, hs3⟩ := s_out hp; have HS3 := Lib.hid (HSW.out.trans hs3); clear hp hs3))
              all_goals
                go_end0
                refine ⟨P ++ (U1 ++ V1) ++ (U2 ++ V2) ++ S, ?_, rfl, (by have h := HS3.out; simpa using h)⟩
                rw [HF.out.1, HF.out.2.1]
                exact sym_fin (HF.out.1 ▸ HX.out.2.2.2.2.1) (HF.out.2.1 ▸ HX.out.2.2.2.2.2.1) HF.out.2.2.2.2.1 HF.out.2.2.2.2.2 HM.out.1 HM.out.2 HM2.out.1 HM2.out.2
            · have lnV2 : 0 < V2.length := List.length_pos_iff.2 nV2
              have HE : Hid (True ∧ True ∧ U1 = [] ∧ True) := Lib.hid ⟨True.intro, True.intro, nU1, True.intro⟩
              have HROT := Lib.hid fun W hW => HROT.out W hW nU2 nV1
              have H2 := Lib.hid fun W M hM hW => H2.out W M hM hW nU2 nV2
              have t1 : (s : Int) < (m : Int) := by omega
              have t2 : (m : Int) < (e : Int) := by omega
              have t3 : ¬ (a : Int) < (s : Int) := by omega
              have t4 : (s : Int) < (mid : Int) := by omega
              have t5 : (mid : Int) < (e : Int) := by omega
              have t6 : (e : Int) < (b : Int) := by omega
              have HM : Hid ((U1 ++ V1).Perm (U1 ++ V1) ∧ Sd c (U1 ++ V1)) := Lib.hid ⟨List.Perm.refl _, by rw [HE.out.2.2.1]; simp only [List.append_nil, List.nil_append]; exact (sd_app.1 (HF.out.2.1 ▸ HX.out.2.2.2.2.2.1)).1⟩
              clear nV1 lnV1 nU2 lnU2 nV2 lnV2 nU1 lnU1 hlU1 hlV1 hlU2 hlV2 hls
              go_wp2_with (first | ((with_reducible refine (HROT.out _ HSW.out).mono ?_); rintro e w3 hp; obtain ⟨rfl, hs3⟩ := s_out hp; have HS3 := Lib.hid (HSW.out.trans hs3); clear hp hs3) | ((with_reducible refine (H2.out _ (U1 ++ V1) (by rw [HM.out.1.length_eq, List.length_append]) (by have h := HS3.out; simpa using h)).mono ?_); rintro e w5 hp; obtain ⟨rfl, d5, ⟨M2, hd5, hp5, hsd5⟩, hs5⟩ := m_out hp; have HM2 : Hid (M2.Perm (U2 ++ V2) ∧ Sd c M2) := Lib.hid ⟨hp5, hsd5⟩; have HS5 : Hid (SW w g (P ++ (U1 ++ V1) ++ M2 ++ S) w5) := Lib.hid (by rw [← hd5]; exact SW.trans (d := P ++ (U1 ++ V1) ++ (U2 ++ V2 ++ S)) (by have h := HS3.out; simpa using h) hs5); clear hp hs5 hd5 hp5 hsd5))
              all_goals
                go_end0
                refine ⟨P ++ (U1 ++ V1) ++ M2 ++ S, ?_, rfl, HS5.out⟩
                rw [HF.out.1, HF.out.2.1]
                exact sym_fin (HF.out.1 ▸ HX.out.2.2.2.2.1) (HF.out.2.1 ▸ HX.out.2.2.2.2.2.1) HF.out.2.2.2.2.1 HF.out.2.2.2.2.2 HM.out.1 HM.out.2 HM2.out.1 HM2.out.2
          · have lnU1 : 0 < U1.length := List.length_pos_iff.2 nU1
            by_cases nV2 : V2 = []
            · have lnV2 : V2.length = 0 := by rw [nV2]; rfl
              have HE : Hid (True ∧ True ∧ True ∧ V2 = []) := Lib.hid ⟨True.intro, True.intro, True.intro, nV2⟩
              have HROT := Lib.hid fun W hW => HROT.out W hW nU2 nV1
              have H1 := Lib.hid fun W hW => H1.out W hW nU1 nV1
              have t1 : (s : Int) < (m : Int) := by omega
              have t2 : (m : Int) < (e : Int) := by omega
              have t3 : (a : Int) < (s : Int) := by omega
              have t4 : (s : Int) < (mid : Int) := by omega
              have t5 : (mid : Int) < (e : Int) := by omega
              have t6 : ¬ (e : Int) < (b : Int) := by omega
              have HM2 : Hid ((U2 ++ V2).Perm (U2 ++ V2) ∧ Sd c (U2 ++ V2)) := Lib.hid ⟨List.Perm.refl _, by rw [HE.out.2.2.2]; simp only [List.append_nil, List.nil_append]; exact (sd_app.1 (HF.out.1 ▸ HX.out.2.2.2.2.1)).2.1⟩
              clear nV1 lnV1 nU2 lnU2 nV2 lnV2 nU1 lnU1 hlU1 hlV1 hlU2 hlV2 hls
              go_wp2_with (first | ((with_reducible refine (HROT.out _ HSW.out).mono ?_); rintro e w3 hp; obtain ⟨rfl, hs3⟩ := s_out hp; have HS3 := Lib.hid (HSW.out.trans hs3); clear hp hs3) | ((with_reducible refine (H1.out _ HS3.out).mono ?_); rintro e w4 hp; obtain ⟨rfl, d4, ⟨M1, hd4, hp4, hsd4⟩, hs4⟩ := m_out hp; have HM : Hid (M1.Perm (U1 ++ V1) ∧ Sd c M1) := Lib.hid ⟨hp4, hsd4⟩; have HS4 : Hid (SW w g (P ++ M1 ++ (U2 ++ V2 ++ S)) w4) := Lib.hid (by rw [← hd4]; exact HS3.out.trans hs4); clear hp hs4 hd4 hp4 hsd4))
              all_goals
                go_end0
                refine ⟨P ++ M1 ++ (U2 ++ V2) ++ S, ?_, rfl, (by have h := HS4.out; simpa using h)⟩
                rw [HF.out.1, HF.out.2.1]
                exact sym_fin (HF.out.1 ▸ HX.out.2.2.2.2.1) (HF.out.2.1 ▸ HX.out.2.2.2.2.2.1) HF.out.2.2.2.2.1 HF.out.2.2.2.2.2 HM.out.1 HM.out.2 HM2.out.1 HM2.out.2
            · have lnV2 : 0 < V2.length := List.length_pos_iff.2 nV2
              have HE : Hid (True ∧ True ∧ True ∧ True) := Lib.hid ⟨True.intro, True.intro, True.intro, True.intro⟩
              have HROT := Lib.hid fun W hW => HROT.out W hW nU2 nV1
              have H1 := Lib.hid fun W hW => H1.out W hW nU1 nV1
              have H2 := Lib.hid fun W M hM hW => H2.out W M hM hW nU2 nV2
              have t1 : (s : Int) < (m : Int) := by omega
              have t2 : (m : Int) < (e : Int) := by omega
              have t3 : (a : Int) < (s : Int) := by omega
              have t4 : (s : Int) < (mid : Int) := by omega
              have t5 : (mid : Int) < (e : Int) := by omega
              have t6 : (e : Int) < (b : Int) := by omega
              clear nV1 lnV1 nU2 lnU2 nV2 lnV2 nU1 lnU1 hlU1 hlV1 hlU2 hlV2 hls
              go_wp2_with (first | ((with_reducible refine (HROT.out _ HSW.out).mono ?_); rintro e w3 hp; obtain ⟨rfl, hs3⟩ := s_out hp; have HS3 := Lib.hid (HSW.out.trans hs3); clear hp hs3) | ((with_reducible refine (H1.out _ HS3.out).mono ?_); rintro e w4 hp; obtain ⟨rfl, d4, ⟨M1, hd4, hp4, hsd4⟩, hs4⟩ := m_out hp; have HM : Hid (M1.Perm (U1 ++ V1) ∧ Sd c M1) := Lib.hid ⟨hp4, hsd4⟩; have HS4 : Hid (SW w g (P ++ M1 ++ (U2 ++ V2 ++ S)) w4) := Lib.hid (by rw [← hd4]; exact HS3.out.trans hs4); clear hp hs4 hd4 hp4 hsd4) | ((with_reducible refine (H2.out _ M1 (by rw [HM.out.1.length_eq, List.length_append]) HS4.out).mono ?_); rintro e w5 hp; obtain ⟨rfl, d5, ⟨M2, hd5, hp5, hsd5⟩, hs5⟩ := m_out hp; have HM2 : Hid (M2.Perm (U2 ++ V2) ∧ Sd c M2) := Lib.hid ⟨hp5, hsd5⟩; have HS5 : Hid (SW w g (P ++ M1 ++ M2 ++ S) w5) := Lib.hid (by rw [← hd5]; exact SW.trans (d := P ++ M1 ++ (U2 ++ V2 ++ S)) HS4.out hs5); clear hp hs5 hd5 hp5 hsd5))
              all_goals
                go_end0
                refine ⟨P ++ M1 ++ M2 ++ S, ?_, rfl, HS5.out⟩
                rw [HF.out.1, HF.out.2.1]
                exact sym_fin (HF.out.1 ▸ HX.out.2.2.2.2.1) (HF.out.2.1 ▸ HX.out.2.2.2.2.2.1) HF.out.2.2.2.2.1 HF.out.2.2.2.2.2 HM.out.1 HM.out.2 HM2.out.1 HM2.out.2
set_option maxRecDepth 1000000 in
set_option maxHeartbeats 16000000 in
theorem sym_genB (c : Int → Int → Int) (hc : Cmp c) (C1 C2 q : Nat) (P U V S : List Int) (g N cN a m b mid n lo hi : Nat) (hN : N = (P ++ U ++ V ++ S).length) (hN2 : N ≤ 1000000) (hcN : N ≤ cN) (hm : cN ≤ maxLen) (ha : a = P.length) (hma : m = a + U.length) (hb : b = m + V.length) (hU2 : 2 ≤ U.length) (hV2 : 2 ≤ V.length) (hU : Sd c U) (hV : Sd c V) (hlt : ∀ u ∈ U, ∀ v ∈ V, u < v) (hin : inL q (U ++ V)) (w : World) (hw : Blk w g (iv (P ++ U ++ V ++ S)) 3) (hcm : CmpOK c C1 C2 q g w)
    (hmid : mid = (a + b) / 2) (hn : n = mid + m) (hmm : m ≤ mid) (hlo : lo = a) (hhi : hi = m) (hIH : SymIH c C1 C2 q g N cN (U.length + V.length)) :
    Calls Try.prog 71 #[.slice (some ⟨g, 0, none⟩) N cN, .int .i64 (a : Int), .int .i64 (m : Int), .int .i64 (b : Int), .func (.func 52) #[] #[.pointer (some ⟨C1, 0, none⟩), .pointer (some ⟨C2, 0, none⟩)]] w (MPost w g (MergeQ c P U V S)) := by
  have hm' : cN ≤ 9223372036854775807 := by unfold maxLen at hm; omega
  have HW := Lib.hid (SW.start hw)
  have HCM := Lib.hid hcm
  have HCP := Lib.hid hc
  have hbN : b ≤ N := by rw [hb, hma, ha, hN]; simp only [List.length_append]; omega
  obtain ⟨d1, hd1⟩ : ∃ d, d = U.length := ⟨_, rfl⟩
  obtain ⟨d2, hd2⟩ : ∃ d, d = V.length := ⟨_, rfl⟩
  have e1 : (m : Int) - (a : Int) = (d1 : Int) := by omega
  have e0 : ((d1 : Int) == 1) = false := beq_eq_false_iff_ne.2 (by omega)
  have e3 : (b : Int) - (m : Int) = (d2 : Int) := by omega
  have e4 : ((d2 : Int) == 1) = false := beq_eq_false_iff_ne.2 (by omega)
  have ham : a + 2 ≤ m := by omega
  have hmb : m + 2 ≤ b := by omega
  have hm3 : ((a : Int) + (b : Int)).toNat / 2 = mid := by omega
  have hm2 : (((a : Int) + (b : Int)) / 2) = (mid : Int) := by omega
  have e5 : (mid : Int) + (m : Int) = (n : Int) := by omega
  obtain ⟨p, hp⟩ : ∃ p, p + 1 = n := ⟨n - 1, by omega⟩
  have e6 : (n : Int) - 1 = (p : Int) := by omega
  obtain ⟨hab1, hab2⟩ : a < mid ∧ mid < b := by omega
  have hmN : mid < N := by omega
  have hnN : n ≤ 2 * N := by omega
  
  have hcond : ¬ (mid : Int) < (m : Int) := by omega
  obtain ⟨hlh1, hlh2, hlh3, hlh4⟩ : a ≤ lo ∧ lo ≤ hi ∧ hi ≤ m ∧ hi ≤ mid := by omega
  obtain ⟨hnb1, hnb2⟩ : n ≤ lo + b ∧ m + hi ≤ n := by omega
  obtain ⟨D, hD⟩ : ∃ D, D = P ++ U ++ V ++ S := ⟨_, rfl⟩
  have HX : Hid (N = D.length ∧ a = P.length ∧ m = a + U.length ∧ b = m + V.length ∧ Sd c U ∧ Sd c V ∧ (∀ u ∈ U, ∀ v ∈ V, u < v) ∧ (inL q U ∧ inL q V) ∧ D = P ++ U ++ V ++ S) := Lib.hid ⟨by rw [hD]; exact hN, ha, hma, hb, hU, hV, hlt, inL_app.1 hin, hD⟩
  have HSW0 : Hid (SW w g D w) := Lib.hid (by rw [hD]; exact HW.out)
  have HIH := Lib.hid hIH
  have hlow : lo = a := hlo
  have hhigh : hi = m := hhi
  have HLH : Hid (lo = a ∧ hi = m) := Lib.hid ⟨hlo, hhi⟩
  clear hN ha hma hb hU hV hlt hin hw hcm hc hD HW hU2 hV2 hIH hlo hhi hlow hhigh hd1 hd2 hmid hmm hn hp 
  
  go_enter Try.func71, Try.ntmps71
  
  simp only [show hi = m from HLH.out.2, show lo = a from HLH.out.1] at hlh1 hlh2 hlh3 hlh4 hnb1 hnb2
  go_wp2_with fail
  go_loopg [20, 21, 23] (n + 1) (fun gg s20 s21 s23 wr => ∃ (i j : Nat), a ≤ i ∧ i ≤ j ∧ j ≤ m ∧ j ≤ i + gg ∧ s20 = .int .i64 (i : Int) ∧ s21 = .int .i64 (j : Int) ∧ Hid ((i = a ∨ ∃ Ua x Ub Va y Vb, U = Ua ++ x :: Ub ∧ V = Va ++ y :: Vb ∧ Ua.length + a + 1 = i ∧ Va.length + m + i = n ∧ ¬ c y x < 0) ∧ (j = m ∨ ∃ Ua x Ub Va y Vb, U = Ua ++ x :: Ub ∧ V = Va ++ y :: Vb ∧ Ua.length + a = j ∧ Va.length + m + j + 1 = n ∧ c y x < 0) ∧ SW w g D wr))
  case atStart => exact ⟨a, m, Nat.le_refl _, by omega, Nat.le_refl _, by omega, rfl, rfl, Lib.hid ⟨.inl rfl, .inl rfl, HSW0.out⟩⟩
  case round =>
    clear HSW0
    obtain ⟨i, j, hmi, hij, hjb, hjg, rfl, rfl, HI⟩ := hrel
    have HSW : Hid (SW w g D wr) := Lib.hid HI.out.2.2
    by_cases hlt : i < j
    · obtain ⟨h, hh⟩ : ∃ x, x = (i + j) / 2 := ⟨_, rfl⟩
      have hq1 : i ≤ h ∧ h < j := by omega
      have hq2 : (((i : Int) + (j : Int)) / 2) = (h : Int) := by omega
      have hq3 : ((i : Int) + (j : Int)).toNat / 2 = h := by omega
      clear hh
      obtain ⟨t, ht⟩ : ∃ t, t + h = p := ⟨p - h, by omega⟩
      have z1 : (p : Int) - (h : Int) = (t : Int) := by omega
      have z2 : IntKind.i64.wrap (t : Int) = (t : Int) := by rw [IntKind.wrap_i64]; omega
      have hhm : a ≤ h ∧ h < m := by omega
      have htm : m ≤ t ∧ t < b := by omega
      have hhN : h < N := by omega
      have htN : t < N := by omega
      obtain ⟨Ua, x, Ub, eU, lU⟩ := split_mid (V := U) (k := h - a) (by have := HX.out.2.2.1; omega)
      obtain ⟨Va, y, Vb, eV, lV⟩ := split_mid (V := V) (k := t - m) (by have := HX.out.2.2.2.1; omega)
      obtain ⟨xn, hxn, hxq⟩ : ∃ z : Nat, x = z ∧ z < q := by have := HX.out.2.2.2.2.2.2.2.1.1 x (by rw [eU]; simp); exact ⟨x.toNat, by omega, by omega⟩
      obtain ⟨yn, hyn, hyq⟩ : ∃ z : Nat, y = z ∧ z < q := by have := HX.out.2.2.2.2.2.2.2.1.2 y (by rw [eV]; simp); exact ⟨y.toNat, by omega, by omega⟩
      have hgh : D.getD h 0 = (xn : Int) := by
        obtain ⟨k1, k2, k3, k4, k5, k6, k7, k8, k9⟩ := HX.out
        rw [k9, ← hxn, eU]
        exact getD_mid' (A := P ++ Ua) (B := Ub ++ V ++ S) (by simp) (by simp only [List.length_append]; omega)
      have hgt : D.getD t 0 = (yn : Int) := by
        obtain ⟨k1, k2, k3, k4, k5, k6, k7, k8, k9⟩ := HX.out
        rw [k9, ← hyn, eV]
        exact getD_mid' (A := P ++ U ++ Va) (B := Vb ++ S) (by simp) (by simp only [List.length_append]; omega)
      have l1 : ∀ p : Wo (SW w g D), p.wo.cell? ⟨g, h, none⟩ = some (.int .i64 (xn : Int)) := fun p => p.ok.cell (by rw [← HX.out.1]; exact hhN) hgh
      have l2 : ∀ p : Wo (SW w g D), p.wo.cell? ⟨g, t, none⟩ = some (.int .i64 (yn : Int)) := fun p => p.ok.cell (by rw [← HX.out.1]; exact htN) hgt
      obtain ⟨r, hr⟩ : ∃ r, r = c (yn : Int) (xn : Int) := ⟨_, rfl⟩
      have HCC : Hid (∀ W, SW w g D W → Calls Try.prog 52 #[.int .i64 (yn : Int), .int .i64 (xn : Int), .pointer (some ⟨C1, 0, none⟩), .pointer (some ⟨C2, 0, none⟩)] W fun e w' => e = .returned (.int .i64 r) ∧ SW w g D w') := Lib.hid (sw_cmp fun W hW => by rw [hr]; exact HCM.out W hW yn xn hyq hxq)
      have HV : Hid (U = Ua ++ x :: Ub ∧ V = Va ++ y :: Vb ∧ Ua.length + a = h ∧ Va.length + m + h + 1 = n ∧ r = c y x) := Lib.hid ⟨eU, eV, by omega, by omega, by rw [hr, hxn, hyn]⟩
      clear hr hgh hgt hxn hyn eU eV lU lV ht
      by_cases hr0 : r < 0
      · have hd3 : decide (r < 0) = true := decide_eq_true hr0
        go_wp2_with fail
        haveI : Nonempty (Wo (SW w g D)) := ⟨⟨_, HSW.out⟩⟩
        refine wp_region_wo (SW w g D) mixedTry (by kernel_rfl) (HSW.out.drewN 1) ?_
        repeat (quiet_step (first | (go_at_call 52; exact calls_wo HCC.out _)))
        refine wpQuiet_nil ?_
        intro w2 hw2
        obtain ⟨⟨w2', hok⟩, hw3⟩ := hw2
        have hw4 : w2 = w2' := hw3
        subst hw4
        have HS2 := Lib.hid hok
        clear hw3 hok
        clear l1 l2
        go_wp2_with fail
        go_roundg (gk - 1)
        case rel => exact ⟨i, h, by omega, by omega, by omega, by omega, rfl, rfl, Lib.hid ⟨HI.out.1, .inr ⟨Ua, x, Ub, Va, y, Vb, HV.out.1, HV.out.2.1, HV.out.2.2.1, HV.out.2.2.2.1, by rw [← HV.out.2.2.2.2]; exact hr0⟩, HS2.out⟩⟩
        case measure => omega
      · have hd3 : decide (r < 0) = false := decide_eq_false hr0
        go_wp2_with fail
        haveI : Nonempty (Wo (SW w g D)) := ⟨⟨_, HSW.out⟩⟩
        refine wp_region_wo (SW w g D) mixedTry (by kernel_rfl) (HSW.out.drewN 1) ?_
        repeat (quiet_step (first | (go_at_call 52; exact calls_wo HCC.out _)))
        refine wpQuiet_nil ?_
        intro w2 hw2
        obtain ⟨⟨w2', hok⟩, hw3⟩ := hw2
        have hw4 : w2 = w2' := hw3
        subst hw4
        have HS2 := Lib.hid hok
        clear hw3 hok
        clear l1 l2
        go_wp2_with fail
        go_roundg (gk - 1)
        case rel => exact ⟨h + 1, j, by omega, by omega, hjb, by omega, by go_num, rfl, Lib.hid ⟨.inr ⟨Ua, x, Ub, Va, y, Vb, HV.out.1, HV.out.2.1, by rw [HV.out.2.2.1], by have := HV.out.2.2.2.1; omega, by rw [← HV.out.2.2.2.2]; exact hr0⟩, HI.out.2.1, HS2.out⟩⟩
        case measure => omega
    · obtain ⟨s, hs⟩ : ∃ s, s = i := ⟨_, rfl⟩
      obtain rfl : i = j := by omega
      subst hs
      obtain ⟨e, he⟩ : ∃ e, e + s = n := ⟨n - s, by omega⟩
      have e8 : (n : Int) - (s : Int) = (e : Int) := by omega
      have hem : m ≤ e ∧ e ≤ b := by omega
      obtain ⟨U1, U2, eU, lU⟩ := split_at U (s - a) (by have := HX.out.2.2.1; omega)
      obtain ⟨V1, V2, eV, lV⟩ := split_at V (e - m) (by have := HX.out.2.2.2.1; omega)
      have hlU1 : U1.length + a = s := by omega
      have hlV1 : V1.length + m = e := by omega
      have hlU2 : U2.length + s = m := by have h1 := HX.out.2.2.1; rw [eU, List.length_append] at h1; omega
      have hlV2 : V2.length + e = b := by have h1 := HX.out.2.2.2.1; rw [eV, List.length_append] at h1; omega
      have hx1 : ∀ u ∈ U1, ∀ v ∈ V2, lt c u v := by
        obtain ⟨k1, k2, k3, k4, k5, k6, k7, k8, k9⟩ := HX.out
        have o1 := HLH.out
        have m1 := HI.out.1
        refine sd_join HCP.out (sd_app.1 (eU ▸ k5)).1 (sd_app.1 (eV ▸ k6)).2.1 (fun x y hx hy => ?_)
        rcases m1 with m1 | ⟨Ua, x', Ub, Va, y', Vb, f1, f2, f3, f4, f5⟩
        · have : U1 = [] := List.eq_nil_of_length_eq_zero (by omega)
          rw [this] at hx; cases hx
        · have g1 := low_last (eU.symm.trans f1) (by omega)
          have g2 := high_head (eV.symm.trans f2) (by omega)
          rw [g1] at hx
          rw [g2] at hy
          obtain rfl := Option.some.inj hx
          obtain rfl := Option.some.inj hy
          exact lt_of_idx HCP.out f5 (k7 x' (by rw [f1]; simp) y' (by rw [f2]; simp))
      have hx2 : ∀ v ∈ V1, ∀ u ∈ U2, lt c v u := by
        obtain ⟨k1, k2, k3, k4, k5, k6, k7, k8, k9⟩ := HX.out
        have o1 := HLH.out
        have m1 := HI.out.2.1
        refine sd_join HCP.out (sd_app.1 (eV ▸ k6)).1 (sd_app.1 (eU ▸ k5)).2.1 (fun y x hy hx => ?_)
        rcases m1 with m1 | ⟨Ua, x', Ub, Va, y', Vb, f1, f2, f3, f4, f5⟩
        · have : U2 = [] := List.eq_nil_of_length_eq_zero (by omega)
          rw [this] at hx; cases hx
        · have g1 := low_last (eV.symm.trans f2) (by omega)
          have g2 := high_head (eU.symm.trans f1) (by omega)
          rw [g1] at hy
          rw [g2] at hx
          obtain rfl := Option.some.inj hx
          obtain rfl := Option.some.inj hy
          exact .inl f5
      have HF : Hid (U = U1 ++ U2 ∧ V = V1 ++ V2 ∧ U1.length + a = s ∧ V1.length + m = e ∧ (∀ u ∈ U1, ∀ v ∈ V2, lt c u v) ∧ (∀ v ∈ V1, ∀ u ∈ U2, lt c v u)) := Lib.hid ⟨eU, eV, hlU1, hlV1, hx1, hx2⟩
      have hPM : (P ++ U1 ++ V1).length = mid := by have := HX.out.2.1; simp only [List.length_append]; omega
      have HROT : Hid (∀ W, SW w g D W → U2 ≠ [] → V1 ≠ [] → Calls Try.prog 73 #[.slice (some ⟨g, 0, none⟩) N cN, .int .i64 (s : Int), .int .i64 (m : Int), .int .i64 (e : Int), .func (.func 52) #[] #[.pointer (some ⟨C1, 0, none⟩), .pointer (some ⟨C2, 0, none⟩)]] W (SPost W g (P ++ U1 ++ V1 ++ (U2 ++ V2 ++ S)))) := Lib.hid (fun W hW n1 n2 => by
        obtain ⟨k1, k2, k3, k4, k5, k6, k7, k8, k9⟩ := HX.out
        have eD : D = (P ++ U1) ++ U2 ++ V1 ++ (V2 ++ S) := by rw [k9, eU, eV]; simp
        rw [eD] at hW
        have h := rot_any (.func (.func 52) #[] #[.pointer (some ⟨C1, 0, none⟩), .pointer (some ⟨C2, 0, none⟩)]) (P ++ U1) U2 V1 (V2 ++ S) g N cN s m e (by rw [k1, eD]) hN2 hcN hm (by rw [List.length_append]; omega) (by simp only [List.length_append]; omega) (by simp only [List.length_append]; omega) n1 n2 W hW.1
        simpa using h)
      have H1 : Hid (∀ W, SW w g (P ++ U1 ++ V1 ++ (U2 ++ V2 ++ S)) W → U1 ≠ [] → V1 ≠ [] → Calls Try.prog 71 #[.slice (some ⟨g, 0, none⟩) N cN, .int .i64 (a : Int), .int .i64 (s : Int), .int .i64 (mid : Int), .func (.func 52) #[] #[.pointer (some ⟨C1, 0, none⟩), .pointer (some ⟨C2, 0, none⟩)]] W (MPost W g (MergeQ c P U1 V1 (U2 ++ V2 ++ S)))) := Lib.hid (fun W hW n1 n2 => by
        obtain ⟨k1, k2, k3, k4, k5, k6, k7, k8, k9⟩ := HX.out
        exact HIH.out P U1 V1 (U2 ++ V2 ++ S) a s mid W (by rw [eU, eV, List.length_append, List.length_append]; omega) (by rw [k1, k9, eU, eV]; simp only [List.length_append]; omega) k2 (by omega) (by omega) n1 n2 (sd_app.1 (eU ▸ k5)).1 (sd_app.1 (eV ▸ k6)).1 (fun u hu v hv => k7 u (by rw [eU]; simp [hu]) v (by rw [eV]; simp [hv])) (inL_app.2 ⟨(inL_app.1 (eU ▸ k8.1)).1, (inL_app.1 (eV ▸ k8.2)).1⟩) hW.1 (HCM.out.next hW.2))
      have H2 : Hid (∀ W M1, M1.length = U1.length + V1.length → SW w g (P ++ M1 ++ (U2 ++ V2 ++ S)) W → U2 ≠ [] → V2 ≠ [] → Calls Try.prog 71 #[.slice (some ⟨g, 0, none⟩) N cN, .int .i64 (mid : Int), .int .i64 (e : Int), .int .i64 (b : Int), .func (.func 52) #[] #[.pointer (some ⟨C1, 0, none⟩), .pointer (some ⟨C2, 0, none⟩)]] W (MPost W g (MergeQ c (P ++ M1) U2 V2 S))) := Lib.hid (fun W M1 hM hW n1 n2 => by
        obtain ⟨k1, k2, k3, k4, k5, k6, k7, k8, k9⟩ := HX.out
        have h1 : (P ++ M1).length = mid := by rw [← hPM]; simp only [List.length_append]; omega
        exact HIH.out (P ++ M1) U2 V2 S mid e b W (by rw [eU, eV, List.length_append, List.length_append]; omega) (by rw [k1, k9, eU, eV]; simp only [List.length_append]; omega) h1.symm (by omega) (by omega) n1 n2 (sd_app.1 (eU ▸ k5)).2.1 (sd_app.1 (eV ▸ k6)).2.1 (fun u hu v hv => k7 u (by rw [eU]; simp [hu]) v (by rw [eV]; simp [hv])) (inL_app.2 ⟨(inL_app.1 (eU ▸ k8.1)).2, (inL_app.1 (eV ▸ k8.2)).2⟩) (by have h := hW.1; simpa using h) (HCM.out.next hW.2))
      have hls : U1.length + V1.length + a = mid ∧ U2.length + mid = e := by omega
      clear eU eV lU lV hx1 hx2 hPM HI HIH HLH he
      by_cases nV1 : V1 = []
      · have lnV1 : V1.length = 0 := by rw [nV1]; rfl
        have nV2 : V2 ≠ [] := fun h => by rw [h] at hlV2; simp at hlV2; omega
        have lnV2 : 0 < V2.length := List.length_pos_iff.2 nV2
        have nU1 : U1 ≠ [] := fun h => by rw [h] at hlU1; simp at hlU1; omega
        have lnU1 : 0 < U1.length := List.length_pos_iff.2 nU1
        by_cases nU2 : U2 = []
        · have lnU2 : U2.length = 0 := by rw [nU2]; rfl
          have HE : Hid (V1 = [] ∧ U2 = [] ∧ True ∧ True) := Lib.hid ⟨nV1, nU2, True.intro, True.intro⟩
          have t1 : ¬ (s : Int) < (m : Int) := by omega
          have t2 : ¬ (m : Int) < (e : Int) := by omega
          have t3 : (a : Int) < (s : Int) := by omega
          have t4 : ¬ (s : Int) < (mid : Int) := by omega
          have t5 : ¬ (mid : Int) < (e : Int) := by omega
          have t6 : (e : Int) < (b : Int) := by omega
          have HS3 : Hid (SW w g (P ++ U1 ++ V1 ++ (U2 ++ V2 ++ S)) wr) := Lib.hid (by have h := HSW.out; rw [HX.out.2.2.2.2.2.2.2.2, HF.out.1, HF.out.2.1] at h; rw [HE.out.1] at h ⊢; simpa using h)
          have HM : Hid ((U1 ++ V1).Perm (U1 ++ V1) ∧ Sd c (U1 ++ V1)) := Lib.hid ⟨List.Perm.refl _, by rw [HE.out.1]; simp only [List.append_nil, List.nil_append]; exact (sd_app.1 (HF.out.1 ▸ HX.out.2.2.2.2.1)).1⟩
          have HM2 : Hid ((U2 ++ V2).Perm (U2 ++ V2) ∧ Sd c (U2 ++ V2)) := Lib.hid ⟨List.Perm.refl _, by rw [HE.out.2.1]; simp only [List.append_nil, List.nil_append]; exact (sd_app.1 (HF.out.2.1 ▸ HX.out.2.2.2.2.2.1)).2.1⟩
          clear nV1 lnV1 nU2 lnU2 nV2 lnV2 nU1 lnU1 hlU1 hlV1 hlU2 hlV2 hls
          go_wp2_with fail
          all_goals
            go_end0
            refine ⟨P ++ (U1 ++ V1) ++ (U2 ++ V2) ++ S, ?_, rfl, (by have h := HS3.out; simpa using h)⟩
            rw [HF.out.1, HF.out.2.1]
            exact sym_fin (HF.out.1 ▸ HX.out.2.2.2.2.1) (HF.out.2.1 ▸ HX.out.2.2.2.2.2.1) HF.out.2.2.2.2.1 HF.out.2.2.2.2.2 HM.out.1 HM.out.2 HM2.out.1 HM2.out.2
        · have lnU2 : 0 < U2.length := List.length_pos_iff.2 nU2
          have HE : Hid (V1 = [] ∧ True ∧ True ∧ True) := Lib.hid ⟨nV1, True.intro, True.intro, True.intro⟩
          have H2 := Lib.hid fun W M hM hW => H2.out W M hM hW nU2 nV2
          have t1 : (s : Int) < (m : Int) := by omega
          have t2 : ¬ (m : Int) < (e : Int) := by omega
          have t3 : (a : Int) < (s : Int) := by omega
          have t4 : ¬ (s : Int) < (mid : Int) := by omega
          have t5 : (mid : Int) < (e : Int) := by omega
          have t6 : (e : Int) < (b : Int) := by omega
          have HS3 : Hid (SW w g (P ++ U1 ++ V1 ++ (U2 ++ V2 ++ S)) wr) := Lib.hid (by have h := HSW.out; rw [HX.out.2.2.2.2.2.2.2.2, HF.out.1, HF.out.2.1] at h; rw [HE.out.1] at h ⊢; simpa using h)
          have HM : Hid ((U1 ++ V1).Perm (U1 ++ V1) ∧ Sd c (U1 ++ V1)) := Lib.hid ⟨List.Perm.refl _, by rw [HE.out.1]; simp only [List.append_nil, List.nil_append]; exact (sd_app.1 (HF.out.1 ▸ HX.out.2.2.2.2.1)).1⟩
          clear nV1 lnV1 nU2 lnU2 nV2 lnV2 nU1 lnU1 hlU1 hlV1 hlU2 hlV2 hls
          go_wp2_with (first | ((with_reducible refine (H2.out _ (U1 ++ V1) (by rw [HM.out.1.length_eq, List.length_append]) (by have h := HS3.out; simpa using h)).mono ?_); rintro e w5 hp; obtain ⟨rfl, d5, ⟨M2, hd5, hp5, hsd5⟩, hs5⟩ := m_out hp; have HM2 : Hid (M2.Perm (U2 ++ V2) ∧ Sd c M2) := Lib.hid ⟨hp5, hsd5⟩; have HS5 : Hid (SW w g (P ++ (U1 ++ V1) ++ M2 ++ S) w5) := Lib.hid (by rw [← hd5]; exact SW.trans (d := P ++ (U1 ++ V1) ++ (U2 ++ V2 ++ S)) (by have h := HS3.out; simpa using h) hs5); clear hp hs5 hd5 hp5 hsd5))
          all_goals
            go_end0
            refine ⟨P ++ (U1 ++ V1) ++ M2 ++ S, ?_, rfl, HS5.out⟩
            rw [HF.out.1, HF.out.2.1]
            exact sym_fin (HF.out.1 ▸ HX.out.2.2.2.2.1) (HF.out.2.1 ▸ HX.out.2.2.2.2.2.1) HF.out.2.2.2.2.1 HF.out.2.2.2.2.2 HM.out.1 HM.out.2 HM2.out.1 HM2.out.2
      · have lnV1 : 0 < V1.length := List.length_pos_iff.2 nV1
        by_cases nU2 : U2 = []
        · have lnU2 : U2.length = 0 := by rw [nU2]; rfl
          have nU1 : U1 ≠ [] := fun h => by rw [h] at hlU1; simp at hlU1; omega
          have lnU1 : 0 < U1.length := List.length_pos_iff.2 nU1
          by_cases nV2 : V2 = []
          · have lnV2 : V2.length = 0 := by rw [nV2]; rfl
            have HE : Hid (True ∧ U2 = [] ∧ True ∧ V2 = []) := Lib.hid ⟨True.intro, nU2, True.intro, nV2⟩
            have H1 := Lib.hid fun W hW => H1.out W hW nU1 nV1
            have t1 : ¬ (s : Int) < (m : Int) := by omega
            have t2 : (m : Int) < (e : Int) := by omega
            have t3 : (a : Int) < (s : Int) := by omega
            have t4 : (s : Int) < (mid : Int) := by omega
            have t5 : ¬ (mid : Int) < (e : Int) := by omega
            have t6 : ¬ (e : Int) < (b : Int) := by omega
            have HS3 : Hid (SW w g (P ++ U1 ++ V1 ++ (U2 ++ V2 ++ S)) wr) := Lib.hid (by have h := HSW.out; rw [HX.out.2.2.2.2.2.2.2.2, HF.out.1, HF.out.2.1] at h; rw [HE.out.2.1] at h ⊢; simpa using h)
            have HM2 : Hid ((U2 ++ V2).Perm (U2 ++ V2) ∧ Sd c (U2 ++ V2)) := Lib.hid ⟨List.Perm.refl _, by rw [HE.out.2.1]; simp only [List.append_nil, List.nil_append]; exact (sd_app.1 (HF.out.2.1 ▸ HX.out.2.2.2.2.2.1)).2.1⟩
            clear nV1 lnV1 nU2 lnU2 nV2 lnV2 nU1 lnU1 hlU1 hlV1 hlU2 hlV2 hls
            go_wp2_with (first | ((with_reducible refine (H1.out _ HS3.out).mono ?_); rintro e w4 hp; obtain ⟨rfl, d4, ⟨M1, hd4, hp4, hsd4⟩, hs4⟩ := m_out hp; have HM : Hid (M1.Perm (U1 ++ V1) ∧ Sd c M1) := Lib.hid ⟨hp4, hsd4⟩; have HS4 : Hid (SW w g (P ++ M1 ++ (U2 ++ V2 ++ S)) w4) := Lib.hid (by rw [← hd4]; exact HS3.out.trans hs4); clear hp hs4 hd4 hp4 hsd4))
            all_goals
              go_end0
              refine ⟨P ++ M1 ++ (U2 ++ V2) ++ S, ?_, rfl, (by have h := HS4.out; simpa using h)⟩
              rw [HF.out.1, HF.out.2.1]
              exact sym_fin (HF.out.1 ▸ HX.out.2.2.2.2.1) (HF.out.2.1 ▸ HX.out.2.2.2.2.2.1) HF.out.2.2.2.2.1 HF.out.2.2.2.2.2 HM.out.1 HM.out.2 HM2.out.1 HM2.out.2
          · have lnV2 : 0 < V2.length := List.length_pos_iff.2 nV2
            have HE : Hid (True ∧ U2 = [] ∧ True ∧ True) := Lib.hid ⟨True.intro, nU2, True.intro, True.intro⟩
            have H1 := Lib.hid fun W hW => H1.out W hW nU1 nV1
            have t1 : ¬ (s : Int) < (m : Int) := by omega
            have t2 : (m : Int) < (e : Int) := by omega
            have t3 : (a : Int) < (s : Int) := by omega
            have t4 : (s : Int) < (mid : Int) := by omega
            have t5 : ¬ (mid : Int) < (e : Int) := by omega
            have t6 : (e : Int) < (b : Int) := by omega
            have HS3 : Hid (SW w g (P ++ U1 ++ V1 ++ (U2 ++ V2 ++ S)) wr) := Lib.hid (by have h := HSW.out; rw [HX.out.2.2.2.2.2.2.2.2, HF.out.1, HF.out.2.1] at h; rw [HE.out.2.1] at h ⊢; simpa using h)
            have HM2 : Hid ((U2 ++ V2).Perm (U2 ++ V2) ∧ Sd c (U2 ++ V2)) := Lib.hid ⟨List.Perm.refl _, by rw [HE.out.2.1]; simp only [List.append_nil, List.nil_append]; exact (sd_app.1 (HF.out.2.1 ▸ HX.out.2.2.2.2.2.1)).2.1⟩
            clear nV1 lnV1 nU2 lnU2 nV2 lnV2 nU1 lnU1 hlU1 hlV1 hlU2 hlV2 hls
            go_wp2_with (first | ((with_reducible refine (H1.out _ HS3.out).mono ?_); rintro e w4 hp; obtain ⟨rfl, d4, ⟨M1, hd4, hp4, hsd4⟩, hs4⟩ := m_out hp; have HM : Hid (M1.Perm (U1 ++ V1) ∧ Sd c M1) := Lib.hid ⟨hp4, hsd4⟩; have HS4 : Hid (SW w g (P ++ M1 ++ (U2 ++ V2 ++ S)) w4) := Lib.hid (by rw [← hd4]; exact HS3.out.trans hs4); clear hp hs4 hd4 hp4 hsd4))
            all_goals
              go_end0
              refine ⟨P ++ M1 ++ (U2 ++ V2) ++ S, ?_, rfl, (by have h := HS4.out; simpa using h)⟩
              rw [HF.out.1, HF.out.2.1]
              exact sym_fin (HF.out.1 ▸ HX.out.2.2.2.2.1) (HF.out.2.1 ▸ HX.out.2.2.2.2.2.1) HF.out.2.2.2.2.1 HF.out.2.2.2.2.2 HM.out.1 HM.out.2 HM2.out.1 HM2.out.2
        · have lnU2 : 0 < U2.length := List.length_pos_iff.2 nU2
          by_cases nU1 : U1 = []
          · have lnU1 : U1.length = 0 := by rw [nU1]; rfl
            by_cases nV2 : V2 = []
            · have lnV2 : V2.length = 0 := by rw [nV2]; rfl
              have HE : Hid (True ∧ True ∧ U1 = [] ∧ V2 = []) := Lib.hid ⟨True.intro, True.intro, nU1, nV2⟩
              have HROT := Lib.hid fun W hW => HROT.out W hW nU2 nV1
              have t1 : (s : Int) < (m : Int) := by omega
              have t2 : (m : Int) < (e : Int) := by omega
              have t3 : ¬ (a : Int) < (s : Int) := by omega
              have t4 : (s : Int) < (mid : Int) := by omega
              have t5 : (mid : Int) < (e : Int) := by omega
              have t6 : ¬ (e : Int) < (b : Int) := by omega
              have HM : Hid ((U1 ++ V1).Perm (U1 ++ V1) ∧ Sd c (U1 ++ V1)) := Lib.hid ⟨List.Perm.refl _, by rw [HE.out.2.2.1]; simp only [List.append_nil, List.nil_append]; exact (sd_app.1 (HF.out.2.1 ▸ HX.out.2.2.2.2.2.1)).1⟩
              have HM2 : Hid ((U2 ++ V2).Perm (U2 ++ V2) ∧ Sd c (U2 ++ V2)) := Lib.hid ⟨List.Perm.refl _, by rw [HE.out.2.2.2]; simp only [List.append_nil, List.nil_append]; exact (sd_app.1 (HF.out.1 ▸ HX.out.2.2.2.2.1)).2.1⟩
              clear nV1 lnV1 nU2 lnU2 nV2 lnV2 nU1 lnU1 hlU1 hlV1 hlU2 hlV2 hls
              go_wp2_with (first | ((with_reducible refine (HROT.out _ HSW.out).mono ?_); rintro e w3 hp; obtain ⟨rfl, hs3⟩ := s_out hp; have HS3 := Lib.hid (HSW.out.trans hs3); clear hp hs3))
              all_goals
                go_end0
                refine ⟨P ++ (U1 ++ V1) ++ (U2 ++ V2) ++ S, ?_, rfl, (by have h := HS3.out; simpa using h)⟩
                rw [HF.out.1, HF.out.2.1]
                exact sym_fin (HF.out.1 ▸ HX.out.2.2.2.2.1) (HF.out.2.1 ▸ HX.out.2.2.2.2.2.1) HF.out.2.2.2.2.1 HF.out.2.2.2.2.2 HM.out.1 HM.out.2 HM2.out.1 HM2.out.2
            · have lnV2 : 0 < V2.length := List.length_pos_iff.2 nV2
              have HE : Hid (True ∧ True ∧ U1 = [] ∧ True) := Lib.hid ⟨True.intro, True.intro, nU1, True.intro⟩
              have HROT := Lib.hid fun W hW => HROT.out W hW nU2 nV1
              have H2 := Lib.hid fun W M hM hW => H2.out W M hM hW nU2 nV2
              have t1 : (s : Int) < (m : Int) := by omega
              have t2 : (m : Int) < (e : Int) := by omega
              have t3 : ¬ (a : Int) < (s : Int) := by omega
              have t4 : (s : Int) < (mid : Int) := by omega
              have t5 : (mid : Int) < (e : Int) := by omega
              have t6 : (e : Int) < (b : Int) := by omega
              have HM : Hid ((U1 ++ V1).Perm (U1 ++ V1) ∧ Sd c (U1 ++ V1)) := Lib.hid ⟨List.Perm.refl _, by rw [HE.out.2.2.1]; simp only [List.append_nil, List.nil_append]; exact (sd_app.1 (HF.out.2.1 ▸ HX.out.2.2.2.2.2.1)).1⟩
              clear nV1 lnV1 nU2 lnU2 nV2 lnV2 nU1 lnU1 hlU1 hlV1 hlU2 hlV2 hls
              go_wp2_with (first | ((with_reducible refine (HROT.out _ HSW.out).mono ?_); rintro e w3 hp; obtain ⟨rfl, hs3⟩ := s_out hp; have HS3 := Lib.hid (HSW.out.trans hs3); clear hp hs3) | ((with_reducible refine (H2.out _ (U1 ++ V1) (by rw [HM.out.1.length_eq, List.length_append]) (by have h := HS3.out; simpa using h)).mono ?_); rintro e w5 hp; obtain ⟨rfl, d5, ⟨M2, hd5, hp5, hsd5⟩, hs5⟩ := m_out hp; have HM2 : Hid (M2.Perm (U2 ++ V2) ∧ Sd c M2) := Lib.hid ⟨hp5, hsd5⟩; have HS5 : Hid (SW w g (P ++ (U1 ++ V1) ++ M2 ++ S) w5) := Lib.hid (by rw [← hd5]; exact SW.trans (d := P ++ (U1 ++ V1) ++ (U2 ++ V2 ++ S)) (by have h := HS3.out; simpa using h) hs5); clear hp hs5 hd5 hp5 hsd5))
              all_goals
                go_end0
                refine ⟨P ++ (U1 ++ V1) ++ M2 ++ S, ?_, rfl, HS5.out⟩
                rw [HF.out.1, HF.out.2.1]
                exact sym_fin (HF.out.1 ▸ HX.out.2.2.2.2.1) (HF.out.2.1 ▸ HX.out.2.2.2.2.2.1) HF.out.2.2.2.2.1 HF.out.2.2.2.2.2 HM.out.1 HM.out.2 HM2.out.1 HM2.out.2
          · have lnU1 : 0 < U1.length := List.length_pos_iff.2 nU1
            by_cases nV2 : V2 = []
            · have lnV2 : V2.length = 0 := by rw [nV2]; rfl
              have HE : Hid (True ∧ True ∧ True ∧ V2 = []) := Lib.hid ⟨True.intro, True.intro, True.intro, nV2⟩
              have HROT := Lib.hid fun W hW => HROT.out W hW nU2 nV1
              have H1 := Lib.hid fun W hW => H1.out W hW nU1 nV1
              have t1 : (s : Int) < (m : Int) := by omega
              have t2 : (m : Int) < (e : Int) := by omega
              have t3 : (a : Int) < (s : Int) := by omega
              have t4 : (s : Int) < (mid : Int) := by omega
              have t5 : (mid : Int) < (e : Int) := by omega
              have t6 : ¬ (e : Int) < (b : Int) := by omega
              have HM2 : Hid ((U2 ++ V2).Perm (U2 ++ V2) ∧ Sd c (U2 ++ V2)) := Lib.hid ⟨List.Perm.refl _, by rw [HE.out.2.2.2]; simp only [List.append_nil, List.nil_append]; exact (sd_app.1 (HF.out.1 ▸ HX.out.2.2.2.2.1)).2.1⟩
              clear nV1 lnV1 nU2 lnU2 nV2 lnV2 nU1 lnU1 hlU1 hlV1 hlU2 hlV2 hls
              go_wp2_with (first | ((with_reducible refine (HROT.out _ HSW.out).mono ?_); rintro e w3 hp; obtain ⟨rfl, hs3⟩ := s_out hp; have HS3 := Lib.hid (HSW.out.trans hs3); clear hp hs3) | ((with_reducible refine (H1.out _ HS3.out).mono ?_); rintro e w4 hp; obtain ⟨rfl, d4, ⟨M1, hd4, hp4, hsd4⟩, hs4⟩ := m_out hp; have HM : Hid (M1.Perm (U1 ++ V1) ∧ Sd c M1) := Lib.hid ⟨hp4, hsd4⟩; have HS4 : Hid (SW w g (P ++ M1 ++ (U2 ++ V2 ++ S)) w4) := Lib.hid (by rw [← hd4]; exact HS3.out.trans hs4); clear hp hs4 hd4 hp4 hsd4))
              all_goals
                go_end0
                refine ⟨P ++ M1 ++ (U2 ++ V2) ++ S, ?_, rfl, (by have h := HS4.out; simpa using h)⟩
                rw [HF.out.1, HF.out.2.1]
                exact sym_fin (HF.out.1 ▸ HX.out.2.2.2.2.1) (HF.out.2.1 ▸ HX.out.2.2.2.2.2.1) HF.out.2.2.2.2.1 HF.out.2.2.2.2.2 HM.out.1 HM.out.2 HM2.out.1 HM2.out.2
            · have lnV2 : 0 < V2.length := List.length_pos_iff.2 nV2
              have HE : Hid (True ∧ True ∧ True ∧ True) := Lib.hid ⟨True.intro, True.intro, True.intro, True.intro⟩
              have HROT := Lib.hid fun W hW => HROT.out W hW nU2 nV1
              have H1 := Lib.hid fun W hW => H1.out W hW nU1 nV1
              have H2 := Lib.hid fun W M hM hW => H2.out W M hM hW nU2 nV2
              have t1 : (s : Int) < (m : Int) := by omega
              have t2 : (m : Int) < (e : Int) := by omega
              have t3 : (a : Int) < (s : Int) := by omega
              have t4 : (s : Int) < (mid : Int) := by omega
              have t5 : (mid : Int) < (e : Int) := by omega
              have t6 : (e : Int) < (b : Int) := by omega
              clear nV1 lnV1 nU2 lnU2 nV2 lnV2 nU1 lnU1 hlU1 hlV1 hlU2 hlV2 hls
              go_wp2_with (first | ((with_reducible refine (HROT.out _ HSW.out).mono ?_); rintro e w3 hp; obtain ⟨rfl, hs3⟩ := s_out hp; have HS3 := Lib.hid (HSW.out.trans hs3); clear hp hs3) | ((with_reducible refine (H1.out _ HS3.out).mono ?_); rintro e w4 hp; obtain ⟨rfl, d4, ⟨M1, hd4, hp4, hsd4⟩, hs4⟩ := m_out hp; have HM : Hid (M1.Perm (U1 ++ V1) ∧ Sd c M1) := Lib.hid ⟨hp4, hsd4⟩; have HS4 : Hid (SW w g (P ++ M1 ++ (U2 ++ V2 ++ S)) w4) := Lib.hid (by rw [← hd4]; exact HS3.out.trans hs4); clear hp hs4 hd4 hp4 hsd4) | ((with_reducible refine (H2.out _ M1 (by rw [HM.out.1.length_eq, List.length_append]) HS4.out).mono ?_); rintro e w5 hp; obtain ⟨rfl, d5, ⟨M2, hd5, hp5, hsd5⟩, hs5⟩ := m_out hp; have HM2 : Hid (M2.Perm (U2 ++ V2) ∧ Sd c M2) := Lib.hid ⟨hp5, hsd5⟩; have HS5 : Hid (SW w g (P ++ M1 ++ M2 ++ S) w5) := Lib.hid (by rw [← hd5]; exact SW.trans (d := P ++ M1 ++ (U2 ++ V2 ++ S)) HS4.out hs5); clear hp hs5 hd5 hp5 hsd5))
              all_goals
                go_end0
                refine ⟨P ++ M1 ++ M2 ++ S, ?_, rfl, HS5.out⟩
                rw [HF.out.1, HF.out.2.1]
                exact sym_fin (HF.out.1 ▸ HX.out.2.2.2.2.1) (HF.out.2.1 ▸ HX.out.2.2.2.2.2.1) HF.out.2.2.2.2.1 HF.out.2.2.2.2.2 HM.out.1 HM.out.2 HM2.out.1 HM2.out.2
end Go.Proofs.Ytalladdmedmfeaa
