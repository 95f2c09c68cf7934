/-
  slices.symMergeCmpFunc where the right side has one number.
-/
import Derived.Test.YtalladdmedmfeaaKSym
namespace Go.Proofs.Ytalladdmedmfeaa
open Go.RowKit
open Alp
open Col
set_option linter.unusedVariables false
set_option linter.unusedSimpArgs false

set_option maxRecDepth 1000000 in
set_option maxHeartbeats 8000000 in
theorem sym_two (c : Int → Int → Int) (hc : Cmp c) (C1 C2 q : Nat) (P U : List Int) (v : Int) (S : List Int) (g N cN a m b : Nat) (hN : N = (P ++ U ++ [v] ++ S).length) (hN2 : N ≤ 1000000) (hcN : N ≤ cN) (hm : cN ≤ maxLen) (ha : a = P.length) (hma : m = a + U.length) (hb : b = m + 1) (hU2 : 2 ≤ U.length) (hU : Sd c U) (hlt : ∀ u ∈ U, u < v) (hin : inL q (v :: U)) (w : World) (hw : Blk w g (iv (P ++ U ++ [v] ++ S)) 3) (hcm : CmpOK c C1 C2 q g w) :
    Calls Try.prog 71 #[.slice (some ⟨g, 0, none⟩) N cN, .int .i64 (a : Int), .int .i64 (m : Int), .int .i64 (b : Int), .func (.func 52) #[] #[.pointer (some ⟨C1, 0, none⟩), .pointer (some ⟨C2, 0, none⟩)]] w (MPost w g (MergeQ c P U [v] S)) := by
  have hm' : cN ≤ 9223372036854775807 := by unfold maxLen at hm; omega
  have HW := Lib.hid (SW.start hw)
  have HCM := Lib.hid hcm
  have HCP := Lib.hid hc
  have hmN : m < N := by rw [hma, ha, hN]; simp only [List.length_append, List.length_cons, List.length_nil]; omega
  obtain ⟨d, hd⟩ : ∃ d, d = U.length := ⟨_, rfl⟩
  have e1 : (m : Int) - (a : Int) = (d : Int) := by omega
  have e0 : ((d : Int) == 1) = false := beq_eq_false_iff_ne.2 (by omega)
  have e2 : (b : Int) - (m : Int) = 1 := by omega
  have ham : a ≤ m := by omega
  obtain ⟨vn, hvn, hvq⟩ : ∃ x : Nat, v = x ∧ x < q := by have := hin v (by simp); exact ⟨v.toNat, by omega, by omega⟩
  obtain ⟨D, hD⟩ : ∃ D, D = P ++ U ++ [v] ++ S := ⟨_, rfl⟩
  have HX : Hid (N = D.length ∧ a = P.length ∧ m = a + U.length ∧ Sd c U ∧ (∀ u ∈ U, u < v) ∧ inL q U ∧ v = vn ∧ D = P ++ U ++ [v] ++ S) := Lib.hid ⟨by rw [hD]; exact hN, ha, hma, hU, hlt, fun x hx => hin x (by simp [hx]), hvn, hD⟩
  have HSW0 : Hid (SW w g D w) := Lib.hid (by rw [hD]; exact HW.out)
  have HGU : Hid (D.getD m 0 = (vn : Int)) := Lib.hid (by rw [hD, ← hvn]; exact getD_mid' (A := P ++ U) (B := S) (by simp) (by rw [List.length_append, hma, ha]))
  clear hN ha hma hU hlt hin hw hcm hc hvn hD HW hd hb hU2
  go_enter Try.func71, Try.ntmps71
  go_wp2_with fail
  go_loopg [14, 15, 16] (m - a) (fun gg s10 s11 s12 wr => ∃ (i j : Nat), a ≤ i ∧ i ≤ j ∧ j ≤ m ∧ j ≤ i + gg ∧ s10 = .int .i64 (i : Int) ∧ s11 = .int .i64 (j : Int) ∧ Hid ((i = a ∨ ∃ Va x Vb, U = Va ++ x :: Vb ∧ Va.length + a + 1 = i ∧ ¬ c v x < 0) ∧ (j = m ∨ ∃ Va x Vb, U = Va ++ x :: Vb ∧ Va.length + a = j ∧ c v x < 0) ∧ SW w g D wr))
  case atStart => exact ⟨a, m, Nat.le_refl _, ham, Nat.le_refl _, by omega, rfl, rfl, Lib.hid ⟨.inl rfl, .inl rfl, HSW0.out⟩⟩
  case round =>
    clear HSW0
    obtain ⟨i, j, hmi, hij, hjb, hjg, rfl, rfl, HI⟩ := hrel
    have HSW : Hid (SW w g D wr) := Lib.hid HI.out.2.2
    by_cases hlt : i < j
    · obtain ⟨h, hh⟩ : ∃ x, x = (i + j) / 2 := ⟨_, rfl⟩
      have hm1 : i ≤ h ∧ h < j := by omega
      have hm2 : (((i : Int) + (j : Int)) / 2) = (h : Int) := by omega
      have hm3 : ((i : Int) + (j : Int)).toNat / 2 = h := by omega
      clear hh
      have hhm : a ≤ h := by omega
      have hhb : h < m := by omega
      have hhN : h < N := by omega
      obtain ⟨Va, x, Vb, eV, lV⟩ := split_mid (V := U) (k := h - a) (by have := HX.out.2.2.1; omega)
      obtain ⟨xn, hxn, hxq⟩ : ∃ y : Nat, x = y ∧ y < q := by have := HX.out.2.2.2.2.2.1 x (by rw [eV]; simp); exact ⟨x.toNat, by omega, by omega⟩
      have hgh : D.getD h 0 = (xn : Int) := by
        obtain ⟨k1, k2, k3, k4, k5, k6, k7, k8⟩ := HX.out
        rw [k8, ← hxn, eV]
        exact getD_mid' (A := P ++ Va) (B := Vb ++ [v] ++ S) (by simp) (by simp only [List.length_append]; omega)
      have l1 : ∀ p : Wo (SW w g D), p.wo.cell? ⟨g, h, none⟩ = some (.int .i64 (xn : Int)) := fun p => p.ok.cell (by rw [← HX.out.1]; exact hhN) hgh
      have l2 : ∀ p : Wo (SW w g D), p.wo.cell? ⟨g, m, none⟩ = some (.int .i64 (vn : Int)) := fun p => p.ok.cell (by rw [← HX.out.1]; exact hmN) HGU.out
      obtain ⟨r, hr⟩ : ∃ r, r = c (vn : Int) (xn : Int) := ⟨_, rfl⟩
      have HCC : Hid (∀ W, SW w g D W → Calls Try.prog 52 #[.int .i64 (vn : Int), .int .i64 (xn : Int), .pointer (some ⟨C1, 0, none⟩), .pointer (some ⟨C2, 0, none⟩)] W fun e w' => e = .returned (.int .i64 r) ∧ SW w g D w') := Lib.hid (sw_cmp fun W hW => by rw [hr]; exact HCM.out W hW vn xn hvq hxq)
      have HV : Hid (U = Va ++ x :: Vb ∧ Va.length + a = h ∧ r = c v x) := Lib.hid ⟨eV, by omega, by rw [hr, hxn, HX.out.2.2.2.2.2.2.1]⟩
      clear hr hgh hxn eV lV
      by_cases hr0 : r < 0
      · have hd3 : decide (r < 0) = true := decide_eq_true hr0
        go_wp2_with fail
        haveI : Nonempty (Wo (SW w g D)) := ⟨⟨_, HSW.out⟩⟩
        refine wp_region_wo (SW w g D) mixedTry (by kernel_rfl) (HSW.out.drewN 1) ?_
        repeat (quiet_step (first | (go_at_call 52; exact calls_wo HCC.out _)))
        refine wpQuiet_nil ?_
        intro w2 hw2
        obtain ⟨⟨w2', hok⟩, hw3⟩ := hw2
        have hw4 : w2 = w2' := hw3
        subst hw4
        have HS2 := Lib.hid hok
        clear hw3 hok
        clear l1 l2
        go_wp2_with fail
        go_roundg (gk - 1)
        case rel => exact ⟨i, h, by omega, by omega, by omega, by omega, rfl, rfl, Lib.hid ⟨HI.out.1, .inr ⟨Va, x, Vb, HV.out.1, HV.out.2.1, by rw [← HV.out.2.2]; exact hr0⟩, HS2.out⟩⟩
        case measure => omega
      · have hd3 : decide (r < 0) = false := decide_eq_false hr0
        go_wp2_with fail
        haveI : Nonempty (Wo (SW w g D)) := ⟨⟨_, HSW.out⟩⟩
        refine wp_region_wo (SW w g D) mixedTry (by kernel_rfl) (HSW.out.drewN 1) ?_
        repeat (quiet_step (first | (go_at_call 52; exact calls_wo HCC.out _)))
        refine wpQuiet_nil ?_
        intro w2 hw2
        obtain ⟨⟨w2', hok⟩, hw3⟩ := hw2
        have hw4 : w2 = w2' := hw3
        subst hw4
        have HS2 := Lib.hid hok
        clear hw3 hok
        clear l1 l2
        go_wp2_with fail
        go_roundg (gk - 1)
        case rel => exact ⟨h + 1, j, by omega, by omega, hjb, by omega, by go_num, rfl, Lib.hid ⟨.inr ⟨Va, x, Vb, HV.out.1, by rw [HV.out.2.1], by rw [← HV.out.2.2]; exact hr0⟩, HI.out.2.1, HS2.out⟩⟩
        case measure => omega
    · obtain rfl : i = j := by omega
      obtain ⟨V1, V2, eV, lV⟩ := split_at U (i - a) (by have := HX.out.2.2.1; omega)
      have HF : Hid (Sd c (V1 ++ v :: V2) ∧ U = V1 ++ V2 ∧ V1.length + a = i) := Lib.hid (by
        obtain ⟨k1, k2, k3, k4, k5, k6, k7, k8⟩ := HX.out
        have q1 : V1.length + a = i := by omega
        have q2 : U.length = V1.length + V2.length := by rw [eV, List.length_append]
        obtain ⟨m1, m2, m3⟩ := HI.out
        refine ⟨?_, eV, q1⟩
        have hs := k4
        rw [eV] at hs
        refine ins_done HCP.out hs (fun x hx => sd_join HCP.out (sd_one v) (sd_app.1 hs).2.1 (fun x y hx hy => ?_) v (by simp) x hx) (fun x hx => ?_)
        · clear m1
          obtain rfl : v = x := by simpa using hx
          rcases m2 with m2 | ⟨Va, y', Vb, e1, e2, e3⟩
          · have : V2 = [] := List.eq_nil_of_length_eq_zero (by omega)
            rw [this] at hy
            cases hy
          · have := high_head (eV.symm.trans e1) (by omega)
            rw [this] at hy
            obtain rfl := Option.some.inj hy
            exact .inl e3
        · clear m2
          rcases m1 with m1 | ⟨Va, y', Vb, e1, e2, e3⟩
          · have : V1 = [] := List.eq_nil_of_length_eq_zero (by omega)
            rw [this] at hx
            cases hx
          · have := low_last (eV.symm.trans e1) (by omega)
            rw [this] at hx
            obtain rfl := Option.some.inj hx
            exact lt_of_idx HCP.out e3 (k5 y' (by rw [e1]; simp)))
      clear eV lV
      go_wp2_with fail
      go_loopg [17] (m - i) (fun gg s13 wr => ∃ (k : Nat) (Va Vb : List Int), i ≤ k ∧ k ≤ i + gg ∧ k ≤ m ∧ s13 = .int .i64 (k : Int) ∧ Hid (V2 = Va ++ Vb ∧ P.length + V1.length + Va.length = k ∧ SW w g (P ++ V1 ++ Va ++ v :: Vb ++ S) wr))
      case atStart => exact ⟨m, V2, [], by omega, by omega, Nat.le_refl _, rfl, Lib.hid ⟨by simp, by have h1 := HX.out.2.2.1; have h2 := HX.out.2.1; have h3 := congrArg List.length HF.out.2.1; rw [List.length_append] at h3; omega, by have h := HSW.out; rw [HX.out.2.2.2.2.2.2.2, HF.out.2.1] at h; simpa using h⟩⟩
      case round =>
        clear HSW HI
        obtain ⟨k, Va, Vb, hik, hkg, hkm, rfl, HK⟩ := hrel
        by_cases hk : i < k
        · rcases app_cases Va with rfl | ⟨Vc, x, rfl⟩
          · have h2 := HK.out.2.1
            have h3 := HF.out.2.2
            have h5 := HX.out.2.1
            simp only [List.length_nil] at h2
            omega
          obtain ⟨kp, hkp⟩ : ∃ y, y + 1 = k := ⟨k - 1, by omega⟩
          obtain ⟨E, hE⟩ : ∃ E, E = P ++ V1 ++ (Vc ++ [x]) ++ v :: Vb ++ S := ⟨_, rfl⟩
          have hEl : E.length = N := by
            obtain ⟨k1, k2, k3, k4, k5, k6, k7, k8⟩ := HX.out
            rw [hE, k1, k8, HF.out.2.1, HK.out.1]
            simp only [List.length_append, List.length_cons, List.length_nil]
            omega
          have hkN : k < N := by omega
          have hkN1 : kp < N := by omega
          have ez : E = (P ++ V1 ++ Vc) ++ x :: v :: (Vb ++ S) := by rw [hE]; simp
          have hPV : (P ++ V1 ++ Vc).length = kp := by have := HK.out.2.1; simp only [List.length_append, List.length_cons, List.length_nil] at this ⊢; omega
          have HC2 := Lib.hid (sw_two (w := w) (g := g) (D := E) (i := k) (j := kp) (x := v) (y := x) (by omega) (by omega) (by rw [ez]; exact getD_mid' (A := P ++ V1 ++ Vc ++ [x]) (B := Vb ++ S) (by simp) (by rw [List.length_append, hPV]; exact hkp.symm)) (by rw [ez]; exact getD_mid' (A := P ++ V1 ++ Vc) rfl hPV.symm) (by omega))
          obtain ⟨c1, c2, f1, f2, c3, f3⟩ := HC2.out wr (by rw [hE]; exact HK.out.2.2)
          have HE : Hid (V2 = Vc ++ (x :: Vb) ∧ P.length + V1.length + Vc.length = kp ∧ SW w g (P ++ V1 ++ Vc ++ v :: (x :: Vb) ++ S) ((wr.setCell ⟨g, k, none⟩ (.int .i64 x)).setCell ⟨g, kp, none⟩ (.int .i64 v))) := Lib.hid ⟨by rw [HK.out.1]; simp, by have := hPV; simp only [List.length_append] at this; omega, by
            have h := HK.out.2.2
            rw [← hE, ez] at h
            have h2 := (h.set k x).set kp v
            rw [← hkp, swap_near hPV.symm] at h2
            rw [← hkp]
            simpa using h2⟩
          have hki : (i : Int) < (k : Int) := by omega
          have z1 : (k : Int) - 1 = (kp : Int) := by omega
          clear hE ez hPV hEl
          go_wp2_with fail
          go_region
          go_wp2_with fail
          go_roundg (gk - 1)
          case rel => exact ⟨kp, Vc, x :: Vb, by omega, by omega, by omega, by go_num, Lib.hid ⟨HE.out.1, HE.out.2.1, HE.out.2.2.drewN _⟩⟩
          case measure => omega
        · have hki : ¬ (i : Int) < (k : Int) := by omega
          have HE : Hid (SW w g (P ++ (V1 ++ v :: V2) ++ S) wr) := Lib.hid (by
            have h1 := HK.out.1
            have h2 := HK.out.2.1
            have h3 := HF.out.2.2
            have h5 := HX.out.2.1
            obtain rfl : Va = [] := List.eq_nil_of_length_eq_zero (by omega)
            have h := HK.out.2.2
            rw [h1]
            simpa using h)
          go_wp2_with fail
          go_end0
          exact ⟨_, ⟨V1 ++ v :: V2, rfl, by rw [HF.out.2.1]; exact perm_ins V1 V2 v, HF.out.1⟩, rfl, HE.out⟩
end Go.Proofs.Ytalladdmedmfeaa
