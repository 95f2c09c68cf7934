/-
  slices.symMergeCmpFunc where one side has one number.
-/
import Derived.Test.YtalladdmedmfeaaKIns
import Derived.Test.YtalladdmedmfeaaKRot
namespace Go.Proofs.Ytalladdmedmfeaa
open Go.RowKit
open Alp
open Col
set_option linter.unusedVariables false
set_option linter.unusedSimpArgs false

theorem low_last {V1 V2 Va Vb : List Int} {x : Int} (e : V1 ++ V2 = Va ++ x :: Vb) (hl : V1.length = Va.length + 1) : V1.getLast? = some x := by
  have e' : V1 ++ V2 = (Va ++ [x]) ++ Vb := by rw [e]; simp
  obtain ⟨h, _⟩ := List.append_inj e' (by simp [hl])
  rw [h]
  simp
theorem high_head {V1 V2 Va Vb : List Int} {x : Int} (e : V1 ++ V2 = Va ++ x :: Vb) (hl : V1.length = Va.length) : V2.head? = some x := by
  obtain ⟨_, h⟩ := List.append_inj e hl
  rw [h]
  rfl
theorem split_mid {V : List Int} {k : Nat} (h : k < V.length) : ∃ Va x Vb, V = Va ++ x :: Vb ∧ Va.length = k := by
  obtain ⟨a, b, e, l⟩ := split_at V k (by omega)
  rcases cons_cases b with rfl | ⟨x, b', rfl⟩
  · rw [e, List.append_nil] at h; omega
  · exact ⟨a, x, b', e, l⟩
/-- The comparison's contract, from the world w on. -/
def CmpOK (c : Int → Int → Int) (C1 C2 q g : Nat) (w : World) : Prop := ∀ W, w.grownBy W (some g) → ∀ x y : Nat, x < q → y < q → Calls Try.prog 52 #[.int .i64 (x : Int), .int .i64 (y : Int), .pointer (some ⟨C1, 0, none⟩), .pointer (some ⟨C2, 0, none⟩)] W (IPost W (c x y))
theorem CmpOK.next {c : Int → Int → Int} {C1 C2 q g : Nat} {w wr : World} (h : CmpOK c C1 C2 q g w) (hg : w.grownBy wr (some g)) : CmpOK c C1 C2 q g wr := fun W hW => h W (hg.trans hW)
def MergeQ (c : Int → Int → Int) (P U V S d : List Int) : Prop := ∃ M, d = P ++ M ++ S ∧ M.Perm (U ++ V) ∧ Sd c M
theorem inL_app {q : Nat} {a b : List Int} : inL q (a ++ b) ↔ inL q a ∧ inL q b := by
  unfold inL
  constructor
  · intro h; exact ⟨fun x hx => h x (by simp [hx]), fun x hx => h x (by simp [hx])⟩
  · intro h x hx
    rcases List.mem_append.1 hx with hx | hx
    · exact h.1 x hx
    · exact h.2 x hx
set_option maxRecDepth 1000000 in
set_option maxHeartbeats 8000000 in
theorem sym_one (c : Int → Int → Int) (hc : Cmp c) (C1 C2 q : Nat) (P : List Int) (u : Int) (V S : List Int) (g N cN a m b : Nat) (hN : N = (P ++ [u] ++ V ++ S).length) (hN2 : N ≤ 1000000) (hcN : N ≤ cN) (hm : cN ≤ maxLen) (ha : a = P.length) (hma : m = a + 1) (hb : b = m + V.length) (hV0 : V ≠ []) (hV : Sd c V) (hlt : ∀ v ∈ V, u < v) (hin : inL q (u :: V)) (w : World) (hw : Blk w g (iv (P ++ [u] ++ V ++ S)) 3) (hcm : CmpOK c C1 C2 q g w) :
    Calls Try.prog 71 #[.slice (some ⟨g, 0, none⟩) N cN, .int .i64 (a : Int), .int .i64 (m : Int), .int .i64 (b : Int), .func (.func 52) #[] #[.pointer (some ⟨C1, 0, none⟩), .pointer (some ⟨C2, 0, none⟩)]] w (MPost w g (MergeQ c P [u] V S)) := by
  have hm' : cN ≤ 9223372036854775807 := by unfold maxLen at hm; omega
  have HW := Lib.hid (SW.start hw)
  have HCM := Lib.hid hcm
  have HCP := Lib.hid hc
  have hV1 : 0 < V.length := List.length_pos_iff.2 hV0
  have hmb : m < b := by omega
  have hbN : b ≤ N := by rw [hb, hma, ha, hN]; simp only [List.length_append, List.length_cons, List.length_nil]; omega
  have e1 : (m : Int) - (a : Int) = 1 := by omega
  have haN : a < N := by omega
  obtain ⟨un, hun, huq⟩ : ∃ x : Nat, u = x ∧ x < q := by have := hin u (by simp); exact ⟨u.toNat, by omega, by omega⟩
  obtain ⟨D, hD⟩ : ∃ D, D = P ++ [u] ++ V ++ S := ⟨_, rfl⟩
  have HX : Hid (N = D.length ∧ a = P.length ∧ m = a + 1 ∧ b = m + V.length ∧ Sd c V ∧ (∀ v ∈ V, u < v) ∧ inL q V ∧ u = un ∧ D = P ++ [u] ++ V ++ S) := Lib.hid ⟨by rw [hD]; exact hN, ha, hma, hb, hV, hlt, fun x hx => hin x (by simp [hx]), hun, hD⟩
  have HSW0 : Hid (SW w g D w) := Lib.hid (by rw [hD]; exact HW.out)
  have hgu : D.getD a 0 = (un : Int) := by rw [hD, ← hun]; exact getD_mid' (A := P) (B := V ++ S) (by simp) ha
  have HGU := Lib.hid hgu
  clear hN ha hma hb hV0 hV hlt hin hw hcm hc hun hD HW hV1 hgu
  go_enter Try.func71, Try.ntmps71
  go_wp2_with fail
  go_loopg [10, 11, 12] (b - m) (fun gg s10 s11 s12 wr => ∃ (i j : Nat), m ≤ i ∧ i ≤ j ∧ j ≤ b ∧ j ≤ i + gg ∧ s10 = .int .i64 (i : Int) ∧ s11 = .int .i64 (j : Int) ∧ Hid ((i = m ∨ ∃ Va x Vb, V = Va ++ x :: Vb ∧ Va.length + m + 1 = i ∧ c x u < 0) ∧ (j = b ∨ ∃ Va x Vb, V = Va ++ x :: Vb ∧ Va.length + m = j ∧ ¬ c x u < 0) ∧ SW w g D wr))
  case atStart => exact ⟨m, b, Nat.le_refl _, by omega, Nat.le_refl _, by omega, rfl, rfl, Lib.hid ⟨.inl rfl, .inl rfl, HSW0.out⟩⟩
  case round =>
    clear HSW0
    obtain ⟨i, j, hmi, hij, hjb, hjg, rfl, rfl, HI⟩ := hrel
    have HSW : Hid (SW w g D wr) := Lib.hid HI.out.2.2
    by_cases hlt : i < j
    · obtain ⟨h, hh⟩ : ∃ x, x = (i + j) / 2 := ⟨_, rfl⟩
      have hm1 : i ≤ h ∧ h < j := by omega
      have hm2 : (((i : Int) + (j : Int)) / 2) = (h : Int) := by omega
      have hm3 : ((i : Int) + (j : Int)).toNat / 2 = h := by omega
      clear hh
      have hhm : m ≤ h := by omega
      have hhb : h < b := by omega
      have hhN : h < N := by omega
      obtain ⟨Va, x, Vb, eV, lV⟩ := split_mid (V := V) (k := h - m) (by have := HX.out.2.2.2.1; omega)
      obtain ⟨xn, hxn, hxq⟩ : ∃ y : Nat, x = y ∧ y < q := by have := HX.out.2.2.2.2.2.2.1 x (by rw [eV]; simp); exact ⟨x.toNat, by omega, by omega⟩
      have hgh : D.getD h 0 = (xn : Int) := by
        obtain ⟨k1, k2, k3, k4, k5, k6, k7, k8, k9⟩ := HX.out
        rw [k9, ← hxn, eV]
        exact getD_mid' (A := P ++ [u] ++ Va) (B := Vb ++ S) (by simp) (by simp only [List.length_append, List.length_cons, List.length_nil]; omega)
      have l1 : ∀ p : Wo (SW w g D), p.wo.cell? ⟨g, h, none⟩ = some (.int .i64 (xn : Int)) := fun p => p.ok.cell (by rw [← HX.out.1]; exact hhN) hgh
      have l2 : ∀ p : Wo (SW w g D), p.wo.cell? ⟨g, a, none⟩ = some (.int .i64 (un : Int)) := fun p => p.ok.cell (by rw [← HX.out.1]; exact haN) HGU.out
      obtain ⟨r, hr⟩ : ∃ r, r = c (xn : Int) (un : Int) := ⟨_, rfl⟩
      have HCC : Hid (∀ W, SW w g D W → Calls Try.prog 52 #[.int .i64 (xn : Int), .int .i64 (un : Int), .pointer (some ⟨C1, 0, none⟩), .pointer (some ⟨C2, 0, none⟩)] W fun e w' => e = .returned (.int .i64 r) ∧ SW w g D w') := Lib.hid (sw_cmp fun W hW => by rw [hr]; exact HCM.out W hW xn un hxq huq)
      have HV : Hid (V = Va ++ x :: Vb ∧ Va.length + m = h ∧ r = c x u) := Lib.hid ⟨eV, by omega, by rw [hr, hxn, HX.out.2.2.2.2.2.2.2.1]⟩
      clear hr hgh hxn eV lV
      by_cases hr0 : r < 0
      · have hd3 : decide (r < 0) = true := decide_eq_true hr0
        go_wp2_with fail
        haveI : Nonempty (Wo (SW w g D)) := ⟨⟨_, HSW.out⟩⟩
        refine wp_region_wo (SW w g D) mixedTry (by kernel_rfl) (HSW.out.drewN 1) ?_
        repeat (quiet_step (first | (go_at_call 52; exact calls_wo HCC.out _)))
        refine wpQuiet_nil ?_
        intro w2 hw2
        obtain ⟨⟨w2', hok⟩, hw3⟩ := hw2
        have hw4 : w2 = w2' := hw3
        subst hw4
        have HS2 := Lib.hid hok
        clear hw3 hok
        clear l1 l2
        go_wp2_with fail
        go_roundg (gk - 1)
        case rel => exact ⟨h + 1, j, by omega, by omega, hjb, by omega, by go_num, rfl, Lib.hid ⟨.inr ⟨Va, x, Vb, HV.out.1, by rw [HV.out.2.1], by rw [← HV.out.2.2]; exact hr0⟩, HI.out.2.1, HS2.out⟩⟩
        case measure => omega
      · have hd3 : decide (r < 0) = false := decide_eq_false hr0
        go_wp2_with fail
        haveI : Nonempty (Wo (SW w g D)) := ⟨⟨_, HSW.out⟩⟩
        refine wp_region_wo (SW w g D) mixedTry (by kernel_rfl) (HSW.out.drewN 1) ?_
        repeat (quiet_step (first | (go_at_call 52; exact calls_wo HCC.out _)))
        refine wpQuiet_nil ?_
        intro w2 hw2
        obtain ⟨⟨w2', hok⟩, hw3⟩ := hw2
        have hw4 : w2 = w2' := hw3
        subst hw4
        have HS2 := Lib.hid hok
        clear hw3 hok
        clear l1 l2
        go_wp2_with fail
        go_roundg (gk - 1)
        case rel => exact ⟨i, h, by omega, by omega, by omega, by omega, rfl, rfl, Lib.hid ⟨HI.out.1, .inr ⟨Va, x, Vb, HV.out.1, HV.out.2.1, by rw [← HV.out.2.2]; exact hr0⟩, HS2.out⟩⟩
        case measure => omega
    · obtain rfl : i = j := by omega
      obtain ⟨V1, V2, eV, lV⟩ := split_at V (i - m) (by have := HX.out.2.2.2.1; omega)
      have HF : Hid (Sd c (V1 ++ u :: V2) ∧ V = V1 ++ V2 ∧ V1.length + m = i) := Lib.hid (by
        obtain ⟨k1, k2, k3, k4, k5, k6, k7, k8, k9⟩ := HX.out
        have q1 : V1.length + m = i := by omega
        have q2 : V.length = V1.length + V2.length := by rw [eV, List.length_append]
        obtain ⟨m1, m2, m3⟩ := HI.out
        refine ⟨?_, eV, q1⟩
        have hs := k5
        rw [eV] at hs
        refine ins_done HCP.out hs (fun x hx => sd_join HCP.out (sd_one u) (sd_app.1 hs).2.1 (fun x y hx hy => ?_) u (by simp) x hx) (fun x hx => ?_)
        · clear m1
          obtain rfl : u = x := by simpa using hx
          rcases m2 with m2 | ⟨Va, y', Vb, e1, e2, e3⟩
          · have : V2 = [] := List.eq_nil_of_length_eq_zero (by omega)
            rw [this] at hy
            cases hy
          · have := high_head (eV.symm.trans e1) (by omega)
            rw [this] at hy
            obtain rfl := Option.some.inj hy
            exact lt_of_idx HCP.out e3 (k6 y' (by rw [e1]; simp))
        · clear m2
          rcases m1 with m1 | ⟨Va, y', Vb, e1, e2, e3⟩
          · have : V1 = [] := List.eq_nil_of_length_eq_zero (by omega)
            rw [this] at hx
            cases hx
          · have := low_last (eV.symm.trans e1) (by omega)
            rw [this] at hx
            obtain rfl := Option.some.inj hx
            exact .inl e3)
      clear eV lV
      go_wp2_with fail
      go_loopg [13] (i - 1 - a) (fun gg s13 wr => ∃ (k : Nat) (Va Vb : List Int), a ≤ k ∧ k + gg + 1 = i ∧ s13 = .int .i64 (k : Int) ∧ Hid (V1 = Va ++ Vb ∧ P.length + Va.length = k ∧ SW w g (P ++ Va ++ u :: Vb ++ V2 ++ S) wr))
      case atStart => exact ⟨a, [], V1, Nat.le_refl _, by omega, rfl, Lib.hid ⟨rfl, by have := HX.out.2.1; simp; omega, by have h := HSW.out; rw [HX.out.2.2.2.2.2.2.2.2, HF.out.2.1] at h; simpa using h⟩⟩
      case round =>
        clear HSW HI
        obtain ⟨k, Va, Vb, hak, hkg, rfl, HK⟩ := hrel
        by_cases hk : k + 1 < i
        · obtain ⟨gg, rfl⟩ : ∃ x, gk = x + 1 := ⟨gk - 1, by omega⟩
          obtain ⟨rfl⟩ | ⟨x, Vc, rfl⟩ := cons_cases Vb
          · have h1 := HK.out.1
            have h2 := HK.out.2.1
            have h3 := HF.out.2.2
            have h4 := HX.out.2.2.1
            have h5 := HX.out.2.1
            rw [List.append_nil] at h1
            rw [h1] at h3
            omega
          obtain ⟨xn, hxn⟩ : ∃ y, y = x := ⟨_, rfl⟩
          obtain ⟨E, hE⟩ : ∃ E, E = P ++ Va ++ u :: x :: Vc ++ V2 ++ S := ⟨_, rfl⟩
          have hEl : E.length = N := by
            obtain ⟨k1, k2, k3, k4, k5, k6, k7, k8, k9⟩ := HX.out
            rw [hE, k1, k9, HF.out.2.1, HK.out.1]
            simp only [List.length_append, List.length_cons, List.length_nil]
            omega
          have hkN : k < N := by omega
          have hkN1 : k + 1 < N := by omega
          have ez : E = (P ++ Va) ++ u :: x :: (Vc ++ V2 ++ S) := by rw [hE]; simp
          have hPV : (P ++ Va).length = k := by rw [List.length_append]; exact HK.out.2.1
          have HC2 := Lib.hid (sw_two (w := w) (g := g) (D := E) (i := k) (j := k + 1) (x := u) (y := x) (by omega) (by omega) (by rw [ez]; exact getD_mid' (A := P ++ Va) rfl hPV.symm) (by rw [ez]; exact getD_mid' (A := P ++ Va ++ [u]) (B := Vc ++ V2 ++ S) (by simp) (by rw [List.length_append, hPV]; rfl)) (by omega))
          obtain ⟨c1, c2, f1, f2, c3, f3⟩ := HC2.out wr (by rw [hE]; exact HK.out.2.2)
          have HE : Hid (V1 = (Va ++ [x]) ++ Vc ∧ P.length + (Va ++ [x]).length = k + 1 ∧ SW w g (P ++ (Va ++ [x]) ++ u :: Vc ++ V2 ++ S) ((wr.setCell ⟨g, k, none⟩ (.int .i64 x)).setCell ⟨g, k + 1, none⟩ (.int .i64 u))) := Lib.hid ⟨by rw [HK.out.1]; simp, by have := HK.out.2.1; simp; omega, by
            have h := HK.out.2.2
            rw [← hE, ez] at h
            have h2 := (h.set k x).set (k + 1) u
            rw [swap_near' hPV.symm] at h2
            simpa using h2⟩
          have hki : (k : Int) < (i : Int) - 1 := by omega
          clear hE ez hPV hEl hxn
          go_wp2_with fail
          go_region
          go_wp2_with fail
          go_roundg gg
          case rel => exact ⟨k + 1, Va ++ [x], Vc, by omega, by omega, by go_num, Lib.hid ⟨HE.out.1, HE.out.2.1, HE.out.2.2.drewN _⟩⟩
          case measure => omega
        · have hki : ¬ (k : Int) < (i : Int) - 1 := by omega
          have HE : Hid (SW w g (P ++ (V1 ++ u :: V2) ++ S) wr) := Lib.hid (by
            have h1 := HK.out.1
            have h2 := HK.out.2.1
            have h3 := HF.out.2.2
            have h4 := HX.out.2.2.1
            have h5 := HX.out.2.1
            rw [h1, List.length_append] at h3
            obtain rfl : Vb = [] := List.eq_nil_of_length_eq_zero (by omega)
            have h := HK.out.2.2
            rw [h1]
            simpa using h)
          go_wp2_with fail
          go_end0
          exact ⟨_, ⟨V1 ++ u :: V2, rfl, by rw [HF.out.2.1]; exact List.perm_middle, HF.out.1⟩, rfl, HE.out⟩
end Go.Proofs.Ytalladdmedmfeaa
