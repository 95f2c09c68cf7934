/-
  A drawn region that only reads, and calls what may lay blocks; slices.insertionSortCmpFunc.
-/
import Derived.Test.YtalladdmedmfeaaKSwap
import Derived.Test.YtalladdmedmfeaaKCmp
import Derived.Deep.QuietTactic
namespace Go.Proofs.Ytalladdmedmfeaa
open Go.RowKit
open Alp
open Col
set_option linter.unusedVariables false
set_option linter.unusedSimpArgs false

/-- A world of which S holds. -/
structure Wo (S : World → Prop) where
  wo : World
  ok : S wo
theorem wp_region_wo {P : Program} {id : Nat} {Q : Exit → Act → World → Prop} {a : Act} {w : World} {l : List Oper} (S : World → Prop) (hm : P.follows .mixedOrders = true) (hB : Region.lexB .any l.toArray = true) (hS : S w.drew)
    (h : wpQuiet P l.toArray (fun w' => ∃ p : Wo S, w' = p.wo) (fun a' => ∀ w', (∃ p : Wo S, w' = p.wo) → Q .normal a' w') l a) : (Code.region id l.toArray true).wp P Q a w :=
  wp_region_quiet (C := fun w' => ∃ p : Wo S, w' = p.wo) hm hB ⟨⟨w.drew, hS⟩, rfl⟩ (by simpa using h)
theorem calls_wo {P : Program} {S : World → Prop} {f : FuncId} {args : Array Value} {v : Value} (h : ∀ W, S W → Calls P f args W fun e w' => e = .returned v ∧ S w') (p : Wo S) : Calls P f args p.wo fun e w'' => e = .returned v ∧ ∃ q : Wo S, w'' = q.wo :=
  (h p.wo p.ok).mono fun _ _ ⟨he, hs⟩ => ⟨he, ⟨_, hs⟩, rfl⟩
theorem mixedTry : Try.prog.follows .mixedOrders = true := by kernel_rfl
/-- Since w only the row g has been written; it holds a list of which Q holds. -/
def MPost (w : World) (g : Nat) (Q : List Int → Prop) (e : Ending) (w' : World) : Prop := ∃ d, Q d ∧ SPost w g d e w'
theorem m_out {w w' : World} {g : Nat} {Q : List Int → Prop} {e : Ending} (h : MPost w g Q e w') : e = .returned (.tuple #[]) ∧ ∃ d, Q d ∧ SW w g d w' := by
  obtain ⟨d, h1, h2, h3⟩ := h
  exact ⟨h2, d, h1, h3⟩
theorem sw_cmp {w : World} {g : Nat} {D : List Int} {r : Int} {f : FuncId} {args : Array Value} (h : ∀ W, w.grownBy W (some g) → Calls Try.prog f args W (IPost W r)) : ∀ W, SW w g D W → Calls Try.prog f args W fun e w' => e = .returned (.int .i64 r) ∧ SW w g D w' :=
  fun W hs => (h W hs.2).mono fun _ _ ⟨he, hb⟩ => ⟨he, hs.below hb⟩
theorem sw_two {w : World} {g : Nat} {D : List Int} {i j : Nat} {x y : Int} (hi : i < D.length) (hj : j < D.length) (hx : D.getD i 0 = x) (hy : D.getD j 0 = y) (hne : i ≠ j) (w2 : World) (h : SW w g D w2) : w2.cell? ⟨g, i, none⟩ = some (.int .i64 x) ∧ w2.cell? ⟨g, j, none⟩ = some (.int .i64 y) ∧ w2.frozen? ⟨g, i, none⟩ = false ∧ w2.frozen? ⟨g, j, none⟩ = false ∧
    (w2.setCell ⟨g, i, none⟩ (.int .i64 y)).cell? ⟨g, j, none⟩ = some (.int .i64 y) ∧ (w2.setCell ⟨g, i, none⟩ (.int .i64 y)).frozen? ⟨g, j, none⟩ = false :=
  ⟨h.cell hi hx, h.cell hj hy, h.frozen i, h.frozen j, (World.cell?_setCell_other _ _ _ _ (by intro e; simp only [Addr.mk.injEq] at e; omega)).trans (h.cell hj hy), (h.set i y).frozen j⟩
theorem inL_get {q : Nat} {l A B : List Int} {x : Int} (h : inL q l) (e : l = A ++ x :: B) : ∃ a : Nat, x = a ∧ a < q := by
  have := h x (by rw [e]; simp)
  exact ⟨x.toNat, by omega, by omega⟩
theorem inL_perm {q : Nat} {l m : List Int} (h : inL q l) (p : m.Perm l) : inL q m := fun x hx => h x (p.mem_iff.1 hx)
set_option maxRecDepth 1000000 in
set_option maxHeartbeats 8000000 in
theorem ins_any (c : Int → Int → Int) (hc : Cmp c) (C1 C2 q : Nat) (P M S : List Int) (g N cN a b : Nat) (hN : N = (P ++ M ++ S).length) (hN2 : N ≤ 1000000) (hcN : N ≤ cN) (hm : cN ≤ maxLen) (ha : a = P.length) (hb : b = (P ++ M).length) (hup : Up M) (hin : inL q M) (w : World) (hw : Blk w g (iv (P ++ M ++ S)) 3) (HCM : Hid (∀ W, w.grownBy W (some g) → ∀ x y : Nat, x < q → y < q → Calls Try.prog 52 #[.int .i64 (x : Int), .int .i64 (y : Int), .pointer (some ⟨C1, 0, none⟩), .pointer (some ⟨C2, 0, none⟩)] W (IPost W (c x y)))) :
    Calls Try.prog 70 #[.slice (some ⟨g, 0, none⟩) N cN, .int .i64 (a : Int), .int .i64 (b : Int), .func (.func 52) #[] #[.pointer (some ⟨C1, 0, none⟩), .pointer (some ⟨C2, 0, none⟩)]] w (MPost w g fun d => ∃ M', d = P ++ M' ++ S ∧ M'.Perm M ∧ Sd c M') := by
  have hm' : cN ≤ 9223372036854775807 := by unfold maxLen at hm; omega
  have hab : a ≤ b := by rw [ha, hb, List.length_append]; omega
  have hbN : b ≤ N := by rw [hb, hN]; simp only [List.length_append]; omega
  have HW := Lib.hid (SW.start hw)
  have HX : Hid (N = (P ++ M ++ S).length ∧ a = P.length ∧ b = (P ++ M).length ∧ Up M ∧ inL q M) := Lib.hid ⟨hN, ha, hb, hup, hin⟩
  have HCP := Lib.hid hc
  clear hN ha hb hup hin hw hc
  rcases cons_cases M with rfl | ⟨x0, M0, rfl⟩
  · have hba : b = a := by rw [HX.out.2.2.1, HX.out.2.1]; simp
    subst hba
    go_enter Try.func70, Try.ntmps70
    go_wp2_with fail
    go_loopg [8, 9] 0 (fun gg s8 s9 wr => s8 = .int .i64 ((b : Int) + 1) ∧ Hid (SW w g (P ++ [] ++ S) wr))
    case atStart => exact ⟨by go_num, HW⟩
    case round =>
      obtain ⟨rfl, HI⟩ := hrel
      go_wp2_with fail
      go_end0
      exact ⟨_, ⟨[], rfl, List.Perm.refl _, sd_nil⟩, rfl, HI.out⟩
  · have hlt0 : a < b := by rw [HX.out.2.2.1, HX.out.2.1]; simp only [List.length_append, List.length_cons]; omega
    go_enter Try.func70, Try.ntmps70
    go_wp2_with fail
    go_loopg [8, 9] (b - a) (fun gg s8 s9 wr => ∃ (i : Nat) (M1 X Y : List Int), a < i ∧ i + gg = b + 1 ∧ i ≤ b ∧ s8 = .int .i64 (i : Int) ∧ Hid (x0 :: M0 = M1 ++ Y ∧ X.Perm M1 ∧ Sd c X ∧ a + X.length = i ∧ SW w g (P ++ X ++ Y ++ S) wr))
    case atStart => exact ⟨a + 1, [x0], [x0], M0, by omega, by omega, by omega, by go_num, Lib.hid ⟨rfl, List.Perm.refl _, sd_one _, rfl, by simpa using HW.out⟩⟩
    case round =>
      clear HW
      obtain ⟨i, M1, X, Y, hai, hg, hib, rfl, HI⟩ := hrel
      have HLM : Hid (M1.length = X.length ∧ (X ++ Y).length + a = b) := Lib.hid (by
        have h1 := HI.out.2.1.length_eq
        have h2 := congrArg List.length HI.out.1
        have h3 := HX.out.2.2.1
        rw [HX.out.2.1]
        simp only [List.length_append] at h1 h2 h3 ⊢
        omega)
      by_cases hlt : i < b
      · obtain ⟨gg, rfl⟩ : ∃ x, gk = x + 1 := ⟨gk - 1, by omega⟩
        obtain ⟨rfl⟩ | ⟨y, Y', rfl⟩ := cons_cases Y
        · have h1 := HLM.out.2
          have h2 := HI.out.2.2.2.1
          rw [List.append_nil] at h1
          omega
        have HYU : Hid (∀ x ∈ X, x < y) := Lib.hid (fun x hx => by
          have hu := HX.out.2.2.2.1
          rw [HI.out.1] at hu
          exact (List.pairwise_append.1 hu).2.2 x (HI.out.2.1.mem_iff.1 hx) y (by simp))
        obtain ⟨yn, hyn0, hyq⟩ := inL_get HX.out.2.2.2.2 HI.out.1
        have HYN := Lib.hid hyn0
        clear hyn0
        have HXQ : Hid (∀ x ∈ X, ∃ a : Nat, x = a ∧ a < q) := Lib.hid (fun x hx => by
          have hx' : x ∈ x0 :: M0 := by rw [HI.out.1]; simp [HI.out.2.1.mem_iff.1 hx]
          have := HX.out.2.2.2.2 x hx'
          exact ⟨x.toNat, by omega, by omega⟩)
        go_wp2_with fail
        go_loopg [9] (i - a) (fun g2 s9 wr2 => ∃ (j : Nat) (X1 X2 : List Int), a ≤ j ∧ j ≤ a + g2 ∧ j ≤ i ∧ s9 = .int .i64 (j : Int) ∧ Hid (X = X1 ++ X2 ∧ a + X1.length = j ∧ (∀ x ∈ X2, lt c y x) ∧ SW w g (P ++ X1 ++ y :: X2 ++ Y' ++ S) wr2))
        case atStart => exact ⟨i, X, [], by omega, by omega, by omega, rfl, Lib.hid ⟨by simp, HI.out.2.2.2.1, by simp, by simpa using HI.out.2.2.2.2⟩⟩
        case round =>
          obtain ⟨j, X1, X2, haj, hjg, hji, rfl, HJ⟩ := hrel
          obtain ⟨D, hD0⟩ : ∃ D, D = P ++ X1 ++ y :: X2 ++ Y' ++ S := ⟨_, rfl⟩
          have HDD := Lib.hid hD0
          clear hD0
          have HSW : Hid (SW w g D wr) := Lib.hid (by rw [HDD.out]; exact HJ.out.2.2.2)
          have HDL : Hid (D.length = N) := Lib.hid (by
            rw [HDD.out, HX.out.1, HI.out.1]
            have h1 := HLM.out.1
            have h2 := congrArg List.length HJ.out.1
            simp only [List.length_append, List.length_cons] at h1 h2 ⊢
            omega)
          have HPX : Hid (P.length = a) := Lib.hid HX.out.2.1.symm
          -- the end of the inner loop
          have HOUT : Hid ((∀ x, X1.getLast? = some x → lt c x y) → (x0 :: M0 = (M1 ++ [y]) ++ Y' ∧ (X1 ++ y :: X2).Perm (M1 ++ [y]) ∧ Sd c (X1 ++ y :: X2) ∧ a + (X1 ++ y :: X2).length = i + 1 ∧ ∀ w2, SW w g D w2 → SW w g (P ++ (X1 ++ y :: X2) ++ Y' ++ S) w2)) := Lib.hid (fun h => by
            obtain ⟨k1, k2, k3, k4⟩ := HJ.out
            obtain ⟨m1, m2, m3, m4, m5⟩ := HI.out
            subst k1
            refine ⟨by rw [m1]; simp, (perm_ins X1 X2 y).trans (m2.append_right _), ins_done HCP.out m3 k3 h, ?_, fun w2 hw2 => ?_⟩
            · simp only [List.length_append, List.length_cons] at m4 ⊢
              omega
            · rw [HDD.out] at hw2
              simpa using hw2)
          by_cases hja : a < j
          · rcases app_cases X1 with rfl | ⟨X0, x, rfl⟩
            · have := HJ.out.2.1
              simp at this
              omega
            obtain ⟨xn, hxn0, hxq⟩ := HXQ.out x (by rw [HJ.out.1]; simp)
            have HXN := Lib.hid hxn0
            clear hxn0
            obtain ⟨jp, hjp⟩ : ∃ jp, jp + 1 = j := ⟨j - 1, by omega⟩
            have hPl : (P ++ X0).length = jp := by
              have h1 := HJ.out.2.1
              have h2 := HPX.out
              simp only [List.length_append, List.length_cons, List.length_nil] at h1 ⊢
              omega
            have hgj : D.getD j 0 = (yn : Int) := by rw [HDD.out, ← HYN.out]; exact getD_mid' (A := P ++ X0 ++ [x]) (B := X2 ++ Y' ++ S) (by simp) (by rw [List.length_append, hPl]; simp; omega)
            have hgp : D.getD jp 0 = (xn : Int) := by rw [HDD.out, ← HXN.out]; exact getD_mid' (A := P ++ X0) (B := y :: X2 ++ Y' ++ S) (by simp) hPl.symm
            have hjl : j < D.length := by rw [HDL.out]; omega
            have hjl' : jp < D.length := by rw [HDL.out]; omega
            have l1 : ∀ p : Wo (SW w g D), p.wo.cell? ⟨g, j, none⟩ = some (.int .i64 (yn : Int)) := fun p => p.ok.cell hjl hgj
            have l2 : ∀ p : Wo (SW w g D), p.wo.cell? ⟨g, jp, none⟩ = some (.int .i64 (xn : Int)) := fun p => p.ok.cell hjl' hgp
            obtain ⟨r, hr⟩ : ∃ r, r = c (yn : Int) (xn : Int) := ⟨_, rfl⟩
            have HCC : Hid (∀ W, SW w g D W → Calls Try.prog 52 #[.int .i64 (yn : Int), .int .i64 (xn : Int), .pointer (some ⟨C1, 0, none⟩), .pointer (some ⟨C2, 0, none⟩)] W fun e w' => e = .returned (.int .i64 r) ∧ SW w g D w') := Lib.hid (sw_cmp fun W hW => by rw [hr]; exact HCM.out W hW yn xn hyq hxq)
            have hjN : j < N := by omega
            have hjpN : jp < N := by omega
            have hd1 : decide ((a : Int) < (j : Int)) = true := decide_eq_true (by omega)
            have hd2 : decide ((j : Int) > (a : Int)) = true := decide_eq_true (by omega)
            have z1 : (j : Int) - 1 = (jp : Int) := by omega
            have z2 : IntKind.i64.wrap (jp : Int) = (jp : Int) := by rw [IntKind.wrap_i64]; omega
            by_cases hr0 : r < 0
            · have hd3 : decide (r < 0) = true := decide_eq_true hr0
              have hlty : lt c y x := .inl (by rw [HYN.out, HXN.out, ← hr]; exact hr0)
              have HE : Hid (X = X0 ++ x :: X2 ∧ a + X0.length = jp ∧ (∀ u ∈ x :: X2, lt c y u) ∧ ∀ w2, SW w g D w2 → SW w g (P ++ X0 ++ y :: (x :: X2) ++ Y' ++ S) ((w2.setCell ⟨g, j, none⟩ (.int .i64 (xn : Int))).setCell ⟨g, jp, none⟩ (.int .i64 (yn : Int)))) := Lib.hid ⟨by rw [HJ.out.1]; simp, by have := HJ.out.2.1; simp at this; omega, fun u hu => by
                rcases List.mem_cons.1 hu with rfl | hu
                · exact hlty
                · exact HJ.out.2.2.1 u hu, fun w2 hw2 => by
                have h := (hw2.set j (xn : Int)).set jp (yn : Int)
                rw [HDD.out, ← HYN.out, ← HXN.out, show P ++ (X0 ++ [x]) ++ y :: X2 ++ Y' ++ S = (P ++ X0) ++ x :: y :: (X2 ++ Y' ++ S) by simp, ← hjp, swap_near hPl.symm] at h
                rw [← HYN.out, ← HXN.out, ← hjp]
                simpa using h⟩
              have HC2 : Hid (∀ w2, SW w g D w2 → w2.cell? ⟨g, j, none⟩ = some (.int .i64 (yn : Int)) ∧ w2.cell? ⟨g, jp, none⟩ = some (.int .i64 (xn : Int)) ∧ w2.frozen? ⟨g, j, none⟩ = false ∧ w2.frozen? ⟨g, jp, none⟩ = false ∧ (w2.setCell ⟨g, j, none⟩ (.int .i64 (xn : Int))).cell? ⟨g, jp, none⟩ = some (.int .i64 (xn : Int)) ∧ (w2.setCell ⟨g, j, none⟩ (.int .i64 (xn : Int))).frozen? ⟨g, jp, none⟩ = false) := Lib.hid (sw_two hjl hjl' hgj hgp (by omega))
              clear hr hlty hgj hgp hjl hjl' hPl
              go_wp2_with fail
              haveI : Nonempty (Wo (SW w g D)) := ⟨⟨_, HSW.out⟩⟩
              refine wp_region_wo (SW w g D) mixedTry (by kernel_rfl) (HSW.out.drewN 1) ?_
              repeat (quiet_step (first | (go_at_call 52; exact calls_wo HCC.out _)))
              refine wpQuiet_nil ?_
              intro w2 hw2
              obtain ⟨⟨w2', hok⟩, hw3⟩ := hw2
              have hw4 : w2 = w2' := hw3
              subst hw4
              have HS2 := Lib.hid hok
              clear hw3 hok
              clear l1 l2
              go_wp2_with fail
              obtain ⟨c1, c2, f1, f2, c3, f3⟩ := HC2.out w2 HS2.out
              go_region
              go_wp2_with fail
              go_roundg (gk - 1)
              case rel => exact ⟨jp, X0, x :: X2, by omega, by omega, by omega, by go_num, Lib.hid ⟨HE.out.1, HE.out.2.1, HE.out.2.2.1, (HE.out.2.2.2 _ HS2.out).drewN _⟩⟩
              case measure => omega
            · have hd3 : decide (r < 0) = false := decide_eq_false hr0
              have HE := Lib.hid (HOUT.out (fun u hu => by
                obtain rfl : x = u := by simpa using hu
                have h1 := HYU.out x (by rw [HJ.out.1]; simp)
                exact lt_of_idx HCP.out (by rw [HYN.out, HXN.out, ← hr]; exact hr0) h1))
              clear hr hgj hgp hjl hjl' hPl
              go_wp2_with fail
              haveI : Nonempty (Wo (SW w g D)) := ⟨⟨_, HSW.out⟩⟩
              refine wp_region_wo (SW w g D) mixedTry (by kernel_rfl) (HSW.out.drewN 1) ?_
              repeat (quiet_step (first | (go_at_call 52; exact calls_wo HCC.out _)))
              refine wpQuiet_nil ?_
              intro w2 hw2
              obtain ⟨⟨w2', hok⟩, hw3⟩ := hw2
              have hw4 : w2 = w2' := hw3
              subst hw4
              have HS2 := Lib.hid hok
              clear hw3 hok
              clear l1 l2
              go_wp2_with fail
              go_roundg gg
              case rel => exact ⟨i + 1, M1 ++ [y], X0 ++ [x] ++ y :: X2, Y', by omega, by omega, by omega, by go_num, Lib.hid ⟨HE.out.1, HE.out.2.1, HE.out.2.2.1, HE.out.2.2.2.1, HE.out.2.2.2.2 _ HS2.out⟩⟩
              case measure => omega
          · have HE := Lib.hid (HOUT.out (fun u hu => by
              have h1 := HJ.out.2.1
              obtain rfl : X1 = [] := List.eq_nil_of_length_eq_zero (by omega)
              simp at hu))
            have hd1 : decide (a < j) = false := decide_eq_false (by omega)
            clear hja
            refine wp_seq_k (fun K1 hK1 => ?_)
            refine wp_seq_k (fun K2 hK2 => ?_)
            go_big_region
            go_wp2_with fail
            go_roundg gg
            case rel => exact ⟨i + 1, M1 ++ [y], X1 ++ y :: X2, Y', by omega, by omega, by omega, by go_num, Lib.hid ⟨HE.out.1, HE.out.2.1, HE.out.2.2.1, HE.out.2.2.2.1, HE.out.2.2.2.2 _ (HSW.out.drewN _)⟩⟩
            case measure => omega
      · obtain rfl : i = b := by omega
        have HE : Hid (X.Perm (x0 :: M0) ∧ Sd c X ∧ SW w g (P ++ X ++ S) wr) := Lib.hid (by
          obtain ⟨m1, m2, m3, m4, m5⟩ := HI.out
          have h1 := HLM.out.2
          rw [List.length_append] at h1
          obtain rfl : Y = [] := List.eq_nil_of_length_eq_zero (by omega)
          rw [List.append_nil] at m1
          rw [m1]
          exact ⟨m2, m3, by simpa using m5⟩)
        go_wp2_with fail
        go_end0
        exact ⟨_, ⟨X, rfl, HE.out.1, HE.out.2.1⟩, rfl, HE.out.2.2⟩
end Go.Proofs.Ytalladdmedmfeaa
