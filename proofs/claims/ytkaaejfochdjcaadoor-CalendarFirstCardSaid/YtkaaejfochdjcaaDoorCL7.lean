/-
  CalendarFirst: for every list of numbers, every list of choices and every number the law returns true, and leaves what was there as it was; the tables are as the program's text lays them (the card ties them).
-/
import Derived.Test.YtkaaejfochdjcaaDoorCLaw
import Derived.Test.YtkaaejfochdjcaaDoorCRSpans
import Derived.Deep.QuietTactic
import Derived.BigQuiet
namespace Go.Proofs.YtkaaejfochdjcaaDoor
open Go.ChangeShapes Go.WideShapes Go.ChangeAt Go.RowKit Go.ChangeMaps
open Cal
set_option linter.unusedVariables false
set_option linter.unusedSimpArgs false
namespace CL7

theorem fgo_ok (S : List (Int × Int)) (hv : ∀ x ∈ S, vaB x.1 x.2 = true) (acc : Int × Int) : ∃ X Y, fgo acc S = some (X, Y) ∧ X ≤ acc.1 ∧ Y ≤ acc.2 ∧ (∀ x ∈ S, X ≤ x.1 ∧ Y ≤ x.2) ∧ (X = acc.1 ∨ ∃ x ∈ S, x.1 = X) ∧ (Y = acc.2 ∨ ∃ x ∈ S, x.2 = Y) := by
  induction S generalizing acc with
  | nil => exact ⟨acc.1, acc.2, fgo_nil acc, Int.le_refl _, Int.le_refl _, by simp, .inl rfl, .inl rfl⟩
  | cons x t ih =>
    obtain ⟨X, Y, h1, h2, h3, h4, h5, h6⟩ := ih (fun y hy => hv y (by simp [hy])) (min acc.1 x.1, min acc.2 x.2)
    simp only at h2 h3 h5 h6
    refine ⟨X, Y, by rw [fgo_yes _ _ _ (hv x (by simp))]; exact h1, by clear h4 h5 h6; omega, by clear h4 h5 h6; omega, ?_, ?_, ?_⟩
    · intro y hy
      rcases List.mem_cons.1 hy with rfl | hy
      · clear h4 h5 h6; exact ⟨by omega, by omega⟩
      · exact h4 y hy
    · clear h6 h4; rcases h5 with h5 | ⟨y, hy, e⟩
      · rcases Int.le_total acc.1 x.1 with hle | hle
        · exact .inl (by omega)
        · exact .inr ⟨x, by simp, by omega⟩
      · exact .inr ⟨y, by simp [hy], e⟩
    · clear h5 h4; rcases h6 with h6 | ⟨y, hy, e⟩
      · rcases Int.le_total acc.2 x.2 with hle | hle
        · exact .inl (by omega)
        · exact .inr ⟨x, by simp, by omega⟩
      · exact .inr ⟨y, by simp [hy], e⟩
theorem firstP_ok (S : List (Int × Int)) (hne : S ≠ []) (hv : ∀ x ∈ S, vaB x.1 x.2 = true) : ∃ X Y, firstP S = some (X, Y) ∧ 1 ≤ X ∧ X ≤ Y ∧ Y ≤ 1022679 ∧ (∀ x ∈ S, X ≤ x.1 ∧ Y ≤ x.2) ∧ (∃ x ∈ S, x.1 = X) ∧ ∃ x ∈ S, x.2 = Y := by
  obtain ⟨X, Y, h1, h2, h3, h4, h5, h6⟩ := fgo_ok S hv (1022679, 1022679)
  simp only at h2 h3 h5 h6
  obtain ⟨x, hx⟩ : ∃ x, x ∈ S := List.exists_mem_of_ne_nil S hne
  have hxv := vaB_yes (hv x hx)
  have hx4 := h4 x hx
  have h5' : ∃ x ∈ S, x.1 = X := by
    rcases h5 with h5 | h5
    · exact ⟨x, hx, by clear h6 h4; omega⟩
    · exact h5
  have h6' : ∃ x ∈ S, x.2 = Y := by
    rcases h6 with h6 | h6
    · exact ⟨x, hx, by clear h5' h5 h4; omega⟩
    · exact h6
  obtain ⟨y, hy, ey⟩ := h5'
  obtain ⟨z, hz, ez⟩ := h6'
  have hyv := vaB_yes (hv y hy)
  have hzv := vaB_yes (hv z hz)
  have hz4 := h4 z hz
  clear h5 h6
  exact ⟨X, Y, by unfold firstP; rw [if_neg hne]; exact h1, by omega, by omega, by omega, h4, ⟨y, hy, ey⟩, ⟨z, hz, ez⟩⟩
def SpN (w : World) (S : List (Int × Int)) (n : Nat) (e : Ending) (w' : World) : Prop := ∃ (A : Option Addr) (c : Nat), e = .returned (.slice A n c) ∧ Rd w' A (sv S) ∧ n ≤ c ∧ c ≤ maxLen ∧ Below w.heap.size w w'
theorem spn_out {w w' : World} {S : List (Int × Int)} {n : Nat} {e : Ending} (h : SpN w S n e w') : ∃ (A : Option Addr) (c : Nat), e = .returned (.slice A n c) ∧ Rd w' A (sv S) ∧ n ≤ c ∧ c ≤ maxLen ∧ Below w.heap.size w w' := h
theorem sv_cells {w1 : World} {S : List (Int × Int)} {b o : Nat} (h : ∀ j v, (sv S)[j]? = some v → w1.cell? ⟨b, o + j, none⟩ = some v) : ∀ (W : World) (k : Nat) (p q : Int), Below w1.heap.size w1 W → k < S.length → (p, q) = S.getD k (0, 0) → W.cell? ⟨b, o + k * 2, none⟩ = some (.int .i64 p) ∧ W.cell? ⟨b, o + k * 2 + 1, none⟩ = some (.int .i64 q) := fun W k p q hb hk e => by
  have hg := sv_get S k hk
  rw [← e] at hg
  have h1 := h _ _ hg.1
  have h2 := h _ _ hg.2
  have hlt := World.block_lt_of_cell? w1 _ h1
  rw [Nat.mul_comm k 2]
  exact ⟨(hb.cell (p := ⟨b, o + 2 * k, none⟩) hlt).trans h1, by rw [Nat.add_assoc]; exact (hb.cell (p := ⟨b, o + (2 * k + 1), none⟩) hlt).trans h2⟩
set_option maxRecDepth 100000 in
set_option maxHeartbeats 4000000 in
theorem walk_nil (S : List (Int × Int)) (n : Nat) (hn : n = 0) (at_ : Int) (A Ap : Option Addr) (ln cl pn cp : Nat) (w : World)
    (HL : Hid (∀ W, Below w.heap.size w W → Calls Tryd.prog 16 #[] W fun e w' => e = .returned (.bool true) ∧ Below W.heap.size W w')) (HSP : Hid (∀ W, Below w.heap.size w W → Calls Tryd.prog 31 #[.slice A ln cl, .int .i64 12] W (SpN W S n)))
    (HF : Hid (∀ (A : Option Addr) (c : Nat) W, n ≤ c → c ≤ maxLen → Rd W A (sv S) → Calls Tryd.prog 19 #[.slice A n c] W fun e w' => e = .returned (.tuple #[.agg #[.int .i64 0, .int .i64 0], .bool false]) ∧ Below W.heap.size W w')) : Calls Tryd.prog 9 #[.slice A ln cl, .slice Ap pn cp, .int .i64 at_] w fun e w' => e = .returned (.bool true) ∧ Below w.heap.size w w' := by
  subst hn
  go_enter Tryd.func9, Tryd.ntmps9
  go_wp2_with (first
    | ((with_reducible refine (HSP.out _ (Below.refl _ _)).mono ?_); rintro e w1 hs1; obtain ⟨A1, c1, rfl, hrd1, hc1, hm1, hb1⟩ := spn_out hs1; clear hs1; have HR1 := Lib.hid hrd1; have HB1 : Hid (Below w.heap.size w w1) := Lib.hid hb1; clear hrd1 hb1)
    | ((with_reducible refine (HF.out A1 c1 _ hc1 hm1 HR1.out).mono ?_); rintro e w2 ⟨rfl, hb2⟩; have HB2 : Hid (Below w.heap.size w w2) := Lib.hid (below_next HB1.out hb2); clear hb2)
    | ((with_reducible refine (HL.out _ (below_al HB2.out _)).mono ?_); rintro e w3 ⟨rfl, hb3⟩; have HB3 : Hid (Below w.heap.size w w3) := Lib.hid (below_next (below_al HB2.out _) hb3); clear hb3))
  go_ret
  exact ⟨rfl, HB3.out⟩
set_option maxRecDepth 100000 in
set_option maxHeartbeats 8000000 in
theorem walk_cons (S : List (Int × Int)) (X Y e0 : Int) (d : Nat → Int) (n : Nat) (hn : n = S.length) (h0 : 0 < n) (at_ : Int) (A Ap : Option Addr) (ln cl pn cp : Nat) (w : World)
    (a1 : 1 ≤ X) (a2 : X ≤ Y) (a3 : Y ≤ 1022679) (e1 : 0 ≤ e0) (e2 : e0 < Y - X + 1)
    (HV : ∀ k, k < n → ∀ p q, (p, q) = S.getD k (0, 0) → X ≤ p ∧ Y ≤ q ∧ p ≤ q ∧ q ≤ 1022679 ∧ 0 ≤ d k ∧ d k < q - p + 1)
    (HX : ∃ k, k < n ∧ (S.getD k (0, 0)).1 = X) (HY : ∃ k, k < n ∧ (S.getD k (0, 0)).2 = Y)
    (HL : Hid (∀ W, Below w.heap.size w W → Calls Tryd.prog 16 #[] W fun e w' => e = .returned (.bool true) ∧ Below W.heap.size W w')) (HSP : Hid (∀ W, Below w.heap.size w W → Calls Tryd.prog 31 #[.slice A ln cl, .int .i64 12] W (SpN W S n)))
    (HF : Hid (∀ (A : Option Addr) (c : Nat) W, n ≤ c → c ≤ maxLen → Rd W A (sv S) → Calls Tryd.prog 19 #[.slice A n c] W fun e w' => e = .returned (.tuple #[.agg #[.int .i64 X, .int .i64 Y], .bool true]) ∧ Below W.heap.size W w'))
    (HVA : Hid (∀ W, Calls Tryd.prog 21 #[.agg #[.int .i64 X, .int .i64 Y]] W fun e w' => e = .returned (.bool true) ∧ Below W.heap.size W w'))
    (HAR : Hid (∀ W, Calls Tryd.prog 30 #[.int .i64 at_, .int .i64 (Y - X + 1)] W fun e w' => e = .returned (.int .i64 e0) ∧ W = w'))
    (HAT : Hid (∀ k, k < n → ∀ p q, (p, q) = S.getD k (0, 0) → ∀ W, Below w.heap.size w W → Calls Tryd.prog 32 #[.slice Ap pn cp, .int .i64 (k : Int), .int .i64 (q - p + 1)] W fun e w' => e = .returned (.int .i64 (d k)) ∧ W = w')) : Calls Tryd.prog 9 #[.slice A ln cl, .slice Ap pn cp, .int .i64 at_] w fun e w' => e = .returned (.bool true) ∧ Below w.heap.size w w' := by
  have hn0 : ((n : Int) == 0) = false := beq_eq_false_iff_ne.2 (by omega)
  have HNE : Hid (sv S ≠ []) := Lib.hid fun e => by have := congrArg List.length e; rw [sv_length] at this; simp at this; omega
  have HN := Lib.hid hn
  replace HV := Lib.hid HV
  replace HX := Lib.hid HX
  replace HY := Lib.hid HY
  clear hn
  go_enter Tryd.func9, Tryd.ntmps9
  go_wp2_with (first
    | ((with_reducible refine (HSP.out _ (Below.refl _ _)).mono ?_); rintro e w1 hs1; obtain ⟨A1, c1, rfl, hrd1, hc1, hm1, hb1⟩ := spn_out hs1; clear hs1; have HR1 := Lib.hid hrd1; have HB1 : Hid (Below w.heap.size w w1) := Lib.hid hb1; obtain ⟨b1, o1, rfl, hcell⟩ := hrd1.open HNE.out; have HC := Lib.hid (sv_cells hcell); clear hrd1 hb1 hcell)
    | ((with_reducible refine (HF.out _ c1 _ hc1 hm1 HR1.out).mono ?_); rintro e w2 ⟨rfl, hb2⟩; have HB2 : Hid (Below w1.heap.size w1 w2) := Lib.hid hb2; clear hb2)
    | (refine wpList_load_w2 (by rfl) (.tmp 8) rfl w2.heap.size rfl X Y (Blk.at w2 (iv [X, Y]) _ 30 _ rfl rfl) ?_)
    | ((with_reducible refine (HVA.out _).mono ?_); rintro e w3 ⟨rfl, hb3⟩; have HB3 : Hid (Blk w3 w2.heap.size (iv [X, Y]) 30 ∧ Below w1.heap.size w1 w3) := Lib.hid ⟨(Blk.at w2 (iv [X, Y]) _ 30 _ rfl rfl).below hb3 (by simp), below_next (below_al HB2.out _) hb3⟩; clear hb3))
  have hx0 : w3.cell? ⟨w2.heap.size, 0, none⟩ = some (.int .i64 X) := HB3.out.1.cell rfl
  have hx1 : w3.cell? ⟨w2.heap.size, 1, none⟩ = some (.int .i64 Y) := HB3.out.1.cell rfl
  have HQ : Hid (∀ m, Calls Tryd.prog 30 #[.int .i64 at_, .int .i64 (Y - X + 1)] (w3.drewN m) fun e w' => e = .returned (.int .i64 e0) ∧ w' = w3.drewN m) := Lib.hid fun m => (HAR.out _).mono fun _ _ ⟨h, h'⟩ => ⟨h, h'.symm⟩
  go_quiet ((go_at_call 30; exact Calls.quiet_of_same (HQ.out _)))
  go_wp2_with fail
  have hm63 : c1 ≤ 9223372036854775807 := by unfold maxLen at hm1; omega
  go_loopg [10, 12, 13] n (fun g s10 s12 s13 wr => ∃ (k : Nat) (z : Int) (m : Bool), k + g = n ∧ s10 = .int .i64 z ∧ s12 = .bool m ∧ s13 = .int .i64 (k : Int) ∧ Hid (Blk wr w2.heap.size (iv [X, Y]) 30 ∧ Below w1.heap.size w1 wr) ∧ Hid (X ≤ z ∧ z ≤ 1022680 ∧ (∀ i, i < k → z ≤ (S.getD i (0, 0)).2) ∧ (m = true ∨ ∀ i, i < k → ¬ (S.getD i (0, 0)).1 ≤ X + e0)))
  case atStart => exact ⟨0, 1022680, false, by omega, rfl, rfl, rfl, Lib.hid ⟨HB3.out.1.drewN _, below_drewN HB3.out.2 _⟩, Lib.hid ⟨by omega, by omega, fun i hi => by omega, .inr fun i hi => by omega⟩⟩
  case round =>
    clear hx0 hx1 HQ
    obtain ⟨k, z, m, hk, rfl, rfl, rfl, HI, HP⟩ := hrel
    by_cases hlt : k < n
    · obtain ⟨g, rfl⟩ : ∃ g, gk = g + 1 := ⟨gk - 1, by omega⟩
      obtain ⟨⟨p, q⟩, hpq⟩ : ∃ r, r = S.getD k (0, 0) := ⟨_, rfl⟩
      have hc := HC.out wr k p q HI.out.2 (by rw [← HN.out]; exact hlt) hpq
      have hv := HV.out k hlt p q hpq
      have HQ : Hid (∀ m, Calls Tryd.prog 32 #[.slice Ap pn cp, .int .i64 (k : Int), .int .i64 (q - p + 1)] (wr.drewN m) fun e w' => e = .returned (.int .i64 (d k)) ∧ w' = wr.drewN m) := Lib.hid fun m => (HAT.out k hlt p q hpq _ (below_drewN (below_next HB1.out HI.out.2) m)).mono fun _ _ ⟨h, h'⟩ => ⟨h, h'.symm⟩
      obtain ⟨v1, v2, v3, v4, v5, v6⟩ := hv
      obtain ⟨z1, z2⟩ : X ≤ z ∧ z ≤ 1022680 := ⟨HP.out.1, HP.out.2.1⟩
      obtain ⟨hc0, hc1'⟩ := hc
      obtain ⟨dk, hdk⟩ : ∃ x, x = d k := ⟨_, rfl⟩
      rw [← hdk] at v5 v6 HQ
      have HP1 : Hid (X ≤ min z (p + dk) ∧ min z (p + dk) ≤ 1022680 ∧ ∀ i, i < k + 1 → min z (p + dk) ≤ (S.getD i (0, 0)).2) := Lib.hid ⟨by omega, by omega, fun i hi => by
        rcases Nat.lt_or_ge i k with h | h
        · have := HP.out.2.2.1 i h; omega
        · obtain rfl : i = k := by omega
          rw [← hpq]; show _ ≤ q; omega⟩
      have HPQ := Lib.hid hpq
      clear hpq hdk
      cases m
      · by_cases hp : p ≤ X + e0
        · go_wp2_with fail
          go_quiet ((go_at_call 32; exact Calls.quiet_of_same (HQ.out _)))
          go_wp2_with fail
          go_roundg g
          case rel => exact ⟨k + 1, _, _, by omega, rfl, rfl, by go_num, Lib.hid ⟨HI.out.1.drewN _, below_drewN HI.out.2 _⟩, Lib.hid ⟨HP1.out.1, HP1.out.2.1, HP1.out.2.2, .inl rfl⟩⟩
          case measure => omega
        · have HP2 : Hid (∀ i, i < k + 1 → ¬ (S.getD i (0, 0)).1 ≤ X + e0) := Lib.hid fun i hi => by
            rcases Nat.lt_or_ge i k with h | h
            · rcases HP.out.2.2.2 with e | e
              · cases e
              · exact e i h
            · obtain rfl : i = k := by omega
              rw [← HPQ.out]; exact hp
          have hdp : decide (p ≤ X + e0) = false := decide_eq_false hp
          go_wp2_with fail
          go_quiet ((go_at_call 32; exact Calls.quiet_of_same (HQ.out _)))
          go_wp2_with fail
          go_roundg g
          case rel => exact ⟨k + 1, _, _, by omega, rfl, rfl, by go_num, Lib.hid ⟨HI.out.1.drewN _, below_drewN HI.out.2 _⟩, Lib.hid ⟨HP1.out.1, HP1.out.2.1, HP1.out.2.2, .inr HP2.out⟩⟩
          case measure => omega
      · go_wp2_with fail
        go_quiet ((go_at_call 32; exact Calls.quiet_of_same (HQ.out _)))
        go_wp2_with fail
        go_roundg g
        case rel => exact ⟨k + 1, _, _, by omega, rfl, rfl, by go_num, Lib.hid ⟨HI.out.1.drewN _, below_drewN HI.out.2 _⟩, Lib.hid ⟨HP1.out.1, HP1.out.2.1, HP1.out.2.2, .inl rfl⟩⟩
        case measure => omega
    · obtain rfl : k = n := by omega
      have hx0 : wr.cell? ⟨w2.heap.size, 0, none⟩ = some (.int .i64 X) := HI.out.1.cell rfl
      have hx1 : wr.cell? ⟨w2.heap.size, 1, none⟩ = some (.int .i64 Y) := HI.out.1.cell rfl
      have hz1 : X ≤ z := HP.out.1
      have hz2 : z ≤ Y := by
        obtain ⟨i, hi, e⟩ := HY.out
        rw [← e]
        exact HP.out.2.2.1 i hi
      obtain rfl : m = true := by
        rcases HP.out.2.2.2 with e | e
        · exact e
        · obtain ⟨i, hi, ex⟩ := HX.out
          exact absurd (by rw [ex]; omega) (e i hi)
      go_wp2_with ((with_reducible refine (HL.out _ (below_next HB1.out HI.out.2)).mono ?_); rintro e y1 ⟨rfl, hb⟩; have HZ : Hid (Below w.heap.size w y1) := Lib.hid (below_next (below_next HB1.out HI.out.2) hb); clear hb)
      go_ret
      exact ⟨rfl, HZ.out⟩
theorem getD_mem_of {S : List (Int × Int)} {x : Int × Int} (h : x ∈ S) : ∃ k, k < S.length ∧ S.getD k (0, 0) = x := by
  obtain ⟨k, hk, e⟩ := List.getElem_of_mem h
  exact ⟨k, hk, by simp [List.getD, hk, e]⟩
theorem walk (l pk : List Int) (A : Option Addr) (cl : Nat) (Ap : Option Addr) (cp : Nat) (at_ : Int) (ha : inI at_) (hli : ∀ x ∈ l, inI x) (hll : l.length ≤ cl) (hlm : cl ≤ maxLen) (hpi : ∀ x ∈ pk, inI x) (hpl : pk.length ≤ cp) (hpm : cp ≤ maxLen) (w : World) (hlr : Rd w A (iv l)) (hpr : Rd w Ap (iv pk)) (hK : KC w) :
    Calls Tryd.prog 9 #[.slice A l.length cl, .slice Ap pk.length cp, .int .i64 at_] w fun e w' => e = .returned (.bool true) ∧ Below w.heap.size w w' := by
  obtain ⟨f, hf⟩ := made_fun
  obtain ⟨S, hS⟩ : ∃ S, S = spP f 12 l := ⟨_, rfl⟩
  have hv : ∀ x ∈ S, vaB x.1 x.2 = true := fun x hx => by
    rw [hS] at hx
    obtain ⟨a, b, h1, h2, rfl⟩ := spP_mem f 12 l hli x hx
    exact (hf a b h1 h2).1
  have HL : Hid (∀ W, Below w.heap.size w W → Calls Tryd.prog 16 #[] W fun e w' => e = .returned (.bool true) ∧ Below W.heap.size W w') := Lib.hid fun W hb => lives_any W (hK.below hb)
  have HSP : Hid (∀ W, Below w.heap.size w W → Calls Tryd.prog 31 #[.slice A l.length cl, .int .i64 12] W (SpN W S S.length)) := Lib.hid fun W hb => by rw [hS]; exact spans_any f hf l hli 12 (by omega) A cl hll hlm W (hlr.below hb)
  have hlen : S.length ≤ 12 := by rw [hS]; exact spP_len f 12 l
  by_cases h0 : S = []
  · exact walk_nil S S.length (by rw [h0]; rfl) at_ A Ap l.length cl pk.length cp w HL HSP (Lib.hid fun A c W h1 h2 h3 => by have := first_any S A S.length c rfl h1 h2 W h3; rw [h0] at this ⊢; exact this)
  · obtain ⟨X, Y, hfp, x1, x2, x3, x4, ⟨u, hu, eu⟩, ⟨v, hvm, ev⟩⟩ := firstP_ok S h0 hv
    have he := arP_bd at_ (m := Y - X + 1) (by omega)
    have hmem : ∀ k, k < S.length → ∀ p q, (p, q) = S.getD k (0, 0) → (p, q) ∈ S := fun k hk p q e => by rw [e]; simp [List.getD, hk]
    have hval : ∀ k, k < S.length → ∀ p q, (p, q) = S.getD k (0, 0) → 1 ≤ p ∧ p ≤ q ∧ q ≤ 1022679 ∧ X ≤ p ∧ Y ≤ q := fun k hk p q e => by
      have hm := hmem k hk p q e
      have h1 := vaB_yes (hv _ hm)
      have h2 := x4 _ hm
      exact ⟨h1.1, h1.2.1, h1.2.2, h2.1, h2.2⟩
    refine walk_cons S X Y (arP at_ (Y - X + 1)) (fun k => atP pk (k : Int) ((S.getD k (0, 0)).2 - (S.getD k (0, 0)).1 + 1)) S.length rfl (List.length_pos_iff.2 h0) at_ A Ap l.length cl pk.length cp w x1 x2 x3 he.1 he.2 ?_ ?_ ?_ HL HSP
      (Lib.hid fun A c W h1 h2 h3 => by have := first_any S A S.length c rfl h1 h2 W h3; rw [hfp] at this; exact this)
      (Lib.hid fun W => valid_yes X Y (vaB_mk ⟨x1, x2, x3⟩) W)
      (Lib.hid fun W => raround_any at_ (Y - X + 1) ha.1 ha.2 (by omega) (by omega) W) ?_
    · intro k hk p q e
      have h := hval k hk p q e
      have hb := atP_bd pk (k : Int) (m := q - p + 1) (by omega)
      show _ ∧ _ ∧ _ ∧ _ ∧ 0 ≤ atP pk (k : Int) ((S.getD k (0, 0)).2 - (S.getD k (0, 0)).1 + 1) ∧ atP pk (k : Int) ((S.getD k (0, 0)).2 - (S.getD k (0, 0)).1 + 1) < _
      rw [← e]
      exact ⟨by omega, by omega, by omega, by omega, hb.1, hb.2⟩
    · obtain ⟨k, hk, e⟩ := getD_mem_of hu
      exact ⟨k, hk, by rw [e]; exact eu⟩
    · obtain ⟨k, hk, e⟩ := getD_mem_of hvm
      exact ⟨k, hk, by rw [e]; exact ev⟩
    · refine Lib.hid fun k hk p q e W hb => ?_
      have h := hval k hk p q e
      have := rat_any pk Ap pk.length cp rfl hpl hpm k (by omega) (q - p + 1) (by omega) (by omega) W (hpr.below hb) hpi
      show Calls _ _ _ W fun e w' => e = .returned (.int .i64 (atP pk (k : Int) ((S.getD k (0, 0)).2 - (S.getD k (0, 0)).1 + 1))) ∧ W = w'
      rw [← e]
      exact this

set_option maxRecDepth 100000 in
theorem contract (H : Type) (enc : TypeId × Value → H) (W : World) (base : Nat) (args : Array Value) (ds gs : List (DataW H)) (before : List MemPlace)
    (hval : ∀ (j : Nat) t v, Tryd.f9.params[j]? = some t → args[j]? = some v → Value.okWide Tryd.prog W .any base t v)
    (hW : DataW.Whole enc Tryd.prog Tryd.f9.params.toList Rows.calendarFirstSpec.vars false W args.toList ds gs before) (hK : KC W) :
    Calls Tryd.prog 9 args W fun e W' => ∃ v, e = .returned v ∧ Rows.calendarFirstSpec.post enc Tryd.prog Tryd.f9 false true false false W args v W' := by
  have hW' := hW
  obtain ⟨p, q, hA0, hV, rfl, hfz, hnd⟩ := hW
  have hA : DataW.TrodAll enc Tryd.prog W 0 (fun _ => true) true Tryd.f9.params.toList args.toList ds p := hA0
  rw [Tryd.params9] at hA hval
  obtain ⟨v0, v1, v2, d0, d1, d2, p0, p1, p2, rfl, rfl, rfl, h0, h1, h2⟩ := trodAll_three hA
  obtain ⟨rfl, rfl⟩ := trodVars_none hV
  obtain ⟨lA, ll, lc, rfl, lr, li, ln, lm⟩ := open_ivs (hval 0 47 v0 rfl rfl) h0
  obtain ⟨pA, pl, pc, rfl, pr, pi_, pn, pm⟩ := open_ivs (hval 1 47 v1 rfl rfl) h1
  obtain ⟨a, rfl, rfl, rfl, aw⟩ := open_int Tryd.underlying3 (hval 2 3 v2 rfl rfl) h2
  have ai := inI_wf aw
  have hargs : (#[.slice lA ll.length lc, .slice pA pl.length pc, .int .i64 a] : Array Value) = #[.slice lA ll.length lc, .slice pA pl.length pc, .int .i64 a] := by rfl
  have hwalk : Calls Tryd.prog 9 #[.slice lA ll.length lc, .slice pA pl.length pc, .int .i64 a] W fun e W' => e = .returned (.bool true) ∧ Below W.heap.size W W' := by
    rw [hargs]
    exact walk ll pl lA lc pA pc a ai li ln lm pi_ pn pm W lr pr hK
  refine hwalk.mono fun e W' ⟨he, hb⟩ => ⟨_, he, ?_⟩
  exact law_post rfl rfl (by kernel_rfl) hW' rfl hb

set_option maxRecDepth 100000 in
theorem lifted (os : Os) (started : os.Started) (H : Type) (enc : TypeId × Value → H) :
    ReturnsInHanded {} Tryd.checked os 9 .any (fun w args => (Rows.calendarFirstSpec.pre enc Tryd.prog Tryd.f9 [] false w args ∧ laidMetH Tryd.prog laid4 w) ∧ sizedMet enc Tryd.prog Tryd.f9 (OpenSpec.ofChange Rows.calendarFirstSpec) false w args)
      (Rows.calendarFirstSpec.post enc Tryd.prog Tryd.f9 false true false false) := by
  refine returnsInHanded_of_change_and (C := Tryd.checked) (X := fun w _ => laidMetH Tryd.prog laid4 w) (fun _ _ _ hh h => h.of_heap hh) Tryd.own started (by kernel_rfl) Tryd.func9
    (ChangeSpec.witness_shaped (enc := enc) (C := Tryd.checked) (os := os) (X := fun w _ => laidMetH Tryd.prog laid4 w) false (World.doorLaid Tryd.prog 400 os) #[.slice none 0 0, .slice none 0 0, .int .i64 0] 8 rfl (World.shaped_of_RefB (by kernel_rfl) (by kernel_rfl)) (by kernel_rfl) (by kernel_rfl) (by kernel_rfl) (door_met4 os _)) ?_
  intro W base args ds gs before hval hW _ hsz hL _
  exact contract H enc W base args ds gs before hval hW (of_laid4 hL)

theorem row : Rows.CalendarFirstSaid :=
  OpenClaim.holds_of_wide 9 Tryd.f9 rfl rfl rfl rfl rfl rfl rfl ⟨rfl, rfl, rfl, rfl, rfl⟩ rfl rfl rfl rfl rfl (by kernel_rfl) Tryd.func9 (by kernel_rfl)
    (of_decide_eq_true (by kernel_rfl)) (by unfold Func.isWrapper; first | (rw [if_pos (by decide +kernel)]; kernel_rfl) | (rw [if_neg (by decide +kernel)]; exact ⟨rfl, rfl⟩))
    (fun os started H enc _ => lifted os started H enc)

theorem proved : Rows.CalendarFirstCardSaid :=
  Claim7.holds_tied_plain_at .later [] [.data, .data, .data, .data] true (true, "520023937c31a48c793982c9874225f2c411890cd26ecc880d0bbeb410484da2") false
    row (fun _ h => by cases h) (by kernel_rfl) (fun _ h => by cases h) calendarFirst_row_tie rfl ⟨rfl, rfl⟩ (by kernel_rfl) rfl
    (fun f fn hf hfn => by
      obtain rfl : f = 9 := Option.some.inj ((show Tryd.prog.funcNamed "wordbook/wordbooklaw04.CalendarFirst" = some 9 by kernel_rfl).symm.trans hf) |>.symm
      obtain rfl : fn = Tryd.f9 := (Option.some.inj (Tryd.func9.symm.trans hfn)).symm
      exact ⟨by kernel_rfl, fun j t ht => by
        rw [Tryd.params9] at ht
        have hm : t ∈ [47, 47, 3] := by simpa using Array.mem_of_getElem? ht
        have hall : ([47, 47, 3].all fun u => !Tryd.prog.wantsStandIn u) = true := by kernel_rfl
        exact (show Tryd.prog.wantsStandIn t = false by simpa using List.all_eq_true.1 hall t hm)⟩)
    (by kernel_rfl)
end CL7
end Go.Proofs.YtkaaejfochdjcaaDoor
