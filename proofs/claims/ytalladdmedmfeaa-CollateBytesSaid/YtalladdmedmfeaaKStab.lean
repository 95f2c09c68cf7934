/-
  slices.symMergeCmpFunc for all lists; stableCmpFunc, SortStableFunc.
-/
import Derived.Test.YtalladdmedmfeaaKSym3
namespace Go.Proofs.Ytalladdmedmfeaa
open Go.RowKit
open Alp
open Col
set_option linter.unusedVariables false
set_option linter.unusedSimpArgs false

theorem sym_all (c : Int → Int → Int) (hc : Cmp c) (C1 C2 q g N cN : Nat) (hN2 : N ≤ 1000000) (hcN : N ≤ cN) (hm : cN ≤ maxLen) : ∀ K, SymIH c C1 C2 q g N cN K := by
  intro K
  induction K with
  | zero => intro P U V S a m b w h; omega
  | succ K ih =>
    intro P U V S a m b w hK hN ha hma hb hU0 hV0 hU hV hlt hin hw hcm
    have hIH : SymIH c C1 C2 q g N cN (U.length + V.length) := fun P' U' V' S' a' m' b' w' h => ih P' U' V' S' a' m' b' w' (by omega)
    have hu1 : 0 < U.length := List.length_pos_iff.2 hU0
    have hv1 : 0 < V.length := List.length_pos_iff.2 hV0
    by_cases h1 : U.length = 1
    · obtain ⟨u, rfl⟩ : ∃ u, U = [u] := List.length_eq_one_iff.1 h1
      exact sym_one c hc C1 C2 q P u V S g N cN a m b hN hN2 hcN hm ha hma hb hV0 hV (fun v hv => hlt u (by simp) v hv) hin w hw hcm
    · by_cases h2 : V.length = 1
      · obtain ⟨v, rfl⟩ : ∃ v, V = [v] := List.length_eq_one_iff.1 h2
        exact sym_two c hc C1 C2 q P U v S g N cN a m b hN hN2 hcN hm ha hma hb (by omega) hU (fun u hu => hlt u hu v (by simp)) (fun x hx => hin x (by rcases List.mem_cons.1 hx with rfl | hx <;> simp_all)) w hw hcm
      · by_cases hmm : (a + b) / 2 < m
        · exact sym_genA c hc C1 C2 q P U V S g N cN a m b ((a + b) / 2) ((a + b) / 2 + m) ((a + b) / 2 + m - b) ((a + b) / 2) hN hN2 hcN hm ha hma hb (by omega) (by omega) hU hV hlt hin w hw hcm rfl rfl hmm (by omega) rfl hIH
        · exact sym_genB c hc C1 C2 q P U V S g N cN a m b ((a + b) / 2) ((a + b) / 2 + m) a m hN hN2 hcN hm ha hma hb (by omega) (by omega) hU hV hlt hin w hw hcm rfl rfl (by omega) rfl rfl hIH
/-! ## blocks -/
theorem ok_step {c : Int → Int → Int} {d0 D D' P M M' S : List Int} (hD : D = P ++ M ++ S) (hD' : D' = P ++ M' ++ S) (hl : M'.length = M.length) {o n : Nat} (h : Ok c d0 D o n) (hon : o + n ≤ P.length ∨ P.length + M.length ≤ o) : Ok c d0 D' o n := by
  subst hD hD'
  unfold Ok at h ⊢
  rcases hon with h1 | h1
  · rw [← sg_left (M := M) (M' := M') h1]; exact h
  · rw [← sg_right (M := M) (M' := M') hl.symm h1]; exact h
theorem ok_new {c : Int → Int → Int} {d0 D' P M' S : List Int} {o n : Nat} (hD' : D' = P ++ M' ++ S) (ho : o = P.length) (hn : n = M'.length) (hp : M'.Perm (sg d0 o n)) (hs : Sd c M') : Ok c d0 D' o n := by
  subst hD'
  unfold Ok
  rw [sg_app ho hn]
  exact ⟨hp, hs⟩
theorem sg_drop {l m : List Int} {a : Nat} (h : l.drop a = m.drop a) (n : Nat) : sg l a n = sg m a n := by unfold sg; rw [h]
theorem sg_up {l : List Int} (h : Up l) (o n : Nat) : Up (sg l o n) := (h.sublist (List.drop_sublist o l)).sublist (List.take_sublist n _)
theorem sg_mem {l : List Int} {o n : Nat} {x : Int} (h : x ∈ sg l o n) : x ∈ l := List.mem_of_mem_drop (List.mem_of_mem_take h)
theorem sg_tail {l : List Int} {o n : Nat} (h : l.length ≤ o + n) : sg l o n = l.drop o := by unfold sg; rw [List.take_of_length_le (by simp; omega)]
theorem mul_e (s t : Nat) : s * (2 * t + 2) = 2 * s * t + 2 * s := by rw [Nat.mul_add, Nat.mul_comm s 2, ← Nat.mul_assoc, Nat.mul_comm s 2]
theorem mul_e1 (s t : Nat) : s * (2 * t + 1) = 2 * s * t + s := by rw [Nat.mul_add, Nat.mul_one, ← Nat.mul_assoc, Nat.mul_comm s 2]
theorem mul_e0 (s t : Nat) : s * (2 * t) = 2 * s * t := by rw [← Nat.mul_assoc, Nat.mul_comm s 2]
/-- The first t blocks of 20 are sorted, the rest is as it was. -/
def St1 (c : Int → Int → Int) (d0 D : List Int) (t : Nat) : Prop := D.length = d0.length ∧ (∀ k, k < t → Ok c d0 D (20 * k) 20) ∧ D.drop (20 * t) = d0.drop (20 * t)
theorem St1.step {c : Int → Int → Int} {d0 D D' P M' S : List Int} {t : Nat} (h : St1 c d0 D t) (hD : D = P ++ sg D (20 * t) 20 ++ S) (hP : P.length = 20 * t) (hl : (sg D (20 * t) 20).length = 20) (hD' : D' = P ++ M' ++ S) (hp : M'.Perm (sg D (20 * t) 20)) (hs : Sd c M') : St1 c d0 D' (t + 1) := by
  obtain ⟨h1, h2, h3⟩ := h
  have hML : M'.length = (sg D (20 * t) 20).length := hp.length_eq
  refine ⟨?_, fun k hk => ?_, ?_⟩
  · have := congrArg List.length hD
    rw [hD', ← h1]
    simp only [List.length_append] at this ⊢
    omega
  · by_cases e : k = t
    · subst e
      exact ok_new hD' hP.symm (by omega) (by rw [← sg_drop h3 20]; exact hp) hs
    · exact ok_step hD hD' hML (h2 k (by omega)) (.inl (by omega))
  · have e1 : D'.drop (20 * (t + 1)) = S := by rw [hD']; exact List.drop_left' (by simp only [List.length_append]; omega)
    have e2 : D.drop (20 * (t + 1)) = S := by
      conv => lhs; rw [hD]
      exact List.drop_left' (by simp only [List.length_append]; omega)
    rw [e1, ← e2, show 20 * (t + 1) = 20 * t + 20 by omega, ← List.drop_drop, h3, List.drop_drop]
/-- All blocks of s are sorted. -/
def StN (c : Int → Int → Int) (d0 D : List Int) (s : Nat) : Prop := D.length = d0.length ∧ ∀ k, Ok c d0 D (s * k) s
theorem St1.last {c : Int → Int → Int} {d0 D D' P M' : List Int} {t : Nat} (h : St1 c d0 D t) (hD : D = P ++ D.drop (20 * t)) (hP : P.length = 20 * t) (ht : d0.length < 20 * t + 20) (hD' : D' = P ++ M' ++ []) (hp : M'.Perm (D.drop (20 * t))) (hs : Sd c M') : StN c d0 D' 20 := by
  obtain ⟨h1, h2, h3⟩ := h
  have hML : M'.length = (D.drop (20 * t)).length := hp.length_eq
  have hl : D'.length = d0.length := by
    have := congrArg List.length hD
    rw [hD', ← h1]
    simp only [List.length_append, List.length_nil] at this ⊢
    omega
  refine ⟨hl, fun k => ?_⟩
  rcases Nat.lt_trichotomy k t with e | e | e
  · exact ok_step (M := D.drop (20 * t)) (S := []) (by rw [List.append_nil]; exact hD) hD' hML (h2 k e) (.inl (by omega))
  · subst e
    have hlen : (D.drop (20 * k)).length ≤ 20 := by rw [List.length_drop]; omega
    have h5 : Ok c d0 D' (20 * k) M'.length := ok_new hD' hP.symm rfl (by
      rw [hML]
      have : sg d0 (20 * k) (D.drop (20 * k)).length = d0.drop (20 * k) := by rw [sg_tail (by rw [List.length_drop]; omega)]
      rw [this, ← h3]
      exact hp) hs
    exact h5.more hl (by rw [hD']; simp only [List.length_append, List.length_nil]; omega) (by omega)
  · exact Ok.none hl (by rw [hl]; omega)
/-- While blocks of s are merged: the first t blocks of 2 s are sorted, and all blocks of s behind them. -/
def St2 (c : Int → Int → Int) (d0 D : List Int) (s t : Nat) : Prop := D.length = d0.length ∧ (∀ k, k < t → Ok c d0 D (2 * s * k) (2 * s)) ∧ ∀ k, 2 * t ≤ k → Ok c d0 D (s * k) s
theorem StN.begin {c : Int → Int → Int} {d0 D : List Int} {s : Nat} (h : StN c d0 D s) : St2 c d0 D s 0 := ⟨h.1, fun k hk => by omega, fun k _ => h.2 k⟩
theorem mul_lt {B k t : Nat} (h : k < t) : B * k + B ≤ B * t := by
  have := Nat.mul_le_mul_left B (show k + 1 ≤ t from h)
  rwa [Nat.mul_succ] at this
theorem St2.two {c : Int → Int → Int} {d0 D : List Int} {s t a : Nat} (h : St2 c d0 D s t) (ha : a = 2 * s * t) : Ok c d0 D a s ∧ Ok c d0 D (a + s) s := by
  obtain ⟨h1, h2, h3⟩ := h
  have g1 := h3 (2 * t) (Nat.le_refl _)
  have g2 := h3 (2 * t + 1) (by omega)
  rw [mul_e0, ← ha] at g1
  rw [mul_e1, ← ha] at g2
  exact ⟨g1, g2⟩
/-- A merged pair, at a; n numbers of it. -/
theorem St2.step {c : Int → Int → Int} {d0 D D' P M M' S : List Int} {s t a n : Nat} (h : St2 c d0 D s t) (ha : a = 2 * s * t) (hD : D = P ++ M ++ S) (hP : P.length = a) (hn : M.length = n) (hns : n = 2 * s ∨ (n ≤ 2 * s ∧ d0.length = a + n)) (hD' : D' = P ++ M' ++ S) (hp : M'.Perm M) (hM : M.Perm (sg d0 a n)) (hs : Sd c M') : St2 c d0 D' s (t + 1) := by
  obtain ⟨h1, h2, h3⟩ := h
  have hML : M'.length = M.length := hp.length_eq
  have hl : D'.length = d0.length := by
    rw [hD', ← h1, hD]
    simp only [List.length_append]
    omega
  refine ⟨hl, fun k hk => ?_, fun k hk => ?_⟩
  · by_cases e : k = t
    · subst e
      rw [← ha]
      have h5 : Ok c d0 D' a n := ok_new hD' hP.symm (by omega) (hp.trans hM) hs
      rcases hns with e | ⟨e1, e2⟩
      · rw [← e]; exact h5
      · exact h5.more hl (by omega) e1
    · have hkt : k < t := by omega
      have := mul_lt (B := 2 * s) hkt
      exact ok_step hD hD' hML (h2 k hkt) (.inl (by omega))
  · have e1 : s * (2 * t + 2) ≤ s * k := Nat.mul_le_mul_left s (by omega)
    rw [mul_e, ← ha] at e1
    rcases hns with e | ⟨e2, e3⟩
    · exact ok_step hD hD' hML (h3 k (by omega)) (.inr (by omega))
    · exact Ok.none hl (by omega)
theorem St2.done {c : Int → Int → Int} {d0 D : List Int} {s t a : Nat} (h : St2 c d0 D s t) (ha : a = 2 * s * t) (hN : d0.length < a + 2 * s) (hm : d0.length ≤ a + s) : StN c d0 D (2 * s) := by
  obtain ⟨h1, h2, h3⟩ := h
  refine ⟨h1, fun k => ?_⟩
  rcases Nat.lt_trichotomy k t with e | e | e
  · exact h2 k e
  · subst e
    have g1 := h3 (2 * k) (Nat.le_refl _)
    rw [mul_e0] at g1
    exact g1.more h1 (by rw [h1, ← ha]; exact hm) (by omega)
  · have := mul_lt (B := 2 * s) e
    exact Ok.none h1 (by omega)
theorem St2.full {c : Int → Int → Int} {d0 D : List Int} {s t a : Nat} (h : St2 c d0 D s (t + 1)) (ha : a = 2 * s * t) (hN : d0.length < a + 2 * s) : StN c d0 D (2 * s) := by
  obtain ⟨h1, h2, h3⟩ := h
  refine ⟨h1, fun k => ?_⟩
  by_cases e : k < t + 1
  · exact h2 k e
  · have := mul_lt (B := 2 * s) (show t < k by omega)
    exact Ok.none h1 (by omega)
theorem StN.all {c : Int → Int → Int} {d0 D : List Int} {s : Nat} (h : StN c d0 D s) (hs : d0.length ≤ s) : D.Perm d0 ∧ Sd c D := by
  have h0 := h.2 0
  rw [Nat.mul_zero] at h0
  have e1 : sg D 0 s = D := by rw [sg_tail (by have := h.1; omega)]; rfl
  have e2 : sg d0 0 s = d0 := by rw [sg_tail (by omega)]; rfl
  unfold Ok at h0
  rw [e1, e2] at h0
  exact h0
set_option maxRecDepth 1000000 in
set_option maxHeartbeats 16000000 in
theorem stable_any (c : Int → Int → Int) (hc : Cmp c) (C1 C2 q : Nat) (d0 : List Int) (g N cN : Nat) (hN : N = d0.length) (hN2 : N ≤ 1000000) (hcN : N ≤ cN) (hm : cN ≤ maxLen) (hup : Up d0) (hin : inL q d0) (w : World) (hw : Blk w g (iv d0) 3) (hcm : CmpOK c C1 C2 q g w) :
    Calls Try.prog 65 #[.slice (some ⟨g, 0, none⟩) N cN, .int .i64 (N : Int), .func (.func 52) #[] #[.pointer (some ⟨C1, 0, none⟩), .pointer (some ⟨C2, 0, none⟩)]] w (MPost w g fun d => d.Perm d0 ∧ Sd c d) := by
  have hm' : cN ≤ 9223372036854775807 := by unfold maxLen at hm; omega
  have HW := Lib.hid (SW.start hw)
  have HCM := Lib.hid hcm
  have HX : Hid (N = d0.length ∧ Up d0 ∧ inL q d0 ∧ Cmp c) := Lib.hid ⟨hN, hup, hin, hc⟩
  -- the insertion sort of a block
  have HINS : Hid (∀ W D P M S a b, SW w g D W → D = P ++ M ++ S → D.length = N → a = P.length → b = a + M.length → Up M → inL q M → Calls Try.prog 70 #[.slice (some ⟨g, 0, none⟩) N cN, .int .i64 ((a : Nat) : Int), .int .i64 ((b : Nat) : Int), .func (.func 52) #[] #[.pointer (some ⟨C1, 0, none⟩), .pointer (some ⟨C2, 0, none⟩)]] W (MPost W g fun d => ∃ M', d = P ++ M' ++ S ∧ M'.Perm M ∧ Sd c M')) := Lib.hid fun W D P M S a b hW hD hl ha hb hu hi => ins_any c hc C1 C2 q P M S g N cN a b (by rw [← hD, hl]) hN2 hcN hm ha (by rw [List.length_append]; omega) hu hi W (by rw [← hD]; exact hW.1) (Lib.hid (hcm.next hW.2))
  have HSYM : Hid (∀ W D P U V S a m b, SW w g D W → D = P ++ (U ++ V) ++ S → D.length = N → a = P.length → m = a + U.length → b = m + V.length → U ≠ [] → V ≠ [] → Sd c U → Sd c V → (∀ u ∈ U, ∀ v ∈ V, u < v) → inL q (U ++ V) → Calls Try.prog 71 #[.slice (some ⟨g, 0, none⟩) N cN, .int .i64 ((a : Nat) : Int), .int .i64 ((m : Nat) : Int), .int .i64 ((b : Nat) : Int), .func (.func 52) #[] #[.pointer (some ⟨C1, 0, none⟩), .pointer (some ⟨C2, 0, none⟩)]] W (MPost W g (MergeQ c P U V S))) := Lib.hid fun W D P U V S a m b hW hD hl ha hma hb h1 h2 h3 h4 h5 h6 => sym_all c hc C1 C2 q g N cN hN2 hcN hm (U.length + V.length + 1) P U V S a m b W (Nat.lt_succ_self _) (by rw [← hl, hD]; simp) ha hma hb h1 h2 h3 h4 h5 h6 (by have h := hW.1; rw [hD] at h; simpa using h) (hcm.next hW.2)
  clear hN hup hin hw hcm hc
  go_enter Try.func65, Try.ntmps65
  go_wp2_with fail
  go_loopg [7, 8] N (fun gg s7 s8 wr => ∃ (t a : Nat) (D : List Int), a ≤ N ∧ N ≤ a + gg ∧ s7 = .int .i64 (a : Int) ∧ s8 = .int .i64 ((a : Int) + 20) ∧ Hid (a = 20 * t ∧ St1 c d0 D t ∧ SW w g D wr))
  case atStart => exact ⟨0, 0, d0, Nat.zero_le _, by omega, by go_num, by go_num, Lib.hid ⟨rfl, ⟨rfl, fun k hk => by omega, rfl⟩, HW.out⟩⟩
  case round =>
    clear HW
    obtain ⟨t, a, D, haN, hag, rfl, rfl, HI⟩ := hrel
    have HDL : Hid (D.length = N ∧ 20 * t = a) := Lib.hid ⟨by rw [HI.out.2.1.1, HX.out.1], HI.out.1.symm⟩
    by_cases hb : a + 20 ≤ N
    · obtain ⟨b, hbe⟩ : ∃ b, b = a + 20 := ⟨_, rfl⟩
      have e1 : (a : Int) + 20 = (b : Int) := by omega
      have hbN : b ≤ N := by omega
      obtain ⟨P, S, eD, lP, lM⟩ := sg_open D (20 * t) 20 (by rw [HDL.out.1, HDL.out.2]; exact hb)
      have HC : Hid (Calls Try.prog 70 #[.slice (some ⟨g, 0, none⟩) N cN, .int .i64 (a : Int), .int .i64 (b : Int), .func (.func 52) #[] #[.pointer (some ⟨C1, 0, none⟩), .pointer (some ⟨C2, 0, none⟩)]] wr (MPost wr g fun d => ∃ M', d = P ++ M' ++ S ∧ M'.Perm (sg D (20 * t) 20) ∧ Sd c M')) := Lib.hid (HINS.out wr D P (sg D (20 * t) 20) S a b HI.out.2.2 eD HDL.out.1 (by rw [lP, HDL.out.2]) (by rw [lM, hbe]) (by rw [sg_drop HI.out.2.1.2.2]; exact sg_up HX.out.2.1 _ _) (fun x hx => HX.out.2.2.1 x (by rw [sg_drop HI.out.2.1.2.2] at hx; exact sg_mem hx)))
      have HS : Hid (∀ M', M'.Perm (sg D (20 * t) 20) → Sd c M' → St1 c d0 (P ++ M' ++ S) (t + 1)) := Lib.hid fun M' hp hs => HI.out.2.1.step eD lP lM rfl hp hs
      clear eD lP lM hb hbe
      go_wp2_with ((with_reducible refine (HC.out).mono ?_); rintro e w3 hp; obtain ⟨rfl, d3, ⟨M', hd3, hp3, hsd3⟩, hs3⟩ := m_out hp; have HM : Hid (St1 c d0 (P ++ M' ++ S) (t + 1) ∧ SW w g (P ++ M' ++ S) w3) := Lib.hid ⟨HS.out M' hp3 hsd3, by rw [← hd3]; exact HI.out.2.2.trans hs3⟩; clear hp hs3 hd3 hp3 hsd3)
      go_roundg (gk - 20)
      case rel => exact ⟨t + 1, b, P ++ M' ++ S, hbN, by omega, rfl, by go_num, Lib.hid ⟨by have := HDL.out.2; omega, HM.out.1, HM.out.2⟩⟩
      case measure => omega
    · have hb' : ¬ (a : Int) + 20 ≤ (N : Int) := by omega
      obtain ⟨P, M, eD, lP⟩ := split_at D a (by rw [HDL.out.1]; exact haN)
      have eM : D.drop (20 * t) = M := by rw [HDL.out.2]; conv => lhs; rw [eD]
                                          exact List.drop_left' lP
      have HC : Hid (Calls Try.prog 70 #[.slice (some ⟨g, 0, none⟩) N cN, .int .i64 (a : Int), .int .i64 (N : Int), .func (.func 52) #[] #[.pointer (some ⟨C1, 0, none⟩), .pointer (some ⟨C2, 0, none⟩)]] wr (MPost wr g fun d => ∃ M', d = P ++ M' ++ [] ∧ M'.Perm M ∧ Sd c M')) := Lib.hid (HINS.out wr D P M [] a N HI.out.2.2 (by rw [List.append_nil]; exact eD) HDL.out.1 lP.symm (by have := HDL.out.1; rw [eD, List.length_append] at this; omega) (by rw [← eM, HI.out.2.1.2.2]; exact HX.out.2.1.sublist (List.drop_sublist _ _)) (fun x hx => HX.out.2.2.1 x (by rw [← eM, HI.out.2.1.2.2] at hx; exact List.mem_of_mem_drop hx)))
      have HS : Hid (∀ M', M'.Perm M → Sd c M' → StN c d0 (P ++ M' ++ []) 20) := Lib.hid fun M' hp hs => HI.out.2.1.last (by rw [eM]; exact eD) (by rw [lP, HDL.out.2]) (by rw [← HX.out.1, HDL.out.2]; omega) rfl (by rw [eM]; exact hp) hs
      clear eD lP eM hb
      go_wp2_with ((with_reducible refine (HC.out).mono ?_); rintro e w3 hp; obtain ⟨rfl, d3, ⟨M', hd3, hp3, hsd3⟩, hs3⟩ := m_out hp; have HM : Hid (StN c d0 (P ++ M' ++ []) 20 ∧ SW w g (P ++ M' ++ []) w3) := Lib.hid ⟨HS.out M' hp3 hsd3, by rw [← hd3]; exact HI.out.2.2.trans hs3⟩; clear hp hs3 hd3 hp3 hsd3)
      clear HI HDL HS HC
      go_loopg [6, 7, 8, 9] N (fun gg s6 s7 s8 s9 wr => ∃ (s : Nat) (D : List Int), 1 ≤ s ∧ s ≤ 2 * N + 20 ∧ N ≤ s + gg ∧ s6 = .int .i64 (s : Int) ∧ Hid (StN c d0 D s ∧ SW w g D wr))
      case atStart => exact ⟨20, _, by omega, by omega, by omega, by go_num, HM⟩
      case round =>
        clear HM
        obtain ⟨s, D2, hs1, hs2, hsg, rfl, HI⟩ := hrel
        by_cases hsN : s < N
        · go_wp2_with fail
          go_loopg [7, 8] N (fun gg s7 s8 wr => ∃ (t a : Nat) (D : List Int), a ≤ N ∧ N ≤ a + gg ∧ s7 = .int .i64 (a : Int) ∧ s8 = .int .i64 ((a : Int) + 2 * (s : Int)) ∧ Hid (a = 2 * s * t ∧ St2 c d0 D s t ∧ SW w g D wr))
          case atStart => exact ⟨0, 0, D2, Nat.zero_le _, by omega, by go_num, by go_num, Lib.hid ⟨by simp, HI.out.1.begin, HI.out.2⟩⟩
          case round =>
            clear HI
            obtain ⟨t, a, D, haN, hag, rfl, rfl, HI⟩ := hrel
            have HDL : Hid (D.length = N ∧ Ok c d0 D a s ∧ Ok c d0 D (a + s) s) := Lib.hid ⟨by rw [HI.out.2.1.1, HX.out.1], HI.out.2.1.two HI.out.1⟩
            obtain ⟨m, hme⟩ : ∃ m, m = a + s := ⟨_, rfl⟩
            have e2 : (a : Int) + (s : Int) = (m : Int) := by omega
            by_cases hb : a + 2 * s ≤ N
            · obtain ⟨b, hbe⟩ : ∃ b, b = a + 2 * s := ⟨_, rfl⟩
              have e1 : (a : Int) + 2 * (s : Int) = (b : Int) := by omega
              have hbN : b ≤ N := by omega
              obtain ⟨P, S, eD, lP, lM⟩ := sg_open D a (s + s) (by rw [HDL.out.1]; omega)
              rw [sg_split] at eD lM
              have l1 : (sg D a s).length = s := by rw [sg_length, HDL.out.1]; omega
              have l2 : (sg D (a + s) s).length = s := by rw [sg_length, HDL.out.1]; omega
              have HC : Hid (Calls Try.prog 71 #[.slice (some ⟨g, 0, none⟩) N cN, .int .i64 (a : Int), .int .i64 (m : Int), .int .i64 (b : Int), .func (.func 52) #[] #[.pointer (some ⟨C1, 0, none⟩), .pointer (some ⟨C2, 0, none⟩)]] wr (MPost wr g (MergeQ c P (sg D a s) (sg D (a + s) s) S))) := Lib.hid (HSYM.out wr D P (sg D a s) (sg D (a + s) s) S a m b HI.out.2.2 eD HDL.out.1 lP.symm (by rw [l1, hme]) (by rw [l2]; omega) (fun h => by rw [h] at l1; simp at l1; omega) (fun h => by rw [h] at l2; simp at l2; omega) HDL.out.2.1.2 HDL.out.2.2.2 (fun u hu v hv => up_seg HX.out.2.1 (Nat.le_refl _) u (HDL.out.2.1.1.mem_iff.1 hu) v (HDL.out.2.2.1.mem_iff.1 hv)) (inL_app.2 ⟨inL_perm (fun x hx => HX.out.2.2.1 x (sg_mem hx)) HDL.out.2.1.1, inL_perm (fun x hx => HX.out.2.2.1 x (sg_mem hx)) HDL.out.2.2.1⟩))
              have HS : Hid (∀ M', M'.Perm (sg D a s ++ sg D (a + s) s) → Sd c M' → St2 c d0 (P ++ M' ++ S) s (t + 1)) := Lib.hid fun M' hp hs => HI.out.2.1.step HI.out.1 eD lP lM (.inl (by omega)) rfl hp (by rw [sg_split]; exact HDL.out.2.1.1.append HDL.out.2.2.1) hs
              have HA : Hid (b = 2 * s * (t + 1)) := Lib.hid (by rw [Nat.mul_succ, ← HI.out.1, hbe])
              clear eD lP lM l1 l2 hb hbe hme
              go_wp2_with ((with_reducible refine (HC.out).mono ?_); rintro e w3 hp; obtain ⟨rfl, d3, ⟨M', hd3, hp3, hsd3⟩, hs3⟩ := m_out hp; have HM : Hid (St2 c d0 (P ++ M' ++ S) s (t + 1) ∧ SW w g (P ++ M' ++ S) w3) := Lib.hid ⟨HS.out M' hp3 hsd3, by rw [← hd3]; exact HI.out.2.2.trans hs3⟩; clear hp hs3 hd3 hp3 hsd3)
              go_roundg (gk - 1)
              case rel => exact ⟨t + 1, b, P ++ M' ++ S, hbN, by omega, rfl, by go_num, Lib.hid ⟨HA.out, HM.out.1, HM.out.2⟩⟩
              case measure => omega
            · have hb' : ¬ (a : Int) + 2 * (s : Int) ≤ (N : Int) := by omega
              by_cases hmN : m < N
              · obtain ⟨P, M, eD, lP⟩ := split_at D a (by rw [HDL.out.1]; exact haN)
                have eM : sg D a (s + s) = M := by
                  rw [sg_tail (by rw [HDL.out.1]; omega)]
                  conv => lhs; rw [eD]
                  exact List.drop_left' lP
                rw [sg_split] at eM
                have l1 : (sg D a s).length = s := by rw [sg_length, HDL.out.1]; omega
                have l2 : (sg D (a + s) s).length = N - m := by rw [sg_length, HDL.out.1]; omega
                have lM : M.length = N - a := by rw [← eM, List.length_append]; omega
                have HC : Hid (Calls Try.prog 71 #[.slice (some ⟨g, 0, none⟩) N cN, .int .i64 (a : Int), .int .i64 (m : Int), .int .i64 (N : Int), .func (.func 52) #[] #[.pointer (some ⟨C1, 0, none⟩), .pointer (some ⟨C2, 0, none⟩)]] wr (MPost wr g (MergeQ c P (sg D a s) (sg D (a + s) s) []))) := Lib.hid (HSYM.out wr D P (sg D a s) (sg D (a + s) s) [] a m N HI.out.2.2 (by rw [eM, List.append_nil]; exact eD) HDL.out.1 lP.symm (by rw [l1, hme]) (by rw [l2]; omega) (fun h => by rw [h] at l1; simp at l1; omega) (fun h => by rw [h] at l2; simp at l2; omega) HDL.out.2.1.2 HDL.out.2.2.2 (fun u hu v hv => up_seg HX.out.2.1 (Nat.le_refl _) u (HDL.out.2.1.1.mem_iff.1 hu) v (HDL.out.2.2.1.mem_iff.1 hv)) (inL_app.2 ⟨inL_perm (fun x hx => HX.out.2.2.1 x (sg_mem hx)) HDL.out.2.1.1, inL_perm (fun x hx => HX.out.2.2.1 x (sg_mem hx)) HDL.out.2.2.1⟩))
                have HS : Hid (∀ M', M'.Perm (sg D a s ++ sg D (a + s) s) → Sd c M' → StN c d0 (P ++ M' ++ []) (2 * s)) := Lib.hid fun M' hp hs => (HI.out.2.1.step (n := N - a) HI.out.1 (P := P) (M := M) (S := []) (by rw [List.append_nil]; exact eD) lP lM (.inr ⟨by omega, by rw [← HX.out.1]; omega⟩) rfl (by rw [← eM]; exact hp) (by
                  have h := HDL.out.2.1.1.append HDL.out.2.2.1
                  rw [← sg_split, ← sg_split] at h
                  have h1 : sg D a (s + s) = M := by rw [sg_split]; exact eM
                  rw [h1, sg_more (l := d0) (n := N - a) (by rw [← HX.out.1]; omega) (by omega)] at h
                  exact h) hs).full HI.out.1 (by rw [← HX.out.1]; omega)
                clear eD lP eM lM l1 l2 hb hme
                go_wp2_with ((with_reducible refine (HC.out).mono ?_); rintro e w3 hp; obtain ⟨rfl, d3, ⟨M', hd3, hp3, hsd3⟩, hs3⟩ := m_out hp; have HM : Hid (StN c d0 (P ++ M' ++ []) (2 * s) ∧ SW w g (P ++ M' ++ []) w3) := Lib.hid ⟨HS.out M' hp3 hsd3, by rw [← hd3]; exact HI.out.2.2.trans hs3⟩; clear hp hs3 hd3 hp3 hsd3)
                go_roundg (N - 2 * s)
                case rel => exact ⟨2 * s, P ++ M' ++ [], by omega, by omega, by omega, by go_num, Lib.hid ⟨HM.out.1, HM.out.2⟩⟩
                case measure => omega
              · have HM : Hid (StN c d0 D (2 * s) ∧ SW w g D wr) := Lib.hid ⟨HI.out.2.1.done HI.out.1 (by rw [← HX.out.1]; omega) (by rw [← HX.out.1]; omega), HI.out.2.2⟩
                clear hme
                go_wp2_with fail
                go_roundg (N - 2 * s)
                case rel => exact ⟨2 * s, D, by omega, by omega, by omega, by go_num, Lib.hid ⟨HM.out.1, HM.out.2⟩⟩
                case measure => omega
        · have HE : Hid (D2.Perm d0 ∧ Sd c D2) := Lib.hid (HI.out.1.all (by rw [← HX.out.1]; omega))
          go_wp2_with fail
          go_end0
          exact ⟨D2, HE.out, rfl, HI.out.2⟩
set_option maxRecDepth 1000000 in
set_option maxHeartbeats 8000000 in
theorem sortstable_any (c : Int → Int → Int) (hc : Cmp c) (C1 C2 q : Nat) (d0 : List Int) (g N cN : Nat) (hN : N = d0.length) (hN2 : N ≤ 1000000) (hcN : N ≤ cN) (hm : cN ≤ maxLen) (hup : Up d0) (hin : inL q d0) (w : World) (hw : Blk w g (iv d0) 3) (hcm : CmpOK c C1 C2 q g w) :
    Calls Try.prog 51 #[.slice (some ⟨g, 0, none⟩) N cN, .func (.func 52) #[] #[.pointer (some ⟨C1, 0, none⟩), .pointer (some ⟨C2, 0, none⟩)]] w (MPost w g fun d => d.Perm d0 ∧ Sd c d) := by
  have HC := Lib.hid (stable_any c hc C1 C2 q d0 g N cN hN hN2 hcN hm hup hin w hw hcm)
  have hm' : cN ≤ 9223372036854775807 := by unfold maxLen at hm; omega
  clear hN hup hin hw hcm hc
  go_enter Try.func51, Try.ntmps51
  go_wp2_with ((with_reducible refine (HC.out).mono ?_); rintro e w3 hp; obtain ⟨rfl, d3, hq3, hs3⟩ := m_out hp)
  go_end0
  exact ⟨d3, hq3, rfl, hs3⟩
end Go.Proofs.Ytalladdmedmfeaa
