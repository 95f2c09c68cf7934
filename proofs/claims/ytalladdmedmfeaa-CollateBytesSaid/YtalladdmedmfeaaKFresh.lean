/-
  The row that lettersOf hands back is a new one; words in memory.
-/
import Derived.Test.YtalladdmedmfeaaKProg
namespace Go.Proofs.Ytalladdmedmfeaa
open Go.RowKit
open Alp
open Col
set_option linter.unusedVariables false
set_option linter.unusedSimpArgs false

def LFr (w : World) (R : List Int) (e : Ending) (w' : World) : Prop := ∃ (A : Option Addr) (c n : Nat), e = .returned (.slice A n c) ∧ n = R.length ∧ Rd w' A (iv R) ∧ n ≤ c ∧ c ≤ maxLen ∧ Below w.heap.size w w' ∧ ∀ p, A = some p → w.heap.size ≤ p.block
set_option maxRecDepth 100000 in
set_option maxHeartbeats 4000000 in
theorem letters_frx (q cq : Nat) (AL : Option Addr) (l : List Int) (A : Option Addr) (n c : Nat) (hn : n = l.length) (hn2 : n ≤ 100000) (hc : n ≤ c) (hcm : c ≤ maxLen) (hcq : q ≤ cq) (hcq2 : cq ≤ maxLen) (w : World) (b o : Nat) (hA : n = 0 ∨ (A = some ⟨b, o, none⟩ ∧ IL w b o l)) :
    Calls Try.prog 44 #[.slice AL q cq, .slice A n c] w (LFr w (ltr q l)) := by
  obtain ⟨i0, hi0, hz0, hz1, hz2⟩ := info_parts Try.infoInt
  have hmk := fun W => run_make_ints0 n (by omega) W
  obtain ⟨Z, hZ⟩ : ∃ Z, Z = (iv (List.replicate n 0)).toArray := ⟨_, rfl⟩
  rw [← hZ] at hmk
  have hm' : c ≤ 9223372036854775807 := by unfold maxLen at hcm; omega
  have hq' : q ≤ 9223372036854775807 := by unfold maxLen at hcq2; omega
  have HN := Lib.hid hn
  have HA := Lib.hid hA
  have HZ := Lib.hid hZ
  have HW0 : Hid ((w.alloc (.cells Z 3)).ownsRow w.heap.size 3 1 (.slice (some ⟨w.heap.size, 0, none⟩) 0 n) 0 (iv [])) := Lib.hid (own_made w n (by omega) Z hZ)
  clear hn hA hZ
  go_enter Try.func44, Try.ntmps44
  go_wp2_with fail
  go_loopg [5, 7, 13] n (fun g s5 s7 s13 wr => ∃ (k : Nat) (D : List Int), k + g = n ∧ D.length ≤ k ∧ s13 = .int .i64 (k : Int) ∧ Hid (D = ltr q (l.take k) ∧ wr.ownsRow w.heap.size 3 1 s5 D.length (iv D) ∧ Below w.heap.size w wr))
  case atStart => exact ⟨0, [], by omega, Nat.le_refl _, rfl, Lib.hid ⟨rfl, HW0.out, below_a1 _ _⟩⟩
  case round =>
    obtain ⟨k, D, hk, hDk, rfl, HI⟩ := hrel
    obtain ⟨A2, c2, hv, hrd, hmc, hm2⟩ := Rd.of_own HI.out.2.1
    subst hv
    have HRD := Lib.hid hrd
    have HBW : Hid (Below w.heap.size w wr) := Lib.hid HI.out.2.2
    clear hrd
    obtain ⟨d, hd⟩ : ∃ d, d = D.length := ⟨_, rfl⟩
    have HO : Hid (wr.ownsRow w.heap.size 3 1 (.slice A2 d c2) d (iv D)) := Lib.hid (by rw [hd]; exact HI.out.2.1)
    have HD := Lib.hid hd
    rw [← hd] at hDk hmc ⊢
    clear hd
    by_cases hlt : k < n
    · obtain ⟨g, rfl⟩ : ∃ g, gk = g + 1 := ⟨gk - 1, by omega⟩
      obtain ⟨x, hx⟩ : ∃ x, x = l.getD k 0 := ⟨_, rfl⟩
      have hkl : k < l.length := by rw [← HN.out]; exact hlt
      obtain ⟨rfl, hil⟩ : A = some ⟨b, o, none⟩ ∧ IL w b o l := by
        rcases HA.out with h | h
        · omega
        · exact h
      have hcx : wr.cell? ⟨b, o + k, none⟩ = some (.int .i64 x) := hil.at HI.out.2.2 hkl hx
      by_cases h0 : 0 ≤ x ∧ x < (q : Int)
      · have HH : Hid (∀ W, Calls Try.prog 47 #[.slice AL q cq, .int .i64 x] W fun e w' => e = .returned (.bool true) ∧ W = w') := Lib.hid fun W => isLetter_any _ q cq x W true ((isL_iff q x).2 h0).symm
        have HS : Hid (D ++ [x] = ltr q (l.take (k + 1))) := Lib.hid (by rw [ltr_step_yes hkl hx h0, HI.out.1])
        have hs1 : d + 1 ≤ maxLen := by unfold maxLen; omega
        have hs2 : (d + 1) * 8 ≤ 140737488355328 := by omega
        clear hx hil h0
        go_wp2_with (first
          | ((with_reducible refine (HH.out _).mono ?_); rintro e w0 ⟨rfl, rfl⟩)
          | (at_builtin; refine wpList_own_src rfl (.tmp 20) (.tmp 22) 22 22 rfl w.heap.size 3 i0 _ 1 8 Try.underlying22 hi0 hz0 hz1 hz2 rfl _ _ _ rfl (own_alc HO.out _) _ 1 [.int .i64 x] rfl (src_one Try.underlying22 hz1 _ _ _ rfl) hs1 hs2 (below_al HBW.out _).size ?_; intro v4 w4 hown4 hg4 hat4; have HX4 : Hid (w4.ownsRow w.heap.size 3 1 v4 (d + 1) (iv D ++ [.int .i64 x]) ∧ Below w.heap.size w w4) := Lib.hid ⟨hown4, below_own (below_al HBW.out _) hg4 (fun g hg => (HO.out.lt _ hg).1)⟩; clear hown4 hg4 hat4))
        go_roundg g
        case rel => exact ⟨k + 1, D ++ [x], by omega, by rw [List.length_append, List.length_singleton, ← HD.out]; omega, by go_num, Lib.hid ⟨HS.out, by rw [List.length_append, List.length_singleton, ← HD.out, iv_snoc]; exact HX4.out.1, HX4.out.2⟩⟩
        case measure => omega
      · have HH : Hid (∀ W, Calls Try.prog 47 #[.slice AL q cq, .int .i64 x] W fun e w' => e = .returned (.bool false) ∧ W = w') := Lib.hid fun W => isLetter_any _ q cq x W false (Bool.eq_false_iff.2 fun h => h0 ((isL_iff q x).1 h)).symm
        have HS : Hid (D = ltr q (l.take (k + 1))) := Lib.hid (by rw [ltr_step_no hkl hx h0, HI.out.1])
        clear hx hil h0
        go_wp2_with ((with_reducible refine (HH.out _).mono ?_); rintro e w0 ⟨rfl, rfl⟩)
        go_roundg g
        case rel => exact ⟨k + 1, D, by omega, by rw [← HD.out]; omega, by go_num, Lib.hid ⟨HS.out, by rw [← HD.out]; exact HO.out, HI.out.2.2⟩⟩
        case measure => omega
    · obtain rfl : k = n := by omega
      have HE : Hid (D = ltr q l) := Lib.hid (by rw [HI.out.1, HN.out, List.take_length])
      go_wp2_with fail
      go_ret
      exact ⟨A2, c2, d, rfl, by rw [← HE.out]; exact HD.out, by rw [← HE.out]; exact HRD.out, hmc, hm2, HI.out.2.2, fun p hp => (HO.out.lt p.block (by rw [hp]; rfl)).1⟩
theorem letters_fr (q cq : Nat) (AL : Option Addr) (l : List Int) (A : Option Addr) (n c : Nat) (hn : n = l.length) (hn2 : n ≤ 100000) (hc : n ≤ c) (hcm : c ≤ maxLen) (hcq : q ≤ cq) (hcq2 : cq ≤ maxLen) (w : World) (hr : Rd w A (iv l)) :
    Calls Try.prog 44 #[.slice AL q cq, .slice A n c] w (LFr w (ltr q l)) := by
  by_cases h0 : n = 0
  · exact letters_frx q cq AL l A n c hn hn2 hc hcm hcq hcq2 w 0 0 (.inl h0)
  · obtain ⟨b, o, e, h⟩ := il_open hr (by intro e; subst e; exact h0 hn)
    exact letters_frx q cq AL l A n c hn hn2 hc hcm hcq hcq2 w b o (.inr ⟨e, h⟩)

/-- The cells xs are slices that read as the words ws. -/
def Ws (w : World) (xs : List Value) (ws : List (List Int)) : Prop := xs.length = ws.length ∧ ∀ k, k < ws.length → ∃ A n c, xs[k]? = some (.slice A n c) ∧ WdR w (ws.getD k []) A n c
theorem Ws.below {w w' : World} {xs : List Value} {ws : List (List Int)} (h : Ws w xs ws) (hb : Below w.heap.size w w') : Ws w' xs ws := ⟨h.1, fun k hk => by
  obtain ⟨A, n, c, h1, h2⟩ := h.2 k hk
  exact ⟨A, n, c, h1, h2.below hb⟩⟩
theorem Ws.nil (w : World) : Ws w [] [] := ⟨rfl, fun k hk => by simp at hk⟩
theorem Ws.snoc {w : World} {xs : List Value} {ws : List (List Int)} (h : Ws w xs ws) {l : List Int} {A : Option Addr} {n c : Nat} (hl : WdR w l A n c) : Ws w (xs ++ [.slice A n c]) (ws ++ [l]) := by
  refine ⟨by simp [h.1], fun k hk => ?_⟩
  rw [List.length_append, List.length_singleton] at hk
  by_cases e : k = ws.length
  · subst e
    refine ⟨A, n, c, by rw [← h.1]; simp, ?_⟩
    simpa [List.getD] using hl
  · obtain ⟨A', n', c', h1, h2⟩ := h.2 k (by omega)
    refine ⟨A', n', c', ?_, ?_⟩
    · rw [List.getElem?_append_left (by have := h.1; omega)]; exact h1
    · have : (ws ++ [l]).getD k [] = ws.getD k [] := by simp [List.getD, List.getElem?_append_left (show k < ws.length by omega)]
      rw [this]; exact h2
theorem Ws.app {w : World} {xs ys : List Value} {us vs : List (List Int)} (h : Ws w xs us) (k : Ws w ys vs) : Ws w (xs ++ ys) (us ++ vs) := by
  refine ⟨by simp [h.1, k.1], fun i hi => ?_⟩
  rw [List.length_append] at hi
  by_cases e : i < us.length
  · obtain ⟨A', n', c', h1, h2⟩ := h.2 i e
    refine ⟨A', n', c', ?_, ?_⟩
    · rw [List.getElem?_append_left (by have := h.1; omega)]; exact h1
    · have : (us ++ vs).getD i [] = us.getD i [] := by simp [List.getD, List.getElem?_append_left e]
      rw [this]; exact h2
  · obtain ⟨A', n', c', h1, h2⟩ := k.2 (i - us.length) (by omega)
    refine ⟨A', n', c', ?_, ?_⟩
    · rw [List.getElem?_append_right (by have := h.1; omega), h.1]; exact h1
    · have : (us ++ vs).getD i [] = vs.getD (i - us.length) [] := by simp [List.getD, List.getElem?_append_right (show us.length ≤ i by omega)]
      rw [this]; exact h2
theorem Ws.take {w : World} {xs : List Value} {us : List (List Int)} (h : Ws w xs us) (m : Nat) : Ws w (xs.take m) (us.take m) := by
  refine ⟨by simp [h.1], fun i hi => ?_⟩
  rw [List.length_take] at hi
  obtain ⟨A', n', c', h1, h2⟩ := h.2 i (by omega)
  refine ⟨A', n', c', ?_, ?_⟩
  · rw [List.getElem?_take, if_pos (by omega)]; exact h1
  · have : (us.take m).getD i [] = us.getD i [] := by simp [List.getD, List.getElem?_take, (show i < m by omega)]
    rw [this]; exact h2
theorem ws_one {w : World} {xs : List Value} {ws : List (List Int)} (h : Ws w xs ws) : ∀ u ∈ xs, u.oneCell' = true := by
  intro u hu
  obtain ⟨k, hk, rfl⟩ := List.getElem_of_mem hu
  obtain ⟨A, n, c, h1, _⟩ := h.2 k (by rw [← h.1]; exact hk)
  rw [List.getElem?_eq_getElem hk] at h1
  rw [Option.some.inj h1]
  rfl
/-- A slice of slices that reads as a list of words. -/
structure WsR (w : World) (ws : List (List Int)) (A : Option Addr) (n c : Nat) : Prop where
  len : n = ws.length
  few : n ≤ 1000
  cap : n ≤ c
  max : c ≤ maxLen
  rd : ∃ xs, Ws w xs ws ∧ Rd w A xs
theorem WsR.below {w w' : World} {ws : List (List Int)} {A : Option Addr} {n c : Nat} (h : WsR w ws A n c) (hb : Below w.heap.size w w') : WsR w' ws A n c := ⟨h.len, h.few, h.cap, h.max, by
  obtain ⟨xs, h1, h2⟩ := h.rd
  exact ⟨xs, h1.below hb, h2.below hb⟩⟩
/-- The words' slices, by their places. -/
def WsAt (w : World) (b o : Nat) (ws : List (List Int)) : Prop := ∀ k, k < ws.length → ∃ A n c, w.cell? ⟨b, o + k, none⟩ = some (.slice A n c) ∧ WdR w (ws.getD k []) A n c
theorem WsAt.below {w w' : World} {b o : Nat} {ws : List (List Int)} (h : WsAt w b o ws) (hb : Below w.heap.size w w') : WsAt w' b o ws := fun k hk => by
  obtain ⟨A, n, c, h1, h2⟩ := h k hk
  exact ⟨A, n, c, (hb.cell (p := ⟨b, o + k, none⟩) (World.block_lt_of_cell? w _ h1)).trans h1, h2.below hb⟩
theorem ws_or {w : World} {ws : List (List Int)} {A : Option Addr} {n c : Nat} (h : WsR w ws A n c) : ∃ b o, n = 0 ∨ (A = some ⟨b, o, none⟩ ∧ WsAt w b o ws) := by
  by_cases h0 : n = 0
  · exact ⟨0, 0, .inl h0⟩
  · obtain ⟨xs, h1, h2⟩ := h.rd
    obtain ⟨b, o, e, hc⟩ := h2.open (by intro e; have h3 := h1.1; have h4 := h.len; rw [e, List.length_nil] at h3; omega)
    refine ⟨b, o, .inr ⟨e, fun k hk => ?_⟩⟩
    obtain ⟨A', n', c', g1, g2⟩ := h1.2 k hk
    exact ⟨A', n', c', hc k _ g1, g2⟩
end Go.Proofs.Ytalladdmedmfeaa
