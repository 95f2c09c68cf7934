/-
  The laws' words: raw with its rows' places; the two lists joined; sections in order.
-/
import Derived.Test.YtalladdmedmfeaaKLaw
import Derived.Test.YtalladdmedmfeaaKSort
import Derived.Test.YtalladdmedmfeaaAWT
namespace Go.Proofs.Ytalladdmedmfeaa
open Go.RowKit
open Alp
open Col
set_option linter.unusedVariables false
set_option linter.unusedSimpArgs false

def Hi (B : Nat) (xs : List Value) : Prop := ∀ v ∈ xs, ∀ p n c, v = .slice (some p) n c → B ≤ p.block
theorem hi_snoc {B : Nat} {xs : List Value} {A : Option Addr} {n c : Nat} (h : Hi B xs) (hA : ∀ p, A = some p → B ≤ p.block) : Hi B (xs ++ [.slice A n c]) := fun v hv p m k e => by
  rcases List.mem_append.1 hv with h1 | h1
  · exact h v h1 p m k e
  · have h2 : v = .slice A n c := by simpa using h1
    rw [h2] at e
    injection e with e1
    exact hA p e1
def RwPost (w : World) (e : Ending) (w' : World) : Prop := ∃ v xs us, e = .returned v ∧ (us.length ≤ 8 ∧ ∀ k, k < us.length → (us.getD k []).length ≤ 12) ∧ WnI w v xs us w' ∧ Hi w.heap.size xs
theorem WsA.other {w : World} {xs : List Value} {ws : List (List Int)} {G G' : Option Nat} {B : Nat} (h : WsA w xs ws G) (hi : Hi B xs) (hG : ∀ g, G' = some g → g < B) : WsA w xs ws G' := ⟨h.1, fun k hk => by
  obtain ⟨A, n, c, h1, h2, h3⟩ := h.2 k hk
  refine ⟨A, n, c, h1, h2, fun p hp => ⟨fun e => ?_, (h3 p hp).2⟩⟩
  subst hp
  have h4 := hi _ (List.mem_of_getElem? h1) p n c rfl
  have h5 := hG _ e
  omega⟩
theorem src_wn {w : World} {base : Nat} {E : TypeId} {v : Value} {xs : List Value} {us : List (List Int)} {size : Nat} {tx e' : TypeId} (hk : Try.prog.underlying tx = some (.slice e')) (hs : size = 1) (h : w.ownsRow base E 1 v us.length xs) (hw : Ws w xs us) : Src Try.prog size tx v us.length xs w := by
  obtain ⟨A, c, rfl, hr, h1, h2⟩ := Rd.of_own h
  subst hs
  cases A with
  | none =>
    rcases hr with hr | ⟨b, o, e, _⟩
    · have h0 : us.length = 0 := by rw [← hw.1, hr]; rfl
      rw [h0, hr]
      exact Src.ofNil w hk c
    · cases e
  | some a =>
    refine Src.ofSlice w hk a us.length c xs (by rw [hw.1, Nat.mul_one]) (fun j u hu => ?_) (ws_one hw)
    rcases hr with hr | ⟨b, o, e, hc⟩
    · rw [hr] at hu; simp at hu
    · obtain rfl : a = ⟨b, o, none⟩ := by simpa using e
      have ha : (⟨b, o, none⟩ : Addr).add j = ⟨b, o + j, none⟩ := by unfold Addr.add; split <;> simp_all
      rw [ha]
      exact hc j u hu
theorem wn_open {w wr : World} {v : Value} {xs : List Value} {ws : List (List Int)} (h : WnI w v xs ws wr) (hf : ws.length ≤ 1000) : ∃ A c, v = .slice A ws.length c ∧ WsR wr ws A ws.length c := by
  obtain ⟨A, c, rfl, hr, h1, h2⟩ := Rd.of_own h.1
  exact ⟨A, c, rfl, rfl, hf, h1, h2, xs, h.2.1.ws, hr⟩
theorem rw_out {w w' : World} {e : Ending} (h : RwPost w e w') : ∃ v xs us, e = .returned v ∧ us.length ≤ 8 ∧ WnI w v xs us w' ∧ Hi w.heap.size xs := by
  obtain ⟨v, xs, us, h1, h2, h3, h4⟩ := h
  exact ⟨v, xs, us, h1, h2.1, h3, h4⟩
theorem wn_out {w w' : World} {N : Nat} {Q : List (List Int) → Prop} {e : Ending} (h : WnPost w (fun ws => ws.length = N ∧ Q ws) e w') : ∃ v xs ws, e = .returned v ∧ ws.length = N ∧ WnI w v xs ws w' := by
  obtain ⟨v, xs, ws, h1, h2, h3⟩ := h
  exact ⟨v, xs, ws, h1, h2.1, h3⟩
/-- raw's words behind the others. -/
theorem WnI.join {w w2 w3 w4 : World} {v1 v2 v4 : Value} {xs ys : List Value} {us vs : List (List Int)} (h : WnI w v1 xs us w2) (h2 : WnI w2 v2 ys vs w3) (hi : Hi w2.heap.size ys) (hown : w4.ownsRow w.heap.size 22 1 v4 (us.length + vs.length) (xs ++ ys)) (hg : w3.grownBy w4 v1.ownBlock) (hat : v4.ownBlock = v1.ownBlock ∨ v4.ownBlock = some w3.heap.size) : WnI w v4 (xs ++ ys) (us ++ vs) w4 :=
  h.app h2.bel (h2.2.1.other hi fun g hg' => (h.1.lt g hg').2) hown hg hat
theorem al_gen {w : World} {l : List Int} {A : Option Addr} {q c : Nat} (h1 : q = (lettersP l).length) (h2 : Rd w A (lv (lettersP l))) (h3 : q ≤ c) (h4 : c ≤ maxLen) : AlR w (lettersP l) A q c :=
  ⟨h1, h3, h4, fun x hx => by have := (val_plain (letters_val l) hx).2.1; unfold maxLen; omega, h2⟩

theorem join_out {w w2 w3 w4 : World} {v1 v2 v4 : Value} {xs ys : List Value} {us vs : List (List Int)} {N : Nat} (h : WnI w v1 xs us w2) (h2 : WnI w2 v2 ys vs w3) (hi : Hi w2.heap.size ys) (hown : w4.ownsRow w.heap.size 22 1 v4 (us.length + vs.length) (xs ++ ys)) (hg : w3.grownBy w4 v1.ownBlock) (hat : v4.ownBlock = v1.ownBlock ∨ v4.ownBlock = some w3.heap.size) (hN : us.length = N) (hN2 : N ≤ 30) (hv : vs.length ≤ 8) :
    ∃ (A : Option Addr) (c n : Nat) (ws : List (List Int)), v4 = .slice A n c ∧ n ≤ 38 ∧ WsR w4 ws A n c ∧ Below w.heap.size w w4 := by
  have hj := h.join h2 hi hown hg hat
  have hl : (us ++ vs).length ≤ 38 := by rw [List.length_append]; omega
  obtain ⟨A, c, e, hr⟩ := wn_open hj (by omega)
  exact ⟨A, c, _, us ++ vs, e, hl, hr, hj.bel⟩
def RwR (W : World) (ws : List (List Int)) (A : Option Addr) (n b o : Nat) : Prop := n = 0 ∨ (A = some ⟨b, o, none⟩ ∧ ∀ k, k < n → k < 8 → ∃ A' n' c', W.cell? ⟨b, o + k, none⟩ = some (.slice A' n' c') ∧ n' = (ws.getD k []).length ∧ n' ≤ c' ∧ c' ≤ maxLen ∧ Rd W A' (iv (ws.getD k [])))
theorem RwR.below {W W' : World} {ws : List (List Int)} {A : Option Addr} {n b o : Nat} (h : RwR W ws A n b o) (hb : Below W.heap.size W W') : RwR W' ws A n b o := by
  rcases h with h | ⟨h1, h2⟩
  · exact .inl h
  · refine .inr ⟨h1, fun k hk h8 => ?_⟩
    obtain ⟨A', n', c', g1, g2, g3, g4, g5⟩ := h2 k hk h8
    exact ⟨A', n', c', (hb.cell (p := ⟨b, o + k, none⟩) (World.block_lt_of_cell? W _ g1)).trans g1, g2, g3, g4, g5.below hb⟩

/-! ## sections in the order -/
theorem sec_base {L : List Lt} (hv : valP L = true) (w : List Int) : secL L w = -1 ∨ ∃ b : Nat, secL L w = b ∧ b < L.length ∧ (L.getD b z).base = b := by
  unfold secL
  cases h : lev L 0 w with
  | nil => exact .inl rfl
  | cons x t =>
    right
    have hx : x ∈ lev L 0 w := by rw [h]; exact List.mem_cons_self ..
    obtain ⟨y, hy, rfl⟩ := List.mem_map.1 hx
    obtain ⟨y1, y2⟩ := ltr_mem hy
    obtain ⟨_, ⟨h1, h2⟩, h3, _⟩ := (lok_iff _ _ _).1 (((valP_iff L).1 hv).2.2.1 y.toNat (by omega))
    refine ⟨(L.getD y.toNat z).base.toNat, ?_, by omega, ?_⟩
    · show (L.getD y.toNat z).base = _
      omega
    · rw [h3]; omega
theorem sec_mono {L : List Lt} (hv : valP L = true) {v w : List Int} (h : cmpU L v w 0 4 ≤ 0) : secL L v ≤ secL L w := by
  have h1 : cmpL (lev L 0 v) (lev L 0 w) ≤ 0 := by
    rw [cmpU_succ] at h
    split at h <;> omega
  have hw := sec_base hv w
  unfold secL at hw ⊢
  cases e1 : lev L 0 v with
  | nil =>
    rcases hw with hw | ⟨b, hw, _⟩
    · rw [hw]; exact Int.le_refl _
    · rw [hw]; show (-1 : Int) ≤ _; omega
  | cons x t =>
    rw [e1] at h1
    cases e2 : lev L 0 w with
    | nil => rw [e2] at h1; simp [cmpL] at h1
    | cons y u =>
      rw [e2] at h1
      simp only [cmpL] at h1
      show x ≤ y
      split at h1
      · omega
      · split at h1 <;> omega
theorem up_at {n : Nat} {d : List Int} (h : d.Perm (upL n)) {i : Nat} (hi : i < n) : ∃ k : Nat, d.getD i 0 = k ∧ k < n := by
  have hl : d.length = n := by rw [h.length_eq, upL_length]
  have hm : d.getD i 0 ∈ d := by simp only [List.getD, List.getElem?_eq_getElem (by omega : i < d.length), Option.getD_some]; exact List.getElem_mem _
  have h2 := h.mem_iff.1 hm
  unfold upL at h2
  obtain ⟨k, hk, e⟩ := List.mem_map.1 h2
  exact ⟨k, e.symm, List.mem_range.1 hk⟩
theorem sd_step {c : Int → Int → Int} {d : List Int} (h : Sd c d) {i j : Nat} (hij : i < j) (hj : j < d.length) : c (d.getD i 0) (d.getD j 0) ≤ 0 := by
  have h1 := List.pairwise_iff_getElem.1 h i j (by omega) hj hij
  have h2 := lt_le h1
  simpa [List.getD, List.getElem?_eq_getElem hj, List.getElem?_eq_getElem (by omega : i < d.length)] using h2
theorem wordAt_nat (ws : List (List Int)) (k : Nat) : wordAt ws (k : Int) = ws.getD k [] := by unfold wordAt; rw [Int.toNat_natCast]

set_option maxRecDepth 1000000 in
set_option maxHeartbeats 16000000 in
theorem raw_hi (ws : List (List Int)) (A : Option Addr) (n c : Nat) (w : World) (hn : n = ws.length) (hnc : n ≤ c) (hcm : c ≤ maxLen) (b o : Nat) (hA : n = 0 ∨ (A = some ⟨b, o, none⟩ ∧ ∀ k, k < n → k < 8 → ∃ A' n' c', w.cell? ⟨b, o + k, none⟩ = some (.slice A' n' c') ∧ n' = (ws.getD k []).length ∧ n' ≤ c' ∧ c' ≤ maxLen ∧ Rd w A' (iv (ws.getD k [])))) :
    Calls Try.prog 16 #[.slice A n c] w (RwPost w) := by
  obtain ⟨j0, hj0, hy0, hy1, hy2⟩ := info_parts Try.infoSl
  have hcm' : c ≤ 9223372036854775807 := by unfold maxLen at hcm; omega
  have HA := Lib.hid hA
  have HN := Lib.hid hn
  clear hA hn
  go_enter Try.func16, Try.ntmps16
  go_wp2_with fail
  go_loopg [3, 4] 9 (fun gg s3 s4 wr => ∃ (k : Nat) (xs : List Value) (us : List (List Int)), k + gg = 9 ∧ k ≤ n ∧ k ≤ 8 ∧ s4 = .int .i64 (k : Int) ∧ Hid (WnI w s3 xs us wr ∧ us.length = k ∧ (∀ j, j < k → (us.getD j []).length ≤ 12) ∧ Hi w.heap.size xs))
  case atStart => exact ⟨0, [], [], by omega, by omega, by omega, rfl, Lib.hid ⟨⟨⟨rfl, .inl ⟨rfl, rfl⟩⟩, WsA.nil _ _, Below.refl _ _⟩, rfl, fun k hk => by omega, fun v hv => by cases hv⟩⟩
  case round =>
    obtain ⟨k, xs, us, hk, hkn, hk8, rfl, HW⟩ := hrel
    by_cases hlt : k < n
    · by_cases h8 : k < 8
      · obtain ⟨gg, rfl⟩ : ∃ x, gk = x + 1 := ⟨gk - 1, by omega⟩
        obtain ⟨rfl, hat⟩ : A = some ⟨b, o, none⟩ ∧ ∀ k, k < n → k < 8 → ∃ A' n' c', w.cell? ⟨b, o + k, none⟩ = some (.slice A' n' c') ∧ n' = (ws.getD k []).length ∧ n' ≤ c' ∧ c' ≤ maxLen ∧ Rd w A' (iv (ws.getD k [])) := by
          rcases HA.out with h | h
          · omega
          · exact h
        obtain ⟨A', n', c', hck, e1, e2, e3, e4⟩ := hat k hlt h8
        have hck2 : wr.cell? ⟨b, o + k, none⟩ = some (.slice A' n' c') := (HW.out.1.2.2.cell (p := ⟨b, o + k, none⟩) (World.block_lt_of_cell? w _ hck)).trans hck
        have HT : Hid (Calls Try.prog 42 #[.slice A' n' c', .int .i64 12] wr (TkPost wr ((ws.getD k []).take 12))) := Lib.hid (take_raw (ws.getD k []) A' n' c' e1 e2 e3 wr (e4.below HW.out.1.2.2))
        have d1 : decide ((k : Int) < 8) = true := decide_eq_true (by omega)
        have d2 : decide (k < 8) = true := decide_eq_true h8
        have hu1 : us.length + 1 ≤ maxLen := by have := HW.out.2.1; unfold maxLen; omega
        have hu2 : (us.length + 1) * 24 ≤ 140737488355328 := by have := HW.out.2.1; omega
        obtain ⟨T, hT⟩ : ∃ T, T = (ws.getD k []).take 12 := ⟨_, rfl⟩
        have hTl : T.length ≤ 12 := by rw [hT, List.length_take]; omega
        rw [← hT] at HT
        clear hat hck e1 e2 e3 e4 hT
        go_wp2_with (first
          | ((with_reducible refine HT.out.mono ?_); rintro e w3 ⟨v3, rfl, hown3, hb3⟩; obtain ⟨A9, c9, hv9, hwd, hA9⟩ := own_wd hown3 (by omega); subst hv9; have HWD : Hid (WdR w3 T A9 T.length c9 ∧ (∀ p, A9 = some p → wr.heap.size ≤ p.block ∧ p.block < w3.heap.size) ∧ WnI w u3 xs us w3) := Lib.hid ⟨hwd, hA9, HW.out.1.below hb3⟩; clear hown3 hb3 hwd hA9)
          | (at_builtin; refine wpList_own_src rfl (.tmp 15) (.tmp 21) 23 23 rfl w.heap.size 22 j0 _ 1 24 Try.underlying23 hj0 hy0 hy1 hy2 rfl _ _ _ rfl (own_alc HWD.out.2.2.1 _) _ 1 [.slice A9 T.length c9] rfl (src_one Try.underlying23 hy1 _ _ _ rfl) hu1 hu2 (below_al HWD.out.2.2.bel _).size ?_; intro v4 w4 hown4 hg4 hat4; have HZ : Hid (WnI w v4 (xs ++ [.slice A9 T.length c9]) (us ++ [T]) w4) := Lib.hid (HWD.out.2.2.app (below_a1 _ _) (WsA.one (HWD.out.1.below (below_a1 _ _)) fun p hp => ⟨fun e => by have h1 := (HW.out.1.1.lt _ e).2; have h2 := (HWD.out.2.1 p hp).1; omega, by have := (HWD.out.2.1 p hp).2; simp; omega⟩) hown4 hg4 hat4); clear hown4 hg4 hat4))
        go_roundg gg
        case rel => exact ⟨k + 1, _, _, by omega, by omega, by omega, by go_num, Lib.hid ⟨HZ.out, by rw [List.length_append, HW.out.2.1]; rfl, fun j hj => by
          by_cases e : j < k
          · have h1 : (us ++ [T]).getD j [] = us.getD j [] := by simp [List.getD, List.getElem?_append_left (show j < us.length by rw [HW.out.2.1]; exact e)]
            rw [h1]; exact HW.out.2.2.1 j e
          · obtain rfl : j = k := by omega
            have h1 : (us ++ [T]).getD j [] = T := by rw [← HW.out.2.1]; simp [List.getD]
            rw [h1]; omega, hi_snoc HW.out.2.2.2 fun p hp => Nat.le_trans HW.out.1.2.2.size ((HWD.out.2.1 p hp).1)⟩⟩
        case measure => omega
      · have d1 : decide ((k : Int) < 8) = false := decide_eq_false (by omega)
        have d2 : decide (k < 8) = false := decide_eq_false h8
        go_wp2_with fail
        go_ret
        exact ⟨_, xs, us, rfl, ⟨by rw [HW.out.2.1]; exact hk8, by rw [HW.out.2.1]; exact HW.out.2.2.1⟩, HW.out.1, HW.out.2.2.2⟩
    · obtain rfl : k = n := by omega
      go_wp2_with fail
      go_ret
      exact ⟨_, xs, us, rfl, ⟨by rw [HW.out.2.1]; exact hk8, by rw [HW.out.2.1]; exact HW.out.2.2.1⟩, HW.out.1, HW.out.2.2.2⟩
end Go.Proofs.Ytalladdmedmfeaa
