/-
  The reference's Take and Words; the laws' raw.
-/
import Derived.Test.YtalladdmedmfeaaKGen
import Derived.Test.YtalladdmedmfeaaKFresh
namespace Go.Proofs.Ytalladdmedmfeaa
open Go.RowKit
open Alp
open Col
set_option linter.unusedVariables false
set_option linter.unusedSimpArgs false

theorem Try.infoSl : (Try.prog.info? 22).map (fun i => (i.zero, i.size, i.bytes)) = some (some (.slice none 0 0), 1, 24) := by kernel_rfl
/-- Words in memory, none of whose rows is the row G. -/
def WsA (w : World) (xs : List Value) (ws : List (List Int)) (G : Option Nat) : Prop := xs.length = ws.length ∧ ∀ k, k < ws.length → ∃ A n c, xs[k]? = some (.slice A n c) ∧ WdR w (ws.getD k []) A n c ∧ ∀ p, A = some p → G ≠ some p.block ∧ p.block < w.heap.size
theorem WsA.ws {w : World} {xs : List Value} {ws : List (List Int)} {G : Option Nat} (h : WsA w xs ws G) : Ws w xs ws := ⟨h.1, fun k hk => by
  obtain ⟨A, n, c, h1, h2, _⟩ := h.2 k hk
  exact ⟨A, n, c, h1, h2⟩⟩
theorem WsA.nil (w : World) (G : Option Nat) : WsA w [] [] G := ⟨rfl, fun k hk => by simp at hk⟩
theorem WsA.below {w w' : World} {xs : List Value} {ws : List (List Int)} {G : Option Nat} (h : WsA w xs ws G) (hb : Below w.heap.size w w') : WsA w' xs ws G := ⟨h.1, fun k hk => by
  obtain ⟨A, n, c, h1, h2, h3⟩ := h.2 k hk
  exact ⟨A, n, c, h1, h2.below hb, fun p hp => ⟨(h3 p hp).1, Nat.lt_of_lt_of_le (h3 p hp).2 hb.size⟩⟩⟩
theorem rd_grownO {w W : World} {A : Option Addr} {xs : List Value} {G : Option Nat} (h : Rd w A xs) (hg : w.grownBy W G) (hA : ∀ p, A = some p → G ≠ some p.block) : Rd W A xs := by
  rcases h with h | ⟨b, o, rfl, hc⟩
  · exact .inl h
  · refine .inr ⟨b, o, rfl, fun k v hv => ?_⟩
    have h1 := hc k v hv
    rw [← h1]
    exact World.cell?_of_block (hg.block b (World.block_lt_of_cell? w _ h1) (fun e => hA _ rfl e.symm))
theorem WsA.grown {w w' : World} {xs : List Value} {ws : List (List Int)} {G G' : Option Nat} (h : WsA w xs ws G) (hg : w.grownBy w' G) (ha : G' = G ∨ G' = some w.heap.size) : WsA w' xs ws G' := ⟨h.1, fun k hk => by
  obtain ⟨A, n, c, h1, h2, h3⟩ := h.2 k hk
  refine ⟨A, n, c, h1, ⟨h2.len, h2.few, h2.cap, h2.max, rd_grownO h2.rd hg fun p hp => (h3 p hp).1⟩, fun p hp => ⟨?_, Nat.lt_of_lt_of_le (h3 p hp).2 hg.size⟩⟩
  rcases ha with e | e
  · rw [e]; exact (h3 p hp).1
  · rw [e]; intro e2; have := Option.some.inj e2; have := (h3 p hp).2; omega⟩
theorem WsA.app {w : World} {xs ys : List Value} {us vs : List (List Int)} {G : Option Nat} (h : WsA w xs us G) (k : WsA w ys vs G) : WsA w (xs ++ ys) (us ++ vs) G := by
  refine ⟨by simp [h.1, k.1], fun i hi => ?_⟩
  rw [List.length_append] at hi
  by_cases e : i < us.length
  · obtain ⟨A', n', c', h1, h2, h3⟩ := h.2 i e
    refine ⟨A', n', c', ?_, ?_, h3⟩
    · rw [List.getElem?_append_left (by have := h.1; omega)]; exact h1
    · have : (us ++ vs).getD i [] = us.getD i [] := by simp [List.getD, List.getElem?_append_left e]
      rw [this]; exact h2
  · obtain ⟨A', n', c', h1, h2, h3⟩ := k.2 (i - us.length) (by omega)
    refine ⟨A', n', c', ?_, ?_, h3⟩
    · rw [List.getElem?_append_right (by have := h.1; omega), h.1]; exact h1
    · have : (us ++ vs).getD i [] = vs.getD (i - us.length) [] := by simp [List.getD, List.getElem?_append_right (show us.length ≤ i by omega)]
      rw [this]; exact h2
theorem WsA.one {w : World} {A : Option Addr} {n c : Nat} {l : List Int} {G : Option Nat} (h : WdR w l A n c) (hA : ∀ p, A = some p → G ≠ some p.block ∧ p.block < w.heap.size) : WsA w [.slice A n c] [l] G := ⟨rfl, fun k hk => by
  rw [List.length_singleton] at hk
  obtain rfl : k = 0 := by omega
  exact ⟨A, n, c, rfl, h, hA⟩⟩
/-- A row of the call's own that holds words. -/
def WnI (w : World) (v : Value) (xs : List Value) (ws : List (List Int)) (wr : World) : Prop := wr.ownsRow w.heap.size 22 1 v ws.length xs ∧ WsA wr xs ws v.ownBlock ∧ Below w.heap.size w wr
theorem WnI.below {w wr w2 : World} {v : Value} {xs : List Value} {ws : List (List Int)} (h : WnI w v xs ws wr) (hb : Below wr.heap.size wr w2) : WnI w v xs ws w2 := ⟨own_keep h.1 hb, h.2.1.below hb, below_next h.2.2 hb⟩
theorem WnI.bel {w wr : World} {v : Value} {xs : List Value} {ws : List (List Int)} (h : WnI w v xs ws wr) : Below w.heap.size w wr := h.2.2
/-- One word, or several, put behind. -/
theorem WnI.app {w wr wa w4 : World} {v v4 : Value} {xs ys : List Value} {us vs : List (List Int)} (h : WnI w v xs us wr) (hb : Below wr.heap.size wr wa) (hy : WsA wa ys vs v.ownBlock) (hown : w4.ownsRow w.heap.size 22 1 v4 (us.length + vs.length) (xs ++ ys)) (hg : wa.grownBy w4 v.ownBlock) (hat : v4.ownBlock = v.ownBlock ∨ v4.ownBlock = some wa.heap.size) : WnI w v4 (xs ++ ys) (us ++ vs) w4 := by
  have h' := h.below hb
  exact ⟨by rw [List.length_append]; exact hown, (h'.2.1.app hy).grown hg hat, below_own h'.2.2 hg (fun g hg' => (h'.1.lt g hg').1)⟩
def WnPost (w : World) (Q : List (List Int) → Prop) (e : Ending) (w' : World) : Prop := ∃ v xs ws, e = .returned v ∧ Q ws ∧ WnI w v xs ws w'
/-- A new row of numbers. -/
def TkPost (w : World) (l : List Int) (e : Ending) (w' : World) : Prop := ∃ v, e = .returned v ∧ w'.ownsRow w.heap.size 3 1 v l.length (iv l) ∧ Below w.heap.size w w'
theorem own_wd {w' : World} {v : Value} {l : List Int} {base : Nat} (h : w'.ownsRow base 3 1 v l.length (iv l)) (hl : l.length ≤ 100000) : ∃ A c, v = .slice A l.length c ∧ WdR w' l A l.length c ∧ ∀ p, A = some p → base ≤ p.block ∧ p.block < w'.heap.size := by
  obtain ⟨A, c, rfl, hrd, h1, h2⟩ := Rd.of_own h
  exact ⟨A, c, rfl, ⟨rfl, hl, h1, h2, hrd⟩, fun p hp => h.lt p.block (by rw [hp]; rfl)⟩
structure WdB (w : World) (l : List Int) (A : Option Addr) (n c : Nat) : Prop where
  len : n = l.length
  cap : n ≤ c
  max : c ≤ maxLen
  rd : Rd w A (iv l)
theorem src_iv {P : Program} {w : World} {size : Nat} {tx e' : TypeId} (hk : P.underlying tx = some (.slice e')) (hs : size = 1) {A : Option Addr} {l : List Int} {m : Nat} (hm : m = l.length) (h : Rd w A (iv l)) (hA : A = none → l = []) (c : Nat) : Src P size tx (.slice A m c) m (iv l) w := by
  subst hs hm
  cases A with
  | none =>
    have hl := hA rfl
    subst hl
    exact Src.ofNil w hk c
  | some a =>
    refine Src.ofSlice w hk a l.length c (iv l) (by rw [iv_length, Nat.mul_one]) (fun j u hu => ?_) (iv_one l)
    rcases h with h | ⟨b, o, e, hc⟩
    · rw [h] at hu; simp at hu
    · obtain rfl : a = ⟨b, o, none⟩ := by simpa using e
      have ha : (⟨b, o, none⟩ : Addr).add j = ⟨b, o + j, none⟩ := by unfold Addr.add; split <;> simp_all
      rw [ha]
      exact hc j u hu
set_option maxRecDepth 1000000 in
set_option maxHeartbeats 16000000 in
theorem words_any (L : List Lt) (AL : Option Addr) (q cq : Nat) (hq1 : 1 ≤ q) (hq60 : q ≤ 60) (l : List Int) (A : Option Addr) (n c : Nat) (hn : n = l.length) (hc : n ≤ c) (hcm : c ≤ maxLen) (hin : ∀ x ∈ l, inI x) (N : Nat) (hN : N ≤ 30) (w : World) (ha : AlR w L AL q cq) (hr : Rd w A (iv l)) :
    Calls Try.prog 15 #[.slice AL q cq, .slice A n c, .int .i64 (N : Int)] w (WnPost w fun ws => ws.length = N ∧ ∀ k, k < N → (ws.getD k []).length ≤ 3 * (k + 1)) := by
  obtain ⟨i0, hi0, hz0, hz1, hz2⟩ := info_parts Try.infoInt
  obtain ⟨j0, hj0, hy0, hy1, hy2⟩ := info_parts Try.infoSl
  have HX : Hid (AlR w L AL q cq ∧ q ≤ 60) := Lib.hid ⟨ha, hq60⟩
  have hqc : q ≤ cq := ha.cap
  have hqm : cq ≤ 9223372036854775807 := by have := ha.max; unfold maxLen at this; omega
  have hq0 : ¬ q = 0 := by omega
  have HNM : Hid (∀ (i : Nat) (I : Int), I = (i : Int) → i ≤ 10000 → ∀ W, Below w.heap.size w W → Calls Try.prog 40 #[.slice A n c, .int .i64 I] W (NPost W (numP l i))) := Lib.hid fun i I hI hi W hb => by rw [hI]; exact num_any l A n c hn hc hcm hin i hi W (hr.below hb)
  have HNB : Hid (∀ i, i ≤ 10000 → numP l i ≤ 1200000) := Lib.hid fun i hi => numP_bd l hi
  clear ha hn hin hr hcm
  go_enter Try.func15, Try.ntmps15
  go_wp2_with fail
  go_loopg [7, 8, 9, 10, 11, 12, 13, 14, 15, 16] N (fun gg s7 s8 s9 s10 s11 s12 s13 s14 s15 s16 wr => ∃ (i : Nat) (xs : List Value) (ws : List (List Int)), i + gg = N ∧ s8 = .int .i64 (i : Int) ∧ Hid (WnI w s7 xs ws wr ∧ ws.length = i ∧ ∀ k, k < i → (ws.getD k []).length ≤ 3 * (k + 1)))
  case atStart => exact ⟨0, [], [], by omega, rfl, Lib.hid ⟨⟨⟨rfl, .inl ⟨rfl, rfl⟩⟩, WsA.nil _ _, Below.refl _ _⟩, rfl, fun k hk => by omega⟩⟩
  case round =>
    obtain ⟨i, xs, ws, hig, rfl, HW⟩ := hrel
    by_cases hlt : i < N
    · obtain ⟨gg, rfl⟩ : ∃ x, gk = x + 1 := ⟨gk - 1, by omega⟩
      rename World => w0
      have HI : Hid (WnI w u7 xs ws w0 ∧ ws.length = i ∧ Below w.heap.size w w0) := Lib.hid ⟨HW.out.1, HW.out.2.1, HW.out.1.2.2⟩
      by_cases hi1 : i = 0
      · have HP : Hid (([] : List Int).length ≤ 3 * i ∧ w0.ownsRow w0.heap.size 3 1 (.slice none 0 0) ([] : List Int).length (iv []) ∧ Below w0.heap.size w0 w0) := Lib.hid ⟨Nat.zero_le _, ⟨rfl, .inl ⟨rfl, rfl⟩⟩, Below.refl _ _⟩
        obtain ⟨D0, hD0⟩ : ∃ D : List Int, D = [] := ⟨_, rfl⟩
        rw [← hD0] at HP
        have HD0 := Lib.hid hD0
        have hd0 : ¬ (0 : Int) < (i : Int) := by omega
        clear hD0 hi1
        obtain ⟨m0, hm0⟩ : ∃ m0, m0 = 3 * i + 1 := ⟨_, rfl⟩
        obtain ⟨h3, hh3⟩ : ∃ h3, h3 = numP l m0 := ⟨_, rfl⟩
        have hh4 : h3 ≤ 1200000 := by rw [hh3]; exact HNB.out m0 (by omega)
        obtain ⟨mo, hmo⟩ : ∃ mo, mo = h3 % 4 := ⟨_, rfl⟩
        have hmo4 : mo ≤ 3 := by omega
        have hmo2 : (h3 : Int) % 4 = (mo : Int) := by omega
        have hm1 : 3 * (i : Int) + 1 = (m0 : Int) := by omega
        have HN3 : Hid (∀ W, Below w0.heap.size w0 W → Calls Try.prog 40 #[.slice A n c, .int .i64 (m0 : Int)] W (NPost W h3)) := Lib.hid fun W hb => by rw [hh3]; exact HNM.out m0 _ rfl (by omega) W (below_next HI.out.2.2 hb)
        have hDl := HP.out.1
        clear hm0 hh3 hmo
        go_wp2_with ((with_reducible refine (HN3.out _ HP.out.2.2).mono ?_); rintro e wn ⟨rfl, rfl⟩)
        try simp only [hmo2]
        go_loopg [9, 15, 16] mo (fun gi s9 s15 s16 wi => ∃ (k : Nat) (D : List Int), k + gi = mo ∧ D.length ≤ 3 * i + k ∧ s15 = .int .i64 (k : Int) ∧ Hid (wi.ownsRow w0.heap.size 3 1 s9 D.length (iv D) ∧ Below w0.heap.size w0 wi))
        case atStart => exact ⟨0, D0, by omega, by omega, rfl, Lib.hid HP.out.2⟩
        case round =>
          clear HP hDl
          obtain ⟨k, D, hk, hDl, rfl, HJ⟩ := hrel
          by_cases hlt2 : k < mo
          · obtain ⟨gi, rfl⟩ : ∃ z, gk = z + 1 := ⟨gk - 1, by omega⟩
            obtain ⟨a5, ha5⟩ : ∃ a5, a5 = 5 * i + k := ⟨_, rfl⟩
            have ha6 : 5 * (i : Int) + (k : Int) = (a5 : Int) := by omega
            obtain ⟨h5, hh5⟩ : ∃ h5, h5 = numP l a5 := ⟨_, rfl⟩
            have hh6 : h5 ≤ 1200000 := by rw [hh5]; exact HNB.out a5 (by omega)
            have HN6 : Hid (Calls Try.prog 40 #[.slice A n c, .int .i64 (a5 : Int)] wr (NPost wr h5)) := Lib.hid (by rw [hh5]; exact HNM.out a5 _ rfl (by omega) wr (below_next HI.out.2.2 HJ.out.2))
            have hs1 : D.length + 1 ≤ maxLen := by unfold maxLen; omega
            have hs2 : (D.length + 1) * 8 ≤ 140737488355328 := by omega
            obtain ⟨x5, hx5⟩ : ∃ x5, x5 = h5 % (q + 1) := ⟨_, rfl⟩
            have hx6 : (h5 : Int) % ((q : Int) + 1) = (x5 : Int) := by rw [hx5, Int.natCast_emod]; rfl
            have hx7 : x5 ≤ q := by rw [hx5]; have := Nat.mod_lt h5 (show 0 < q + 1 by omega); omega
            clear ha5 hx5 hh5
            by_cases he : x5 = q
            · subst he
              go_wp2_with (first
                | ((with_reducible refine HN6.out.mono ?_); rintro e wn ⟨rfl, rfl⟩)
                | (at_builtin; refine wpList_own_src rfl (.tmp 93) (.tmp 95) 22 22 rfl w0.heap.size 3 i0 _ 1 8 Try.underlying22 hi0 hz0 hz1 hz2 rfl _ _ _ rfl (own_alc HJ.out.1 _) _ 1 [.int .i64 63] rfl (src_one Try.underlying22 hz1 _ _ _ rfl) hs1 hs2 (below_al HJ.out.2 _).size ?_; intro HAv HAw hown4 hg4 hat4; have HA : Hid (HAw.ownsRow w0.heap.size 3 1 HAv (D.length + 1) (iv (D ++ [63])) ∧ Below w0.heap.size w0 HAw) := Lib.hid ⟨by rw [iv_snoc]; exact hown4, below_own (below_al HJ.out.2 _) hg4 (fun g hg => (HJ.out.1.lt _ hg).1)⟩; clear hown4 hg4 hat4))
              go_roundg gi
              case rel => exact ⟨k + 1, D ++ [63], by omega, by simp only [List.length_append, List.length_cons, List.length_nil]; omega, by go_num, Lib.hid ⟨by rw [List.length_append]; exact HA.out.1, HA.out.2⟩⟩
              case measure => omega
            · have hne : ((x5 : Int) == (q : Int)) = false := beq_eq_false_iff_ne.2 (by omega)
              go_wp2_with (first
                | ((with_reducible refine HN6.out.mono ?_); rintro e wn ⟨rfl, rfl⟩)
                | (at_builtin; refine wpList_own_src rfl (.tmp 93) (.tmp 95) 22 22 rfl w0.heap.size 3 i0 _ 1 8 Try.underlying22 hi0 hz0 hz1 hz2 rfl _ _ _ rfl (own_alc HJ.out.1 _) _ 1 [.int .i64 (x5 : Int)] rfl (src_one Try.underlying22 hz1 _ _ _ rfl) hs1 hs2 (below_al HJ.out.2 _).size ?_; intro HAv HAw hown4 hg4 hat4; have HA : Hid (HAw.ownsRow w0.heap.size 3 1 HAv (D.length + 1) (iv (D ++ [(x5 : Int)])) ∧ Below w0.heap.size w0 HAw) := Lib.hid ⟨by rw [iv_snoc]; exact hown4, below_own (below_al HJ.out.2 _) hg4 (fun g hg => (HJ.out.1.lt _ hg).1)⟩; clear hown4 hg4 hat4))
              go_roundg gi
              case rel => exact ⟨k + 1, D ++ [(x5 : Int)], by omega, by simp only [List.length_append, List.length_cons, List.length_nil]; omega, by go_num, Lib.hid ⟨by rw [List.length_append]; exact HA.out.1, HA.out.2⟩⟩
              case measure => omega
          · obtain rfl : k = mo := by omega
            obtain ⟨A9, c9, hv, hwd, hA9⟩ := own_wd HJ.out.1 (by omega)
            subst hv
            have HWD : Hid (WdR wr D A9 D.length c9 ∧ ∀ p, A9 = some p → w0.heap.size ≤ p.block ∧ p.block < wr.heap.size) := Lib.hid ⟨hwd, hA9⟩
            have HWI : Hid (WnI w u7 xs ws wr) := Lib.hid (HI.out.1.below HJ.out.2)
            have hu1 : ws.length + 1 ≤ maxLen := by have := HI.out.2.1; unfold maxLen; omega
            have hu2 : (ws.length + 1) * 24 ≤ 140737488355328 := by have := HI.out.2.1; omega
            clear hwd hA9
            go_wp2_with (at_builtin; refine wpList_own_src rfl (.tmp 97) (.tmp 99) 23 23 rfl w.heap.size 22 j0 _ 1 24 Try.underlying23 hj0 hy0 hy1 hy2 rfl _ _ _ rfl (own_alc HWI.out.1 _) _ 1 [.slice A9 D.length c9] rfl (src_one Try.underlying23 hy1 _ _ _ rfl) hu1 hu2 (below_al HWI.out.bel _).size ?_; intro v4 w4 hown4 hg4 hat4; have HZ : Hid (WnI w v4 (xs ++ [.slice A9 D.length c9]) (ws ++ [D]) w4) := Lib.hid (HWI.out.app (below_a1 _ _) (WsA.one (HWD.out.1.below (below_a1 _ _)) fun p hp => ⟨fun e => by have h1 := (HI.out.1.1.lt _ e).2; have h2 := (HWD.out.2 p hp).1; omega, by have := (HWD.out.2 p hp).2; simp; omega⟩) hown4 hg4 hat4); clear hown4 hg4 hat4)
            go_roundg gg
            case rel => exact ⟨i + 1, _, _, by omega, by go_num, Lib.hid ⟨HZ.out, by rw [List.length_append, HI.out.2.1]; rfl, fun k' hk' => by
              by_cases e : k' < i
              · have h1 : (ws ++ [D]).getD k' [] = ws.getD k' [] := by simp [List.getD, List.getElem?_append_left (show k' < ws.length by rw [HI.out.2.1]; exact e)]
                rw [h1]; exact HW.out.2.2 k' e
              · obtain rfl : k' = i := by omega
                have h1 : (ws ++ [D]).getD k' [] = D := by rw [← HI.out.2.1]; simp [List.getD]
                rw [h1]; omega⟩⟩
            case measure => omega
      · have hi2 : (0 : Int) < (i : Int) := by omega
        have hdi : decide (0 < i) = true := decide_eq_true (by omega)
        obtain ⟨ip, hip⟩ : ∃ ip, ip + 1 = i := ⟨i - 1, by omega⟩
        have hip2 : (i : Int) - 1 = (ip : Int) := by omega
        obtain ⟨A7, c7, hv, hrd, hmc, hm2⟩ := Rd.of_own HI.out.1.1
        have HV7 := Lib.hid hv
        obtain ⟨b7, o7, rfl, hc7⟩ := hrd.open (by intro e; have h1 := HI.out.1.1.1; rw [e, List.length_nil] at h1; have h2 := HI.out.2.1; omega)
        obtain ⟨Al, nl, cl, hx1, hwl, _⟩ := HI.out.1.2.1.2 ip (by rw [HI.out.2.1]; omega)
        have hcl : w0.cell? ⟨b7, o7 + ip, none⟩ = some (.slice Al nl cl) := hc7 ip _ hx1
        obtain ⟨bl, ol, hAl⟩ := il_or hwl.len hwl.rd
        have HAL : Hid (nl = 0 ∨ (Al = some ⟨bl, ol, none⟩ ∧ IL w0 bl ol (ws.getD ip []))) := Lib.hid hAl
        have HNL : Hid (nl = (ws.getD ip []).length) := Lib.hid hwl.len
        have hnl : nl ≤ 3 * i := by rw [hwl.len]; have := HW.out.2.2 ip (by omega); omega
        have hnlc : nl ≤ cl := hwl.cap
        have hclm : cl ≤ 9223372036854775807 := by have := hwl.max; unfold maxLen at this; omega
        have hwsn : ws.length = i := HI.out.2.1
        have hic7 : ws.length ≤ c7 := hmc
        have hc7m : c7 ≤ 9223372036854775807 := by unfold maxLen at hm2; omega
        rw [hwsn] at hv hic7
        subst hv
        clear hrd hc7 hx1 hwl hAl hm2 hmc hwsn
        go_wp2_with fail
        go_loopg [9, 11, 12, 13] nl (fun gi s9 s11 s12 s13 wi => ∃ (k : Nat) (D : List Int), k + gi = nl ∧ D.length ≤ k ∧ s11 = .int .i64 (k : Int) ∧ Hid (wi.ownsRow w0.heap.size 3 1 s9 D.length (iv D) ∧ Below w0.heap.size w0 wi))
        case atStart => exact ⟨0, [], by omega, Nat.le_refl _, rfl, Lib.hid ⟨⟨rfl, .inl ⟨rfl, rfl⟩⟩, Below.refl _ _⟩⟩
        case round =>
          obtain ⟨k, D, hk, hDl, rfl, HJ⟩ := hrel
          by_cases hlt2 : k < nl
          · obtain ⟨gi, rfl⟩ : ∃ z, gk = z + 1 := ⟨gk - 1, by omega⟩
            obtain ⟨x, hx⟩ : ∃ x, x = (ws.getD ip []).getD k 0 := ⟨_, rfl⟩
            obtain ⟨rfl, hil⟩ : Al = some ⟨bl, ol, none⟩ ∧ IL w0 bl ol (ws.getD ip []) := by
              rcases HAL.out with h | h
              · omega
              · exact h
            have hcx : wr.cell? ⟨bl, ol + k, none⟩ = some (.int .i64 x) := hil.at HJ.out.2 (by rw [← HNL.out]; exact hlt2) hx
            obtain ⟨a7, ha7⟩ : ∃ a7, a7 = 7 * i + k := ⟨_, rfl⟩
            have ha8 : 7 * (i : Int) + (k : Int) = (a7 : Int) := by omega
            obtain ⟨h, hh0⟩ : ∃ h, h = numP l a7 := ⟨_, rfl⟩
            have hh : h ≤ 1200000 := by rw [hh0]; exact HNB.out a7 (by omega)
            have HNU : Hid (Calls Try.prog 40 #[.slice A n c, .int .i64 (a7 : Int)] wr (NPost wr h)) := Lib.hid (by rw [hh0]; exact HNM.out a7 _ rfl (by omega) wr (below_next HI.out.2.2 HJ.out.2))
            have hs1 : D.length + 1 ≤ maxLen := by unfold maxLen; omega
            have hs2 : (D.length + 1) * 8 ≤ 140737488355328 := by omega
            clear hx hil ha7 hh0
            rcases (by omega : h % 5 = 0 ∨ h % 5 = 1 ∨ (h % 5 ≠ 0 ∧ h % 5 ≠ 1)) with h50 | h50 | h50
            · by_cases h110 : h % 11 = 2
              · skip
                have h5 : (h : Int) % 5 = 0 := by omega
                obtain ⟨x2, hx2⟩ : ∃ x2 : Nat, x2 = h / 5 % q := ⟨_, rfl⟩
                have hx3 : (h : Int) / 5 % (q : Int) = (x2 : Int) := by rw [hx2, Int.natCast_emod, Int.natCast_ediv]; rfl
                clear hx2
                have h11 : (h : Int) % 11 = 2 := by omega
                go_wp2_with (first | ((with_reducible refine HNU.out.mono ?_); rintro e wn ⟨rfl, rfl⟩))
                go_roundg gi
                case rel => exact ⟨k + 1, D, by omega, by omega, by go_num, Lib.hid ⟨HJ.out.1, HJ.out.2⟩⟩
                case measure => omega
              · skip
                have h5 : (h : Int) % 5 = 0 := by omega
                obtain ⟨x2, hx2⟩ : ∃ x2 : Nat, x2 = h / 5 % q := ⟨_, rfl⟩
                have hx3 : (h : Int) / 5 % (q : Int) = (x2 : Int) := by rw [hx2, Int.natCast_emod, Int.natCast_ediv]; rfl
                clear hx2
                have h11 : ((h : Int) % 11 == 2) = false := beq_eq_false_iff_ne.2 (by omega)
                go_wp2_with (first | ((with_reducible refine HNU.out.mono ?_); rintro e wn ⟨rfl, rfl⟩) | (at_builtin; refine wpList_own_src rfl (.tmp 64) (.tmp 66) 22 22 rfl w0.heap.size 3 i0 _ 1 8 Try.underlying22 hi0 hz0 hz1 hz2 rfl _ _ _ rfl (own_alc HJ.out.1 _) _ 1 [.int .i64 (x2 : Int)] rfl (src_one Try.underlying22 hz1 _ _ _ rfl) hs1 hs2 (below_al HJ.out.2 _).size ?_; intro HAv HAw hown4 hg4 hat4; have HA : Hid (HAw.ownsRow w0.heap.size 3 1 HAv (D.length + 1) (iv (D ++ [(x2 : Int)])) ∧ Below w0.heap.size w0 HAw) := Lib.hid ⟨by rw [iv_snoc]; exact hown4, below_own (below_al HJ.out.2 _) hg4 (fun g hg => (HJ.out.1.lt _ hg).1)⟩; clear hown4 hg4 hat4))
                go_roundg gi
                case rel => exact ⟨k + 1, D ++ [(x2 : Int)], by omega, by simp only [List.length_append, List.length_cons, List.length_nil]; omega, by go_num, Lib.hid ⟨by rw [List.length_append]; exact HA.out.1, HA.out.2⟩⟩
                case measure => omega
            · by_cases h110 : h % 11 = 2
              · skip
                have h5 : (h : Int) % 5 = 1 := by omega
                obtain ⟨f, hf⟩ : ∃ f : Nat, f = h / 5 := ⟨_, rfl⟩
                have hf2 : (h : Int) / 5 = (f : Int) := by omega
                have HSI : Hid (Calls Try.prog 41 #[.slice AL q cq, .int .i64 x, .int .i64 (f : Int)] wr fun e w' => ∃ v : Int, e = .returned (.int .i64 v) ∧ Below wr.heap.size wr w') := Lib.hid (sister_any L AL q cq x f HX.out.2 (by omega) wr (HX.out.1.below (below_next HI.out.2.2 HJ.out.2)))
                clear hf
                have h11 : (h : Int) % 11 = 2 := by omega
                go_wp2_with (first | ((with_reducible refine HNU.out.mono ?_); rintro e wn ⟨rfl, rfl⟩) | ((with_reducible refine HSI.out.mono ?_); rintro e ws ⟨x2, rfl, hb⟩; have HS2 : Hid (ws.ownsRow w0.heap.size 3 1 u9 D.length (iv D) ∧ Below w0.heap.size w0 ws) := Lib.hid ⟨own_keep HJ.out.1 hb, below_next HJ.out.2 hb⟩; clear hb))
                go_roundg gi
                case rel => exact ⟨k + 1, D, by omega, by omega, by go_num, Lib.hid ⟨HS2.out.1, HS2.out.2⟩⟩
                case measure => omega
              · skip
                have h5 : (h : Int) % 5 = 1 := by omega
                obtain ⟨f, hf⟩ : ∃ f : Nat, f = h / 5 := ⟨_, rfl⟩
                have hf2 : (h : Int) / 5 = (f : Int) := by omega
                have HSI : Hid (Calls Try.prog 41 #[.slice AL q cq, .int .i64 x, .int .i64 (f : Int)] wr fun e w' => ∃ v : Int, e = .returned (.int .i64 v) ∧ Below wr.heap.size wr w') := Lib.hid (sister_any L AL q cq x f HX.out.2 (by omega) wr (HX.out.1.below (below_next HI.out.2.2 HJ.out.2)))
                clear hf
                have h11 : ((h : Int) % 11 == 2) = false := beq_eq_false_iff_ne.2 (by omega)
                go_wp2_with (first | ((with_reducible refine HNU.out.mono ?_); rintro e wn ⟨rfl, rfl⟩) | ((with_reducible refine HSI.out.mono ?_); rintro e ws ⟨x2, rfl, hb⟩; have HS2 : Hid (ws.ownsRow w0.heap.size 3 1 u9 D.length (iv D) ∧ Below w0.heap.size w0 ws) := Lib.hid ⟨own_keep HJ.out.1 hb, below_next HJ.out.2 hb⟩; clear hb) | (at_builtin; refine wpList_own_src rfl (.tmp 64) (.tmp 66) 22 22 rfl w0.heap.size 3 i0 _ 1 8 Try.underlying22 hi0 hz0 hz1 hz2 rfl _ _ _ rfl (own_alc HS2.out.1 _) _ 1 [.int .i64 x2] rfl (src_one Try.underlying22 hz1 _ _ _ rfl) hs1 hs2 (below_al HS2.out.2 _).size ?_; intro HAv HAw hown4 hg4 hat4; have HA : Hid (HAw.ownsRow w0.heap.size 3 1 HAv (D.length + 1) (iv (D ++ [x2])) ∧ Below w0.heap.size w0 HAw) := Lib.hid ⟨by rw [iv_snoc]; exact hown4, below_own (below_al HS2.out.2 _) hg4 (fun g hg => (HS2.out.1.lt _ hg).1)⟩; clear hown4 hg4 hat4))
                go_roundg gi
                case rel => exact ⟨k + 1, D ++ [x2], by omega, by simp only [List.length_append, List.length_cons, List.length_nil]; omega, by go_num, Lib.hid ⟨by rw [List.length_append]; exact HA.out.1, HA.out.2⟩⟩
                case measure => omega
            · by_cases h110 : h % 11 = 2
              · skip
                have h5 : ((h : Int) % 5 == 0) = false := beq_eq_false_iff_ne.2 (by omega)
                have h51 : ((h : Int) % 5 == 1) = false := beq_eq_false_iff_ne.2 (by omega)
                have h11 : (h : Int) % 11 = 2 := by omega
                go_wp2_with (first | ((with_reducible refine HNU.out.mono ?_); rintro e wn ⟨rfl, rfl⟩))
                go_roundg gi
                case rel => exact ⟨k + 1, D, by omega, by omega, by go_num, Lib.hid ⟨HJ.out.1, HJ.out.2⟩⟩
                case measure => omega
              · skip
                have h5 : ((h : Int) % 5 == 0) = false := beq_eq_false_iff_ne.2 (by omega)
                have h51 : ((h : Int) % 5 == 1) = false := beq_eq_false_iff_ne.2 (by omega)
                have h11 : ((h : Int) % 11 == 2) = false := beq_eq_false_iff_ne.2 (by omega)
                go_wp2_with (first | ((with_reducible refine HNU.out.mono ?_); rintro e wn ⟨rfl, rfl⟩) | (at_builtin; refine wpList_own_src rfl (.tmp 64) (.tmp 66) 22 22 rfl w0.heap.size 3 i0 _ 1 8 Try.underlying22 hi0 hz0 hz1 hz2 rfl _ _ _ rfl (own_alc HJ.out.1 _) _ 1 [.int .i64 x] rfl (src_one Try.underlying22 hz1 _ _ _ rfl) hs1 hs2 (below_al HJ.out.2 _).size ?_; intro HAv HAw hown4 hg4 hat4; have HA : Hid (HAw.ownsRow w0.heap.size 3 1 HAv (D.length + 1) (iv (D ++ [x])) ∧ Below w0.heap.size w0 HAw) := Lib.hid ⟨by rw [iv_snoc]; exact hown4, below_own (below_al HJ.out.2 _) hg4 (fun g hg => (HJ.out.1.lt _ hg).1)⟩; clear hown4 hg4 hat4))
                go_roundg gi
                case rel => exact ⟨k + 1, D ++ [x], by omega, by simp only [List.length_append, List.length_cons, List.length_nil]; omega, by go_num, Lib.hid ⟨by rw [List.length_append]; exact HA.out.1, HA.out.2⟩⟩
                case measure => omega
          · obtain rfl : k = nl := by omega
            have HP : Hid (D.length ≤ 3 * i ∧ wr.ownsRow w0.heap.size 3 1 u9 D.length (iv D) ∧ Below w0.heap.size w0 wr) := Lib.hid ⟨by omega, HJ.out⟩
            rename List Int => D0
            clear hlt2 hDl HAL HNL
            obtain ⟨m0, hm0⟩ : ∃ m0, m0 = 3 * i + 1 := ⟨_, rfl⟩
            obtain ⟨h3, hh3⟩ : ∃ h3, h3 = numP l m0 := ⟨_, rfl⟩
            have hh4 : h3 ≤ 1200000 := by rw [hh3]; exact HNB.out m0 (by omega)
            obtain ⟨mo, hmo⟩ : ∃ mo, mo = h3 % 4 := ⟨_, rfl⟩
            have hmo4 : mo ≤ 3 := by omega
            have hmo2 : (h3 : Int) % 4 = (mo : Int) := by omega
            have hm1 : 3 * (i : Int) + 1 = (m0 : Int) := by omega
            have HN3 : Hid (∀ W, Below w0.heap.size w0 W → Calls Try.prog 40 #[.slice A n c, .int .i64 (m0 : Int)] W (NPost W h3)) := Lib.hid fun W hb => by rw [hh3]; exact HNM.out m0 _ rfl (by omega) W (below_next HI.out.2.2 hb)
            have hDl := HP.out.1
            clear hm0 hh3 hmo
            go_wp2_with ((with_reducible refine (HN3.out _ HP.out.2.2).mono ?_); rintro e wn ⟨rfl, rfl⟩)
            try simp only [hmo2]
            go_loopg [9, 15, 16] mo (fun gi s9 s15 s16 wi => ∃ (k : Nat) (D : List Int), k + gi = mo ∧ D.length ≤ 3 * i + k ∧ s15 = .int .i64 (k : Int) ∧ Hid (wi.ownsRow w0.heap.size 3 1 s9 D.length (iv D) ∧ Below w0.heap.size w0 wi))
            case atStart => exact ⟨0, D0, by omega, by omega, rfl, Lib.hid HP.out.2⟩
            case round =>
              clear HP hDl
              obtain ⟨k, D, hk, hDl, rfl, HJ⟩ := hrel
              by_cases hlt2 : k < mo
              · obtain ⟨gi, rfl⟩ : ∃ z, gk = z + 1 := ⟨gk - 1, by omega⟩
                obtain ⟨a5, ha5⟩ : ∃ a5, a5 = 5 * i + k := ⟨_, rfl⟩
                have ha6 : 5 * (i : Int) + (k : Int) = (a5 : Int) := by omega
                obtain ⟨h5, hh5⟩ : ∃ h5, h5 = numP l a5 := ⟨_, rfl⟩
                have hh6 : h5 ≤ 1200000 := by rw [hh5]; exact HNB.out a5 (by omega)
                have HN6 : Hid (Calls Try.prog 40 #[.slice A n c, .int .i64 (a5 : Int)] wr (NPost wr h5)) := Lib.hid (by rw [hh5]; exact HNM.out a5 _ rfl (by omega) wr (below_next HI.out.2.2 HJ.out.2))
                have hs1 : D.length + 1 ≤ maxLen := by unfold maxLen; omega
                have hs2 : (D.length + 1) * 8 ≤ 140737488355328 := by omega
                obtain ⟨x5, hx5⟩ : ∃ x5, x5 = h5 % (q + 1) := ⟨_, rfl⟩
                have hx6 : (h5 : Int) % ((q : Int) + 1) = (x5 : Int) := by rw [hx5, Int.natCast_emod]; rfl
                have hx7 : x5 ≤ q := by rw [hx5]; have := Nat.mod_lt h5 (show 0 < q + 1 by omega); omega
                clear ha5 hx5 hh5
                by_cases he : x5 = q
                · subst he
                  go_wp2_with (first
                    | ((with_reducible refine HN6.out.mono ?_); rintro e wn ⟨rfl, rfl⟩)
                    | (at_builtin; refine wpList_own_src rfl (.tmp 93) (.tmp 95) 22 22 rfl w0.heap.size 3 i0 _ 1 8 Try.underlying22 hi0 hz0 hz1 hz2 rfl _ _ _ rfl (own_alc HJ.out.1 _) _ 1 [.int .i64 63] rfl (src_one Try.underlying22 hz1 _ _ _ rfl) hs1 hs2 (below_al HJ.out.2 _).size ?_; intro HAv HAw hown4 hg4 hat4; have HA : Hid (HAw.ownsRow w0.heap.size 3 1 HAv (D.length + 1) (iv (D ++ [63])) ∧ Below w0.heap.size w0 HAw) := Lib.hid ⟨by rw [iv_snoc]; exact hown4, below_own (below_al HJ.out.2 _) hg4 (fun g hg => (HJ.out.1.lt _ hg).1)⟩; clear hown4 hg4 hat4))
                  go_roundg gi
                  case rel => exact ⟨k + 1, D ++ [63], by omega, by simp only [List.length_append, List.length_cons, List.length_nil]; omega, by go_num, Lib.hid ⟨by rw [List.length_append]; exact HA.out.1, HA.out.2⟩⟩
                  case measure => omega
                · have hne : ((x5 : Int) == (q : Int)) = false := beq_eq_false_iff_ne.2 (by omega)
                  go_wp2_with (first
                    | ((with_reducible refine HN6.out.mono ?_); rintro e wn ⟨rfl, rfl⟩)
                    | (at_builtin; refine wpList_own_src rfl (.tmp 93) (.tmp 95) 22 22 rfl w0.heap.size 3 i0 _ 1 8 Try.underlying22 hi0 hz0 hz1 hz2 rfl _ _ _ rfl (own_alc HJ.out.1 _) _ 1 [.int .i64 (x5 : Int)] rfl (src_one Try.underlying22 hz1 _ _ _ rfl) hs1 hs2 (below_al HJ.out.2 _).size ?_; intro HAv HAw hown4 hg4 hat4; have HA : Hid (HAw.ownsRow w0.heap.size 3 1 HAv (D.length + 1) (iv (D ++ [(x5 : Int)])) ∧ Below w0.heap.size w0 HAw) := Lib.hid ⟨by rw [iv_snoc]; exact hown4, below_own (below_al HJ.out.2 _) hg4 (fun g hg => (HJ.out.1.lt _ hg).1)⟩; clear hown4 hg4 hat4))
                  go_roundg gi
                  case rel => exact ⟨k + 1, D ++ [(x5 : Int)], by omega, by simp only [List.length_append, List.length_cons, List.length_nil]; omega, by go_num, Lib.hid ⟨by rw [List.length_append]; exact HA.out.1, HA.out.2⟩⟩
                  case measure => omega
              · obtain rfl : k = mo := by omega
                obtain ⟨A9, c9, hv, hwd, hA9⟩ := own_wd HJ.out.1 (by omega)
                subst hv
                have HWD : Hid (WdR wr D A9 D.length c9 ∧ ∀ p, A9 = some p → w0.heap.size ≤ p.block ∧ p.block < wr.heap.size) := Lib.hid ⟨hwd, hA9⟩
                have HWI : Hid (WnI w (.slice (some ⟨b7, o7, none⟩) i c7) xs ws wr) := Lib.hid (HI.out.1.below HJ.out.2)
                have hu1 : ws.length + 1 ≤ maxLen := by have := HI.out.2.1; unfold maxLen; omega
                have hu2 : (ws.length + 1) * 24 ≤ 140737488355328 := by have := HI.out.2.1; omega
                clear hwd hA9
                go_wp2_with (at_builtin; refine wpList_own_src rfl (.tmp 97) (.tmp 99) 23 23 rfl w.heap.size 22 j0 _ 1 24 Try.underlying23 hj0 hy0 hy1 hy2 rfl _ _ _ rfl (own_alc HWI.out.1 _) _ 1 [.slice A9 D.length c9] rfl (src_one Try.underlying23 hy1 _ _ _ rfl) hu1 hu2 (below_al HWI.out.bel _).size ?_; intro v4 w4 hown4 hg4 hat4; have HZ : Hid (WnI w v4 (xs ++ [.slice A9 D.length c9]) (ws ++ [D]) w4) := Lib.hid (HWI.out.app (below_a1 _ _) (WsA.one (HWD.out.1.below (below_a1 _ _)) fun p hp => ⟨fun e => by have h1 := (HI.out.1.1.lt _ e).2; have h2 := (HWD.out.2 p hp).1; omega, by have := (HWD.out.2 p hp).2; simp; omega⟩) hown4 hg4 hat4); clear hown4 hg4 hat4)
                go_roundg gg
                case rel => exact ⟨i + 1, _, _, by omega, by go_num, Lib.hid ⟨HZ.out, by rw [List.length_append, HI.out.2.1]; rfl, fun k' hk' => by
                  by_cases e : k' < i
                  · have h1 : (ws ++ [D]).getD k' [] = ws.getD k' [] := by simp [List.getD, List.getElem?_append_left (show k' < ws.length by rw [HI.out.2.1]; exact e)]
                    rw [h1]; exact HW.out.2.2 k' e
                  · obtain rfl : k' = i := by omega
                    have h1 : (ws ++ [D]).getD k' [] = D := by rw [← HI.out.2.1]; simp [List.getD]
                    rw [h1]; omega⟩⟩
                case measure => omega
    · obtain rfl : i = N := by omega
      obtain ⟨A7, c7, hv, hrd, hmc, hm2⟩ := Rd.of_own HW.out.1.1
      clear hrd hmc hm2
      subst hv
      go_wp2_with fail
      go_ret
      exact ⟨_, xs, ws, rfl, ⟨HW.out.2.1, HW.out.2.2⟩, HW.out.1⟩
set_option maxRecDepth 1000000 in
set_option maxHeartbeats 16000000 in
theorem take_any (l : List Int) (A : Option Addr) (n c : Nat) (M m : Nat) (hM : M ≤ 1000) (hm : m = min n M) (w : World) (h : WdB w l A n c) :
    Calls Try.prog 42 #[.slice A n c, .int .i64 (M : Int)] w (TkPost w (l.take M)) := by
  obtain ⟨i0, hi0, hz0, hz1, hz2⟩ := info_parts Try.infoInt
  have hc := h.cap
  have hcm : c ≤ 9223372036854775807 := by have := h.max; unfold maxLen at this; omega
  have hmn : min (n : Int) (M : Int) = (m : Int) := by omega
  have hmle : m ≤ n := by omega
  have hm1 : m ≤ 1000 := by omega
  have hml : m = (l.take M).length := by rw [List.length_take, ← h.len, hm, Nat.min_comm]
  have HL : Hid ((l.take M).length = m) := Lib.hid hml.symm
  have hrd : Rd w A (iv (l.take M)) := by
    rcases h.rd with e | ⟨b, o, e, hcell⟩
    · left
      have : l = [] := by simpa [iv] using e
      rw [this]; simp [iv]
    · right
      refine ⟨b, o, e, fun k v hv => hcell k v ?_⟩
      unfold iv at hv ⊢
      rw [List.getElem?_map, List.getElem?_take] at hv
      rw [List.getElem?_map]
      split at hv
      · exact hv
      · simp at hv
  have hnn : A = none → l.take M = [] := fun e => by
    rcases h.rd with e2 | ⟨b, o, e2, _⟩
    · have : l = [] := by simpa [iv] using e2
      rw [this]; simp
    · rw [e] at e2; cases e2
  have HSRC : Hid (∀ k, Src Try.prog i0.size 22 (.slice A m k) m (iv (l.take M)) w) := Lib.hid fun k => src_iv Try.underlying22 hz1 hml hrd hnn k
  have HOWN : Hid (w.ownsRow w.heap.size 3 1 (.slice none 0 0) 0 (iv [])) := Lib.hid ⟨rfl, .inl ⟨rfl, rfl⟩⟩
  have hs1 : 0 + m ≤ maxLen := by unfold maxLen; omega
  have hs2 : (0 + m) * 8 ≤ 140737488355328 := by omega
  clear h hm hrd hnn hml
  go_enter Try.func42, Try.ntmps42
  go_wp2_with (at_builtin; refine wpList_own_src rfl (.tmp 6) (.tmp 12) 22 22 rfl w.heap.size 3 i0 _ 1 8 Try.underlying22 hi0 hz0 hz1 hz2 rfl _ _ _ rfl HOWN.out _ m (iv (l.take M)) rfl (HSRC.out _) hs1 hs2 (Nat.le_refl _) ?_; intro v4 w4 hown4 hg4 hat4; have HZ : Hid (w4.ownsRow w.heap.size 3 1 v4 (l.take M).length (iv (l.take M)) ∧ Below w.heap.size w w4) := Lib.hid ⟨by rw [HL.out]; simpa [iv] using hown4, below_own (Below.refl _ _) hg4 (fun g hg => (HOWN.out.lt _ hg).1)⟩; clear hown4 hg4 hat4)
  go_ret
  exact ⟨_, rfl, HZ.out.1, HZ.out.2⟩
theorem take_raw (l : List Int) (A : Option Addr) (n c : Nat) (h1 : n = l.length) (h2 : n ≤ c) (h3 : c ≤ maxLen) (w : World) (h4 : Rd w A (iv l)) : Calls Try.prog 42 #[.slice A n c, .int .i64 12] w (TkPost w (l.take 12)) := take_any l A n c 12 (min n 12) (by omega) rfl w ⟨h1, h2, h3, h4⟩
set_option maxRecDepth 1000000 in
set_option maxHeartbeats 16000000 in
theorem raw_any (ws : List (List Int)) (A : Option Addr) (n c : Nat) (w : World) (hn : n = ws.length) (hnc : n ≤ c) (hcm : c ≤ maxLen) (b o : Nat) (hA : n = 0 ∨ (A = some ⟨b, o, none⟩ ∧ ∀ k, k < n → k < 8 → ∃ A' n' c', w.cell? ⟨b, o + k, none⟩ = some (.slice A' n' c') ∧ n' = (ws.getD k []).length ∧ n' ≤ c' ∧ c' ≤ maxLen ∧ Rd w A' (iv (ws.getD k [])))) :
    Calls Try.prog 16 #[.slice A n c] w (WnPost w fun us => us.length ≤ 8 ∧ ∀ k, k < us.length → (us.getD k []).length ≤ 12) := by
  obtain ⟨j0, hj0, hy0, hy1, hy2⟩ := info_parts Try.infoSl
  have hcm' : c ≤ 9223372036854775807 := by unfold maxLen at hcm; omega
  have HA := Lib.hid hA
  have HN := Lib.hid hn
  clear hA hn
  go_enter Try.func16, Try.ntmps16
  go_wp2_with fail
  go_loopg [3, 4] 9 (fun gg s3 s4 wr => ∃ (k : Nat) (xs : List Value) (us : List (List Int)), k + gg = 9 ∧ k ≤ n ∧ k ≤ 8 ∧ s4 = .int .i64 (k : Int) ∧ Hid (WnI w s3 xs us wr ∧ us.length = k ∧ ∀ j, j < k → (us.getD j []).length ≤ 12))
  case atStart => exact ⟨0, [], [], by omega, by omega, by omega, rfl, Lib.hid ⟨⟨⟨rfl, .inl ⟨rfl, rfl⟩⟩, WsA.nil _ _, Below.refl _ _⟩, rfl, fun k hk => by omega⟩⟩
  case round =>
    obtain ⟨k, xs, us, hk, hkn, hk8, rfl, HW⟩ := hrel
    by_cases hlt : k < n
    · by_cases h8 : k < 8
      · obtain ⟨gg, rfl⟩ : ∃ x, gk = x + 1 := ⟨gk - 1, by omega⟩
        obtain ⟨rfl, hat⟩ : A = some ⟨b, o, none⟩ ∧ ∀ k, k < n → k < 8 → ∃ A' n' c', w.cell? ⟨b, o + k, none⟩ = some (.slice A' n' c') ∧ n' = (ws.getD k []).length ∧ n' ≤ c' ∧ c' ≤ maxLen ∧ Rd w A' (iv (ws.getD k [])) := by
          rcases HA.out with h | h
          · omega
          · exact h
        obtain ⟨A', n', c', hck, e1, e2, e3, e4⟩ := hat k hlt h8
        have hck2 : wr.cell? ⟨b, o + k, none⟩ = some (.slice A' n' c') := (HW.out.1.2.2.cell (p := ⟨b, o + k, none⟩) (World.block_lt_of_cell? w _ hck)).trans hck
        have HT : Hid (Calls Try.prog 42 #[.slice A' n' c', .int .i64 12] wr (TkPost wr ((ws.getD k []).take 12))) := Lib.hid (take_raw (ws.getD k []) A' n' c' e1 e2 e3 wr (e4.below HW.out.1.2.2))
        have d1 : decide ((k : Int) < 8) = true := decide_eq_true (by omega)
        have d2 : decide (k < 8) = true := decide_eq_true h8
        have hu1 : us.length + 1 ≤ maxLen := by have := HW.out.2.1; unfold maxLen; omega
        have hu2 : (us.length + 1) * 24 ≤ 140737488355328 := by have := HW.out.2.1; omega
        obtain ⟨T, hT⟩ : ∃ T, T = (ws.getD k []).take 12 := ⟨_, rfl⟩
        have hTl : T.length ≤ 12 := by rw [hT, List.length_take]; omega
        rw [← hT] at HT
        clear hat hck e1 e2 e3 e4 hT
        go_wp2_with (first
          | ((with_reducible refine HT.out.mono ?_); rintro e w3 ⟨v3, rfl, hown3, hb3⟩; obtain ⟨A9, c9, hv9, hwd, hA9⟩ := own_wd hown3 (by omega); subst hv9; have HWD : Hid (WdR w3 T A9 T.length c9 ∧ (∀ p, A9 = some p → wr.heap.size ≤ p.block ∧ p.block < w3.heap.size) ∧ WnI w u3 xs us w3) := Lib.hid ⟨hwd, hA9, HW.out.1.below hb3⟩; clear hown3 hb3 hwd hA9)
          | (at_builtin; refine wpList_own_src rfl (.tmp 15) (.tmp 21) 23 23 rfl w.heap.size 22 j0 _ 1 24 Try.underlying23 hj0 hy0 hy1 hy2 rfl _ _ _ rfl (own_alc HWD.out.2.2.1 _) _ 1 [.slice A9 T.length c9] rfl (src_one Try.underlying23 hy1 _ _ _ rfl) hu1 hu2 (below_al HWD.out.2.2.bel _).size ?_; intro v4 w4 hown4 hg4 hat4; have HZ : Hid (WnI w v4 (xs ++ [.slice A9 T.length c9]) (us ++ [T]) w4) := Lib.hid (HWD.out.2.2.app (below_a1 _ _) (WsA.one (HWD.out.1.below (below_a1 _ _)) fun p hp => ⟨fun e => by have h1 := (HW.out.1.1.lt _ e).2; have h2 := (HWD.out.2.1 p hp).1; omega, by have := (HWD.out.2.1 p hp).2; simp; omega⟩) hown4 hg4 hat4); clear hown4 hg4 hat4))
        go_roundg gg
        case rel => exact ⟨k + 1, _, _, by omega, by omega, by omega, by go_num, Lib.hid ⟨HZ.out, by rw [List.length_append, HW.out.2.1]; rfl, fun j hj => by
          by_cases e : j < k
          · have h1 : (us ++ [T]).getD j [] = us.getD j [] := by simp [List.getD, List.getElem?_append_left (show j < us.length by rw [HW.out.2.1]; exact e)]
            rw [h1]; exact HW.out.2.2 j e
          · obtain rfl : j = k := by omega
            have h1 : (us ++ [T]).getD j [] = T := by rw [← HW.out.2.1]; simp [List.getD]
            rw [h1]; omega⟩⟩
        case measure => omega
      · have d1 : decide ((k : Int) < 8) = false := decide_eq_false (by omega)
        have d2 : decide (k < 8) = false := decide_eq_false h8
        go_wp2_with fail
        go_ret
        exact ⟨_, xs, us, rfl, ⟨by rw [HW.out.2.1]; exact hk8, by rw [HW.out.2.1]; exact HW.out.2.2⟩, HW.out.1⟩
    · obtain rfl : k = n := by omega
      go_wp2_with fail
      go_ret
      exact ⟨_, xs, us, rfl, ⟨by rw [HW.out.2.1]; exact hk8, by rw [HW.out.2.1]; exact HW.out.2.2⟩, HW.out.1⟩
end Go.Proofs.Ytalladdmedmfeaa
