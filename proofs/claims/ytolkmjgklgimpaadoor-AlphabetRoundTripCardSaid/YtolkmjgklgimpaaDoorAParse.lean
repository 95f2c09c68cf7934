/-
  alphabet.Parse.
-/
import Derived.Test.YtolkmjgklgimpaaDoorAPLines
namespace Go.Proofs.YtolkmjgklgimpaaDoor
open Go.RowKit
open Alp
set_option linter.unusedVariables false
set_option linter.unusedSimpArgs false

theorem linesG_pos : ∀ (p : List B) (k e : Nat), linesG p k = .inr e → 0 < e := by
  intro p
  induction p with
  | nil => intro k e h; simp [linesG] at h; omega
  | cons l t ih =>
    intro k e h
    cases t with
    | nil =>
      unfold linesG at h
      split at h
      · simp at h
      · simp at h; omega
    | cons m t =>
      rw [linesG_cons l (by simp)] at h
      cases hl : lineP l with
      | none => rw [hl] at h; simp at h; omega
      | some r =>
        rw [hl] at h
        cases hx : linesG (m :: t) (k + 1) with
        | inl R => rw [hx] at h; simp [addL] at h
        | inr e' => rw [hx] at h; simp [addL] at h; rw [← h]; exact ih _ _ hx
theorem lv_app (a b : List Lt) : lv (a ++ b) = lv a ++ lv b := by simp [lv]
theorem lv_setB (D : List Lt) (l : Lt) (T : List Lt) (q : Int) (k : Nat) (hk : k = D.length) : (lv (D ++ l :: T)).set (k * 5 + 1) (.int .i64 q) = lv (D ++ setB l q :: T) := by
  subst hk
  have e : ∀ x : Lt, lv (D ++ x :: T) = lv D ++ (lc x ++ lv T) := fun x => by rw [lv_app]; simp [lv]
  rw [e, e, List.set_append, if_neg (by rw [lv_length]; omega), lv_length, show D.length * 5 + 1 - 5 * D.length = 1 by omega]
  rfl
theorem MapIs.stored {w w1 : World} {m g : Nat} {L : List Lt} {C : List Value} {T : TypeId} (h : MapIs w m L) (hs : Stored w w1 g C T) (hne : m ≠ g) : MapIs w1 m L := by
  obtain ⟨D, n, h1, h2⟩ := h
  exact ⟨D, n, h1.kept (row := some g) ⟨hs.2.2.2.1, hs.2.2.2.2.1, hs.2.2.2.2.2, by rw [hs.2.2.1]; exact Nat.le_refl _, fun k hk hk2 => hs.2.1 k (by rintro rfl; exact hk2 rfl)⟩ (by simp; omega), h2⟩
theorem MapIs.drewN {w : World} {m : Nat} {L : List Lt} (h : MapIs w m L) (k : Nat) : MapIs (w.drewN k) m L := h.below ⟨rfl, rfl, rfl, Nat.le_refl _, fun _ _ => rfl⟩
/-- What Parse answers. -/
def PPost (w : World) (R : PR) (e : Ending) (w' : World) : Prop := ∃ (A : Option Addr) (n c : Nat), e = .returned (.tuple #[.slice A n c, .int .i64 R.2.1, .int .i64 R.2.2]) ∧ n = R.1.length ∧ Rd w' A (lv R.1) ∧ n ≤ c ∧ c ≤ maxLen ∧ Below w.heap.size w w'
theorem p_out {w w' : World} {R : PR} {e : Ending} (h : PPost w R e w') : ∃ (A : Option Addr) (n c : Nat), e = .returned (.tuple #[.slice A n c, .int .i64 R.2.1, .int .i64 R.2.2]) ∧ n = R.1.length ∧ Rd w' A (lv R.1) ∧ n ≤ c ∧ c ≤ maxLen ∧ Below w.heap.size w w' := h
theorem ppost_no {w w' : World} {R : PR} {k e : Int} (hR : R = ([], k, e)) (hb : Below w.heap.size w w') : PPost w R (.returned (.tuple #[.slice none 0 0, .int .i64 k, .int .i64 e])) w' := by
  subst hR
  exact ⟨none, 0, 0, rfl, rfl, .inl rfl, Nat.le_refl _, Nat.zero_le _, hb⟩
theorem lines_inr {w w' : World} {k : Nat} {e : Ending} (h : LinesPost w (.inr k) e w') : e = .returned (.tuple #[.slice none 0 0, .slice none 0 0, .int .i64 (k : Int)]) ∧ Below w.heap.size w w' := ⟨h.2, h.1⟩
theorem lines_inl {w w' : World} {R : Alp.Rows} {e : Ending} (h : LinesPost w (.inl R) e w') : Below w.heap.size w w' ∧ ∃ (v1 v2 : Value), e = .returned (.tuple #[v1, v2, .int .i64 0]) ∧ w'.ownsRow w.heap.size 50 5 v1 R.length (lv (firsts R)) ∧ w'.ownsRow w.heap.size 9 1 v2 R.length (tv (seconds R)) ∧ R.length ≤ 65536 ∧ ∀ x ∈ R, x.1.text.length ≤ 65536 ∧ x.2.length ≤ 65536 := h
set_option maxRecDepth 100000 in
set_option maxHeartbeats 1000000 in
theorem parse_big (s : B) (m : Nat) (hs : m = s.length) (hm : m ≤ maxLen) (h : 65536 < m) (w : World) : Calls Tryd.prog 26 #[.string (tb s)] w (PPost w (parseP s)) := by
  have hsz : (tb s).size = m := by rw [tb_size, hs]
  have HR : Hid (parseP s = ([], 0, 4)) := Lib.hid (by unfold parseP; rw [if_pos (by omega)])
  unfold maxLen at hm
  clear hs
  go_enter Tryd.func26, Tryd.ntmps26
  go_wp2_with fail
  go_ret3
  exact ppost_no HR.out (Below.refl _ _)
set_option maxRecDepth 100000 in
set_option maxHeartbeats 1000000 in
theorem parse_form (s : B) (m k : Nat) (hs : m = s.length) (hm : m ≤ 65536) (hk : restG s 0 = .inr k) (w : World) (hML : ML w) : Calls Tryd.prog 26 #[.string (tb s)] w (PPost w (parseP s)) := by
  have hsz : (tb s).size = m := by rw [tb_size, hs]
  have HR : Hid (parseP s = ([], (k : Int), 2)) := Lib.hid (by unfold parseP; rw [if_neg (by omega), hk])
  have HL : Hid (Calls Tryd.prog 40 #[.string (tb s)] w (LinesPost w (.inr k))) := Lib.hid (readLines_any s m hs hm _ hk.symm w hML)
  have hk0 : 0 < k := linesG_pos _ _ _ hk
  have hd : decide (65536 < (m : Int)) = false := decide_eq_false (by omega)
  clear hs hk
  go_enter Tryd.func26, Tryd.ntmps26
  go_wp2_with ((with_reducible refine HL.out.mono ?_); rintro e w1 hp1; obtain ⟨rfl, hb1⟩ := lines_inr hp1; have HB1 := Lib.hid hb1; clear hp1 hb1)
  go_ret3
  exact ppost_no HR.out HB1.out
set_option maxRecDepth 100000 in
set_option maxHeartbeats 1000000 in
theorem parse_nil (s : B) (m : Nat) (hs : m = s.length) (hm : m ≤ 65536) (hk : restG s 0 = .inl []) (w : World) (hML : ML w) : Calls Tryd.prog 26 #[.string (tb s)] w (PPost w (parseP s)) := by
  have hsz : (tb s).size = m := by rw [tb_size, hs]
  have HR : Hid (parseP s = ([], 0, 1)) := Lib.hid (by unfold parseP; rw [if_neg (by omega), hk]; simp [basesP, baseG, valP])
  have HL : Hid (Calls Tryd.prog 40 #[.string (tb s)] w (LinesPost w (.inl []))) := Lib.hid (readLines_any s m hs hm _ hk.symm w hML)
  have HN : Hid (∀ A c W, Calls Tryd.prog 41 #[.slice A 0 c] W (MapPost W [])) := Lib.hid fun A c W => numbers_nil A c W
  have HV : Hid (∀ A c W, c ≤ maxLen → Calls Tryd.prog 36 #[.slice A 0 c] W (BoolB W false)) := Lib.hid fun A c W hc => valid_any [] A 0 c rfl (Nat.zero_le _) hc (by simp) false rfl W (.inl rfl)
  have hd : decide (65536 < (m : Int)) = false := decide_eq_false (by omega)
  clear hs hk
  go_enter Tryd.func26, Tryd.ntmps26
  go_wp2_with (first
    | ((with_reducible refine HL.out.mono ?_); rintro e w1 hp1; obtain ⟨hb1, v1, v2, rfl, ho1, ho2, _⟩ := lines_inl hp1; obtain ⟨A1, c1, hv1, _, _, hm1⟩ := Rd.of_own ho1; obtain ⟨A2, c2, hv2, _, _, hm2⟩ := Rd.of_own ho2; have hv1' : v1 = .slice A1 0 c1 := hv1; have hv2' : v2 = .slice A2 0 c2 := hv2; subst hv1' hv2'; have HB1 := Lib.hid (And.intro hb1 hm1); clear hp1 hb1 ho1 ho2 hm1 hm2 hv1 hv2)
    | ((with_reducible refine (HN.out _ _ _).mono ?_); rintro e w2 hp2; obtain ⟨mm, rfl, _, _, hb2⟩ := map_out hp2; have HB2 := Lib.hid (below_next HB1.out.1 hb2); clear hp2 hb2))
  go_loopg [9, 10, 11, 12, 29] 0 (fun g s9 s10 s11 s12 s29 wr => s29 = .int .i64 0 ∧ wr = w2)
  case atStart => exact ⟨rfl, rfl⟩
  case round =>
    obtain ⟨rfl, rfl⟩ := hrel
    go_wp2_with ((with_reducible refine (HV.out _ _ _ HB1.out.2).mono ?_); rintro e w3 hp3; obtain ⟨rfl, hb3⟩ := boolb_out hp3; have HB3 := Lib.hid (below_next HB2.out hb3); clear hp3 hb3)
    go_ret3
    exact ppost_no HR.out HB3.out

/-- What the loop over the bases keeps. -/
def PaI (w : World) (g1 g2 m n cap : Nat) (R : Alp.Rows) (C2 : List Value) (i : Nat) (E : Sum (List Lt) Nat) (wr : World) : Prop :=
  ∃ (C : List Value) (D : List Lt), Blk wr g1 C 50 ∧ C.length = cap * 5 ∧ C.take (n * 5) = lv (D ++ firsts (R.drop i)) ∧ D.length = i ∧ E = addL D (baseG (firsts R) (R.drop i) i) ∧ Blk wr g2 C2 9 ∧ MapIs wr m (firsts R) ∧ Below w.heap.size w wr ∧ ∀ l ∈ D, l.text.length ≤ 65536
theorem own_blk {w : World} {base e size n : Nat} {v : Value} {xs : List Value} (h : w.ownsRow base e size v n xs) (hn : n ≠ 0) : ∃ g cap C, v = .slice (some ⟨g, 0, none⟩) n cap ∧ base ≤ g ∧ Blk w g C e ∧ C.length = cap * size ∧ C.take (n * size) = xs ∧ n ≤ cap ∧ cap ≤ maxLen := by
  rcases h.2 with ⟨_, h0⟩ | ⟨g, cap, cur, rfl, hb, hg, hnc, hcm, hcs, ht⟩
  · exact absurd h0 hn
  · exact ⟨g, cap, cur.toList, rfl, hb, by simpa [Blk] using hg, by simpa using hcs, ht, hnc, hcm⟩
theorem blk_ne {w : World} {g1 g2 : Nat} {C1 C2 : List Value} {T1 T2 : TypeId} (h1 : Blk w g1 C1 T1) (h2 : Blk w g2 C2 T2) (hne : T1 ≠ T2) : g1 ≠ g2 := by
  rintro rfl
  unfold Blk at h1 h2
  rw [h1] at h2
  simp at h2
  exact hne h2.2
theorem take_rd {w : World} {g n : Nat} {C : List Value} {T : TypeId} {xs : List Value} (h : Blk w g C T) (ht : C.take n = xs) : Rd w (some ⟨g, 0, none⟩) xs := .inr ⟨g, 0, rfl, fun k v hv => by
  rw [Nat.zero_add]
  rw [← ht, List.getElem?_take] at hv
  split at hv
  · exact h.cell hv
  · cases hv⟩
theorem take_set {C : List Value} {n k : Nat} {v : Value} : (C.set k v).take n = (C.take n).set k v := List.take_set
def finB (E : Sum (List Lt) Nat) : PR := match E with | .inr k => ([], (k : Int), 6) | .inl L => if valP L = true then (L, 0, 0) else ([], 0, 1)
theorem basesP_fin (R : Alp.Rows) : basesP R = finB (baseG (firsts R) R 0) := rfl
theorem finB_inr (k : Nat) : finB (.inr k) = ([], (k : Int), 6) := rfl
theorem finB_no {L : List Lt} (h : valP L = false) : finB (.inl L) = ([], 0, 1) := by show (if valP L = true then _ else _) = _; rw [h]; rfl
theorem finB_yes {L : List Lt} (h : valP L = true) : finB (.inl L) = (L, 0, 0) := by show (if valP L = true then _ else _) = _; rw [h]; rfl
theorem baseG_none {L0 : List Lt} {x : Lt × B} {t : Alp.Rows} {k : Nat} (h : idx L0 x.2 = none) : baseG L0 (x :: t) k = .inr (k + 1) := by rw [baseG, h]
theorem baseG_some {L0 : List Lt} {x : Lt × B} {t : Alp.Rows} {k n : Nat} (h : idx L0 x.2 = some n) : baseG L0 (x :: t) k = addL [setB x.1 n] (baseG L0 t (k + 1)) := by rw [baseG, h]
set_option maxRecDepth 100000 in
set_option maxHeartbeats 8000000 in
theorem parse_some (s : B) (q n : Nat) (hs : q = s.length) (hq : q ≤ 65536) (R : Alp.Rows) (hk : restG s 0 = .inl R) (hn : n = R.length) (hn0 : n ≠ 0) (w : World) (hML : ML w) : Calls Tryd.prog 26 #[.string (tb s)] w (PPost w (parseP s)) := by
  have hsz : (tb s).size = q := by rw [tb_size, hs]
  obtain ⟨E, hE⟩ : ∃ E, E = baseG (firsts R) R 0 := ⟨_, rfl⟩
  have HR : Hid (parseP s = finB E) := Lib.hid (by unfold parseP; rw [if_neg (by omega), hk, hE]; rfl)
  have HL : Hid (Calls Tryd.prog 40 #[.string (tb s)] w (LinesPost w (.inl R))) := Lib.hid (readLines_any s q hs hq _ hk.symm w hML)
  have hd : decide (65536 < (q : Int)) = false := decide_eq_false (by omega)
  have HE := Lib.hid hE
  have HN := Lib.hid hn
  clear hs hk hE hn
  go_enter Tryd.func26, Tryd.ntmps26
  go_wp2_with (first
    | ((with_reducible refine HL.out.mono ?_); rintro e w1 hp1; obtain ⟨hb1, v1, v2, rfl, ho1, ho2, hnb, hxs⟩ := lines_inl hp1; rw [← HN.out] at ho1 ho2 hnb; obtain ⟨g1, cap1, C1, rfl, hg1, hB1, hC1, ht1, hc1, hm1⟩ := own_blk ho1 hn0; obtain ⟨g2, cap2, C2, rfl, hg2, hB2, hC2, ht2, hc2, hm2⟩ := own_blk ho2 hn0; have HX1 : Hid (Below w.heap.size w w1 ∧ w.heap.size ≤ g1 ∧ Blk w1 g1 C1 50 ∧ C1.length = cap1 * 5 ∧ C1.take (n * 5) = lv (firsts R) ∧ Blk w1 g2 C2 9 ∧ C2.take (n * 1) = tv (seconds R) ∧ (∀ x ∈ R, x.1.text.length ≤ 65536 ∧ x.2.length ≤ 65536)) := Lib.hid ⟨hb1, hg1, hB1, hC1, ht1, hB2, ht2, hxs⟩; have HNT := Lib.hid (numbers_any (firsts R) (some ⟨g1, 0, none⟩) n cap1 (by rw [HN.out, firsts_len]) hc1 hm1 (fun l hl => by obtain ⟨x, hx, rfl⟩ := List.mem_map.1 hl; exact Nat.le_trans (HX1.out.2.2.2.2.2.2.2 x hx).1 (by unfold maxLen; omega)) w1 (take_rd hB1 ht1)); clear hp1 hb1 ho1 ho2 hxs hg1 hB1 hC1 ht1 hg2 hB2 hC2 ht2)
    | ((with_reducible refine HNT.out.mono ?_); rintro e w2 hp2; obtain ⟨mm, rfl, hmm1, hmm2, hb2⟩ := map_out hp2; have HX2 : Hid (PaI w g1 g2 mm n cap1 R C2 0 E w2 ∧ mm ≠ g1 ∧ g2 ≠ g1) := Lib.hid ⟨⟨C1, [], HX1.out.2.2.1.below hb2 HX1.out.2.2.1.lt, HX1.out.2.2.2.1, HX1.out.2.2.2.2.1, rfl, by rw [HE.out, addL_nil]; rfl, HX1.out.2.2.2.2.2.1.below hb2 HX1.out.2.2.2.2.2.1.lt, hmm2, below_next HX1.out.1 hb2, by simp⟩, by have := HX1.out.2.2.1.lt; omega, blk_ne HX1.out.2.2.2.2.2.1 HX1.out.2.2.1 (by decide)⟩; clear hp2 hb2 hmm1 hmm2))
  unfold maxLen at hm1 hm2
  go_loopg [9, 10, 11, 12, 29] n (fun g s9 s10 s11 s12 s29 wr => ∃ (i : Nat), i + g = n ∧ s29 = .int .i64 (i : Int) ∧ Hid (PaI w g1 g2 mm n cap1 R C2 i E wr))
  case atStart => exact ⟨0, by omega, rfl, Lib.hid HX2.out.1⟩
  case round =>
    obtain ⟨i, hi, rfl, HI⟩ := hrel
    by_cases hlt : i < n
    · obtain ⟨g, rfl⟩ : ∃ g, gk = g + 1 := ⟨gk - 1, by omega⟩
      have hiR : i < R.length := by rw [← HN.out]; exact hlt
      obtain ⟨x, hx⟩ : ∃ x, x = R[i] := ⟨_, rfl⟩
      obtain ⟨C, D, hC, hCl, hCt, hDl, hEE, hC2, hMM, hBB, hDs⟩ := HI.out
      have hdr : R.drop i = x :: R.drop (i + 1) := by rw [List.drop_eq_getElem_cons hiR, hx]
      obtain ⟨t, ht⟩ : ∃ t, t = x.2 := ⟨_, rfl⟩
      have hcb : wr.cell? ⟨g2, i, none⟩ = some (.string (tb t)) := hC2.cell (by
        have h1 := congrArg (fun l => l[i]?) HX1.out.2.2.2.2.2.2.1
        simp only [List.getElem?_take] at h1
        rw [if_pos (by omega)] at h1
        rw [h1, tv_get _ _ (by rw [seconds_len]; exact hiR), ht, hx]
        simp [seconds, List.getD, hiR])
      have hxR : x ∈ R := by rw [hx]; exact List.getElem_mem hiR
      have HT : Hid (t.length ≤ maxLen) := Lib.hid (by rw [ht]; exact Nat.le_trans (HX1.out.2.2.2.2.2.2.2 x hxR).2 (by unfold maxLen; omega))
      have HX5 : Hid (x.1.text.length ≤ 65536) := Lib.hid (HX1.out.2.2.2.2.2.2.2 x hxR).1
      have HMM := Lib.hid hMM
      have HC := Lib.hid (And.intro hC (And.intro hCl (And.intro hCt (And.intro hDl (And.intro hDs (And.intro hC2 hBB))))))
      have HD := Lib.hid hdr
      cases hix : idx (firsts R) t with
      | none =>
        have HE2 : Hid (E = .inr (i + 1)) := Lib.hid (by rw [hEE, hdr, baseG_none (by rw [← ht]; exact hix)]; rfl)
        have HI2 := Lib.hid hix
        clear hix hx hC hCl hCt hDl hEE hC2 hMM hBB hDs hdr ht hxR
        go_wp2_with (refine wpList_look rfl (.tmp 35) (.tmp 36) rfl mm rfl HMM.out t HT.out rfl 0 false (by rw [HI2.out]; rfl) (by rw [HI2.out]; rfl) ?_)
        go_ret3
        exact ppost_no (by rw [HR.out, HE2.out, finB_inr]; rfl) HC.out.2.2.2.2.2.2
      | some k =>
        obtain ⟨E2, hE2⟩ : ∃ E2, E2 = baseG (firsts R) (R.drop (i + 1)) (i + 1) := ⟨_, rfl⟩
        have HE2 : Hid (E = addL (D ++ [setB x.1 k]) (baseG (firsts R) (R.drop (i + 1)) (i + 1))) := Lib.hid (by rw [hEE, hdr, baseG_some (by rw [← ht]; exact hix), addL_addL])
        have HI2 := Lib.hid hix
        clear hix hx hC hCl hCt hDl hEE hC2 hMM hBB hDs hdr ht hxR hE2
        go_wp2_with (first
          | (refine wpList_look rfl (.tmp 35) (.tmp 36) rfl mm rfl HMM.out t HT.out rfl (k : Int) true (by rw [HI2.out]; rfl) (by rw [HI2.out]; rfl) ?_)
          | (refine wpList_store_int rfl 3 (.tmp 48) (.tmp 46) rfl g1 (i * 5 + 1) rfl .i64 (k : Int) rfl HC.out.1 (by rw [HC.out.2.1]; omega) Tryd.sizeInt ?_; intro w5 hst5; have HX6 : Hid (Stored wr w5 g1 (C.set (i * 5 + 1) (.int .i64 (k : Int))) 50) := Lib.hid hst5; clear hst5))
        go_roundg g
        case rel =>
          refine ⟨i + 1, by omega, by go_num, Lib.hid ⟨_, D ++ [setB x.1 k], HX6.out.1, by rw [List.length_set]; exact HC.out.2.1, ?_, by rw [List.length_append, HC.out.2.2.2.1]; rfl, HE2.out, HX6.out.other HC.out.2.2.2.2.2.1 HX2.out.2.2, HMM.out.stored HX6.out HX2.out.2.1, HX6.out.below HC.out.2.2.2.2.2.2 HX1.out.2.1, ?_⟩⟩
          · rw [take_set, HC.out.2.2.1, HD.out, List.append_assoc]
            exact lv_setB D x.1 (firsts (R.drop (i + 1))) k i HC.out.2.2.2.1.symm
          · intro l hl
            rcases List.mem_append.1 hl with h' | h'
            · exact HC.out.2.2.2.2.1 l h'
            · rw [List.mem_singleton.1 h']; exact HX5.out
        case measure => omega
    · obtain rfl : i = n := by omega
      obtain ⟨C, D, hC, hCl, hCt, hDl, hEE, hC2, hMM, hBB, hDs⟩ := HI.out
      rw [List.drop_of_length_le (by rw [← HN.out]; exact Nat.le_refl _)] at hCt hEE
      have hCt' : C.take (i * 5) = lv D := by rw [hCt]; simp [firsts]
      have HE2 : Hid (E = .inl D) := Lib.hid (by rw [hEE]; simp [baseG, addL])
      obtain ⟨V, hV⟩ : ∃ V, V = valP D := ⟨_, rfl⟩
      have HV := Lib.hid (valid_any D (some ⟨g1, 0, none⟩) i cap1 hDl.symm hc1 (by unfold maxLen; exact hm1) (fun l hl => Nat.le_trans (hDs l hl) (by unfold maxLen; omega)) V hV wr (take_rd hC hCt'))
      have HD : Hid (Rd wr (some ⟨g1, 0, none⟩) (lv D) ∧ D.length = i ∧ Below w.heap.size w wr ∧ V = valP D) := Lib.hid ⟨take_rd hC hCt', hDl, hBB, hV⟩
      clear hC hCl hCt hCt' hDl hEE hC2 hMM hBB hDs hV
      cases V
      · go_wp2_with ((with_reducible refine HV.out.mono ?_); rintro e w3 hp3; obtain ⟨rfl, hb3⟩ := boolb_out hp3; have HB3 := Lib.hid (below_next HD.out.2.2.1 hb3); clear hp3 hb3)
        go_ret3
        exact ppost_no (by rw [HR.out, HE2.out, finB_no HD.out.2.2.2.symm]) HB3.out
      · go_wp2_with ((with_reducible refine HV.out.mono ?_); rintro e w3 hp3; obtain ⟨rfl, hb3⟩ := boolb_out hp3; have HB3 : Hid (Below w.heap.size w w3 ∧ Rd w3 (some ⟨g1, 0, none⟩) (lv D)) := Lib.hid ⟨below_next HD.out.2.2.1 hb3, HD.out.1.below hb3⟩; clear hp3 hb3)
        go_ret3
        rw [HR.out, HE2.out, finB_yes HD.out.2.2.2.symm]
        exact ⟨_, _, _, rfl, HD.out.2.1.symm, HB3.out.2, hc1, by unfold maxLen; exact hm1, HB3.out.1⟩
theorem parse_any (s : B) (hs : s.length ≤ maxLen) (w : World) (hML : ML w) : Calls Tryd.prog 26 #[.string (tb s)] w (PPost w (parseP s)) := by
  by_cases h : 65536 < s.length
  · exact parse_big s _ rfl hs h w
  · cases hk : restG s 0 with
    | inr k => exact parse_form s _ k rfl (by omega) hk w hML
    | inl R =>
      by_cases h0 : R = []
      · subst h0
        exact parse_nil s _ rfl (by omega) hk w hML
      · exact parse_some s _ _ rfl (by omega) R hk rfl (by intro e; exact h0 (List.eq_nil_of_length_eq_zero e)) w hML
end Go.Proofs.YtolkmjgklgimpaaDoor
