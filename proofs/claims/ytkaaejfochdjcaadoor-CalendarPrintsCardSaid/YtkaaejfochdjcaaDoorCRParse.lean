/-
  The reference's Parse: it reads a text as the pure reading says.
-/
import Derived.Test.YtkaaejfochdjcaaDoorCRText
namespace Go.Proofs.YtkaaejfochdjcaaDoor
open Go.RowKit
open Cal
set_option linter.unusedVariables false
set_option linter.unusedSimpArgs false

theorem rps_c {l : List UInt8} (hl : l.length = 5) (hc : l.head? = some 99) {y : Int} {b : Bool} (h : numR l.tail = (y, b)) : rps l = if b then aro y else eForm := by
  unfold rps
  rw [if_pos ⟨hl, hc⟩]
  unfold numR at h
  cases e : nm l.tail with
  | none => rw [e] at h; simp only [Prod.mk.injEq] at h; rw [← h.2]; rfl
  | some z => rw [e] at h; simp only [Prod.mk.injEq] at h; rw [← h.2, ← h.1]; rfl
theorem rps_one {l : List UInt8} (h5 : ¬ (l.length = 5 ∧ l.head? = some 99)) (h : (47 : UInt8) ∉ l) : rps l = rtx l := by unfold rps; rw [if_neg h5, if_neg h]
theorem tw_app (u v : List UInt8) (hu : (47 : UInt8) ∉ u) : (u ++ 47 :: v).takeWhile (· ≠ 47) = u ∧ (u ++ 47 :: v).dropWhile (· ≠ 47) = 47 :: v := by
  induction u with
  | nil => simp
  | cons c t ih =>
    have hc : c ≠ 47 := by intro e; subst e; simp at hu
    have ht : (47 : UInt8) ∉ t := fun h => hu (List.mem_cons_of_mem _ h)
    obtain ⟨a, b⟩ := ih ht
    simp only [List.cons_append, List.takeWhile_cons, List.dropWhile_cons, ne_eq, hc, not_false_eq_true, decide_true, if_true]
    exact ⟨by rw [a], b⟩
theorem rps_two {l u v : List UInt8} (h5 : ¬ (l.length = 5 ∧ l.head? = some 99)) (hl : l = u ++ 47 :: v) (hu : (47 : UInt8) ∉ u) : rps l = if (rtx u).2.2 = 2 ∨ (rtx v).2.2 = 2 then eForm else btwR (rtx u) (rtx v) := by
  unfold rps
  rw [if_neg h5, if_pos (by rw [hl]; simp)]
  have := tw_app u v hu
  rw [hl, this.1, this.2]
  rfl
theorem rtx_cases (l : List UInt8) : rtx l = eForm ∨ rtx l = eRange ∨ ∃ a b, rtx l = (a, b, 0) := by
  rw [rtx_eq]
  split
  · rename_i p _
    rcases per_err p with e | e
    · obtain ⟨⟨a, b, c⟩, h⟩ : ∃ r, r = per p := ⟨_, rfl⟩
      rw [← h] at e ⊢
      exact .inr (.inr ⟨a, b, by rw [show c = 0 from e]⟩)
    · exact .inr (.inl e)
  · exact .inl rfl
set_option maxRecDepth 100000 in
set_option maxHeartbeats 4000000 in
theorem rparse_c (t : List UInt8) (hl : t.length = 4) (Q : R) (hQ : Q = rps (99 :: t)) (w : World) : Calls Tryd.prog 26 #[.string (tb (99 :: t))] w (TextPost w Q) := by
  have hsz : (tb (99 :: t)).size = 5 := by rw [tb_size, List.length_cons, hl]
  have hg : (tb (99 :: t))[0]'(by rw [hsz]; omega) = 99 := rfl
  obtain ⟨⟨y, b⟩, hy⟩ : ∃ r, numR t = r := ⟨_, rfl⟩
  rw [rps_c (l := 99 :: t) (by simp [hl]) rfl hy] at hQ
  have hx : (tb (99 :: t)).extract 1 5 = tb t := by rw [tb_sub]; rw [List.take_of_length_le (by simp [hl])]; rfl
  have HN : Hid (∀ W, Calls Tryd.prog 46 #[.string (tb t)] W fun e w' => e = .returned (.tuple #[.int .i64 y, .bool b]) ∧ W = w') := Lib.hid fun W => by have := rnum_any t (by omega) W; rw [hy] at this; exact this
  clear hy hl
  generalize tb t = S1 at *
  generalize tb (99 :: t) = S at *
  cases b
  · have HE : Hid (Q = eForm) := Lib.hid hQ
    clear hQ
    go_enter Tryd.func26, Tryd.ntmps26
    go_wp2_with (first
      | ((with_reducible refine (HN.out _).mono ?_); rintro e w1 ⟨rfl, rfl⟩))
    exact ret_span rfl w.heap.size rfl _ rfl (Blk.at w (iv [_, _]) _ 30 _ rfl rfl) _ Tryd.underlying30 rfl Tryd.sizeSpan rfl ⟨by rw [HE.out]; rfl, below_a1 _ _⟩
  · by_cases h : 1 ≤ y ∧ y ≤ 2800
    · have HE : Hid (Q = (1 + dby (max 1 (y - 5)), 1 + dby (min 2800 (y + 4) + 1) - 1, 0)) := Lib.hid (by rw [hQ]; unfold aro; rw [if_pos rfl, if_pos h, num_first, num_last]; congr 1; · omega
                                                                                                          · congr 1; omega)
      obtain ⟨y1, y2⟩ := h
      have hd1 := dby_bd (y := max 1 (y - 5)) (by omega) (by omega)
      have hd2 := dby_bd (y := min 2800 (y + 4) + 1) (by omega) (by omega)
      clear hQ
      go_enter Tryd.func26, Tryd.ntmps26
      go_wp2_with (first
        | ((with_reducible refine (HN.out _).mono ?_); rintro e w1 ⟨rfl, rfl⟩)
        | ((with_reducible refine (rstart_any (max 1 (y - 5)) (by omega) (by omega) _).mono ?_); rintro e w1 ⟨rfl, rfl⟩)
        | ((with_reducible refine (rstart_any (min 2800 (y + 4) + 1) (by omega) (by omega) _).mono ?_); rintro e w1 ⟨rfl, rfl⟩))
      exact ret_span rfl w.heap.size rfl _ rfl (Blk.at w (iv [_, _]) _ 30 _ rfl rfl) _ Tryd.underlying30 rfl Tryd.sizeSpan rfl ⟨by rw [HE.out]; rfl, below_a1 _ _⟩
    · have HE : Hid (Q = eRange) := Lib.hid (by rw [hQ]; exact aro_no h)
      clear hQ
      by_cases y1 : 1 ≤ y
      · have y2 : ¬ y ≤ 2800 := fun y2 => h ⟨y1, y2⟩
        clear h
        go_enter Tryd.func26, Tryd.ntmps26
        go_wp2_with (first
          | ((with_reducible refine (HN.out _).mono ?_); rintro e w1 ⟨rfl, rfl⟩))
        exact ret_span rfl w.heap.size rfl _ rfl (Blk.at w (iv [_, _]) _ 30 _ rfl rfl) _ Tryd.underlying30 rfl Tryd.sizeSpan rfl ⟨by rw [HE.out]; rfl, below_a1 _ _⟩
      · clear h
        go_enter Tryd.func26, Tryd.ntmps26
        go_wp2_with (first
          | ((with_reducible refine (HN.out _).mono ?_); rintro e w1 ⟨rfl, rfl⟩))
        exact ret_span rfl w.heap.size rfl _ rfl (Blk.at w (iv [_, _]) _ 30 _ rfl rfl) _ Tryd.underlying30 rfl Tryd.sizeSpan rfl ⟨by rw [HE.out]; rfl, below_a1 _ _⟩
set_option maxRecDepth 100000 in
set_option maxHeartbeats 16000000 in
theorem rparse_l (l : List UInt8) (hm : l.length ≤ maxLen) (h5 : l.length ≠ 5) (Q : R) (hQ : Q = rps l) (w : World) : Calls Tryd.prog 26 #[.string (tb l)] w (TextPost w Q) := by
  have hm' : l.length ≤ 9223372036854775807 := by unfold maxLen at hm; omega
  obtain ⟨n, hn⟩ : ∃ n, n = l.length := ⟨_, rfl⟩
  have hsz : (tb l).size = n := by rw [tb_size, hn]
  have HMX := Lib.hid hm
  rw [← hn] at hm'
  have hb5 : ((n : Int) == 5) = false := beq_eq_false_iff_ne.2 (by omega)
  have H5 : Hid (¬ (l.length = 5 ∧ l.head? = some 99)) := Lib.hid fun h => h5 h.1
  have HN := Lib.hid hn
  have HQ := Lib.hid hQ
  clear hm h5 hn hQ
  go_enter Tryd.func26, Tryd.ntmps26
  go_wp2_with fail
  go_loopg [6] n (fun g s6 wr => ∃ k : Nat, k + g = n ∧ s6 = .int .i64 (k : Int) ∧ Hid ((47 : UInt8) ∉ l.take k) ∧ wr = w.alloc (.cells #[.int .i64 0, .int .i64 0] 30))
  case atStart => exact ⟨0, by omega, rfl, Lib.hid (by simp), rfl⟩
  case round =>
    obtain ⟨k, hk, rfl, HT, rfl⟩ := hrel
    by_cases hlt : k < n
    · obtain ⟨g, rfl⟩ : ∃ g, gk = g + 1 := ⟨gk - 1, by omega⟩
      have hkl : k < l.length := by rw [← HN.out]; exact hlt
      obtain ⟨c, hc⟩ : ∃ c, c = l[k] := ⟨_, rfl⟩
      have hg : (tb l)[k]'(by rw [tb_size]; exact hkl) = c := by rw [hc]; rfl
      by_cases h47 : c = 47
      · have hb : ((c.toNat : Int) != 47) = false := by rw [h47]; rfl
        obtain ⟨u, hu⟩ : ∃ u, u = l.take k := ⟨_, rfl⟩
        obtain ⟨v, hv⟩ : ∃ v, v = l.drop (k + 1) := ⟨_, rfl⟩
        have hl : l = u ++ 47 :: v := by rw [hu, hv, ← h47, hc, ← List.drop_eq_getElem_cons hkl, List.take_append_drop]
        have hum : u.length ≤ maxLen := by rw [hu, List.length_take]; have := HMX.out; omega
        have hvm : v.length ≤ maxLen := by rw [hv, List.length_drop]; have := HMX.out; omega
        have hx1 : (tb l).extract 0 k = tb u := by rw [tb_sub, List.drop_zero, hu]; rfl
        have hx2 : (tb l).extract (k + 1) n = tb v := by rw [tb_sub, hv, HN.out, List.take_of_length_le (by simp)]
        have HS : Hid (Q = if (rtx u).2.2 = 2 ∨ (rtx v).2.2 = 2 then eForm else btwR (rtx u) (rtx v)) := Lib.hid (by rw [HQ.out]; exact rps_two H5.out hl (by rw [hu]; exact HT.out))
        have hkn : ((k : Int) == (n : Int)) = false := beq_eq_false_iff_ne.2 (by omega)
        clear hu hv hl h47 hc
        rcases rtx_cases u with huq | huq | ⟨p, q, huq⟩
        · have HU : Hid (∀ W, Calls Tryd.prog 47 #[.string (tb u)] W fun e w' => e = .returned (.tuple #[.agg #[.int .i64 0, .int .i64 0], .int .i64 2]) ∧ Below W.heap.size W w') := Lib.hid fun W => by have := rtext_any u (by first | assumption | omega) W; rw [huq] at this; exact this
          rcases rtx_cases v with hvq | hvq | ⟨p2, q2, hvq⟩
          · have HV : Hid (∀ W, Calls Tryd.prog 47 #[.string (tb v)] W fun e w' => e = .returned (.tuple #[.agg #[.int .i64 0, .int .i64 0], .int .i64 2]) ∧ Below W.heap.size W w') := Lib.hid fun W => by have := rtext_any v (by first | assumption | omega) W; rw [hvq] at this; exact this
            have HE : Hid (Q = eForm) := Lib.hid (by rw [HS.out, huq, hvq]; rfl)
            clear huq hvq
            go_wp2_with (first
              | ((with_reducible refine (HU.out _).mono ?_); rintro e w1 ⟨rfl, hb1⟩; have HX1 : Hid (Blk w1 w.heap.size (iv [0, 0]) 30 ∧ Below w.heap.size w w1) := Lib.hid ⟨(Blk.at w (iv [0, 0]) _ 30 _ rfl rfl).below hb1 (by simp), below_next (below_a1 _ _) hb1⟩; clear hb1)
              | ((with_reducible refine (HV.out _).mono ?_); rintro e w2 ⟨rfl, hb2⟩; have HX2 : Hid (Blk w2 w.heap.size (iv [0, 0]) 30 ∧ Below w.heap.size w w2) := Lib.hid ⟨(HX1.out.1.alloc _).below hb2 (by simp; have := HX1.out.1.lt; omega), below_next (below_al HX1.out.2 _) hb2⟩; have hlt2 : w1.heap.size < w2.heap.size := (by have := hb2.size; simp at this; omega); have hcA : w2.cell? ⟨w1.heap.size, 0, none⟩ = some (.int .i64 0) := ((Blk.at w1 (iv [0, 0]) _ 30 _ rfl rfl).below hb2 (by simp)).cell rfl; clear hb2)
              | (refine wpList_store_blk rfl 30 (.tmp 2) (.tmp 87) rfl w.heap.size 0 rfl (iv [0, 0]) rfl (HX2.out.1.alloc _) 2 Tryd.sizeSpan rfl (by simp [iv]) (iv_one _) ?_; intro w9 hst9; have HX9 : Hid (Blk w9 w.heap.size (iv [0, 0]) 30 ∧ Below w.heap.size w w9) := Lib.hid ⟨hst9.1, hst9.below (below_al HX2.out.2 _) (by omega)⟩; clear hst9))
            exact ret_span rfl w.heap.size rfl _ rfl HX9.out.1 _ Tryd.underlying30 rfl Tryd.sizeSpan rfl ⟨by rw [HE.out]; rfl, HX9.out.2⟩
          · have HV : Hid (∀ W, Calls Tryd.prog 47 #[.string (tb v)] W fun e w' => e = .returned (.tuple #[.agg #[.int .i64 0, .int .i64 0], .int .i64 5]) ∧ Below W.heap.size W w') := Lib.hid fun W => by have := rtext_any v (by first | assumption | omega) W; rw [hvq] at this; exact this
            have HE : Hid (Q = eForm) := Lib.hid (by rw [HS.out, huq, hvq]; rfl)
            clear huq hvq
            go_wp2_with (first
              | ((with_reducible refine (HU.out _).mono ?_); rintro e w1 ⟨rfl, hb1⟩; have HX1 : Hid (Blk w1 w.heap.size (iv [0, 0]) 30 ∧ Below w.heap.size w w1) := Lib.hid ⟨(Blk.at w (iv [0, 0]) _ 30 _ rfl rfl).below hb1 (by simp), below_next (below_a1 _ _) hb1⟩; clear hb1)
              | ((with_reducible refine (HV.out _).mono ?_); rintro e w2 ⟨rfl, hb2⟩; have HX2 : Hid (Blk w2 w.heap.size (iv [0, 0]) 30 ∧ Below w.heap.size w w2) := Lib.hid ⟨(HX1.out.1.alloc _).below hb2 (by simp; have := HX1.out.1.lt; omega), below_next (below_al HX1.out.2 _) hb2⟩; have hlt2 : w1.heap.size < w2.heap.size := (by have := hb2.size; simp at this; omega); have hcA : w2.cell? ⟨w1.heap.size, 0, none⟩ = some (.int .i64 0) := ((Blk.at w1 (iv [0, 0]) _ 30 _ rfl rfl).below hb2 (by simp)).cell rfl; clear hb2)
              | (refine wpList_store_blk rfl 30 (.tmp 2) (.tmp 87) rfl w.heap.size 0 rfl (iv [0, 0]) rfl (HX2.out.1.alloc _) 2 Tryd.sizeSpan rfl (by simp [iv]) (iv_one _) ?_; intro w9 hst9; have HX9 : Hid (Blk w9 w.heap.size (iv [0, 0]) 30 ∧ Below w.heap.size w w9) := Lib.hid ⟨hst9.1, hst9.below (below_al HX2.out.2 _) (by omega)⟩; clear hst9))
            exact ret_span rfl w.heap.size rfl _ rfl HX9.out.1 _ Tryd.underlying30 rfl Tryd.sizeSpan rfl ⟨by rw [HE.out]; rfl, HX9.out.2⟩
          · have HV : Hid (∀ W, Calls Tryd.prog 47 #[.string (tb v)] W fun e w' => e = .returned (.tuple #[.agg #[.int .i64 p2, .int .i64 q2], .int .i64 0]) ∧ Below W.heap.size W w') := Lib.hid fun W => by have := rtext_any v (by first | assumption | omega) W; rw [hvq] at this; exact this
            have HE : Hid (Q = eForm) := Lib.hid (by rw [HS.out, huq, hvq]; rfl)
            clear huq hvq
            go_wp2_with (first
              | ((with_reducible refine (HU.out _).mono ?_); rintro e w1 ⟨rfl, hb1⟩; have HX1 : Hid (Blk w1 w.heap.size (iv [0, 0]) 30 ∧ Below w.heap.size w w1) := Lib.hid ⟨(Blk.at w (iv [0, 0]) _ 30 _ rfl rfl).below hb1 (by simp), below_next (below_a1 _ _) hb1⟩; clear hb1)
              | ((with_reducible refine (HV.out _).mono ?_); rintro e w2 ⟨rfl, hb2⟩; have HX2 : Hid (Blk w2 w.heap.size (iv [0, 0]) 30 ∧ Below w.heap.size w w2) := Lib.hid ⟨(HX1.out.1.alloc _).below hb2 (by simp; have := HX1.out.1.lt; omega), below_next (below_al HX1.out.2 _) hb2⟩; have hlt2 : w1.heap.size < w2.heap.size := (by have := hb2.size; simp at this; omega); have hcA : w2.cell? ⟨w1.heap.size, 0, none⟩ = some (.int .i64 0) := ((Blk.at w1 (iv [0, 0]) _ 30 _ rfl rfl).below hb2 (by simp)).cell rfl; clear hb2)
              | (refine wpList_store_blk rfl 30 (.tmp 2) (.tmp 87) rfl w.heap.size 0 rfl (iv [0, 0]) rfl (HX2.out.1.alloc _) 2 Tryd.sizeSpan rfl (by simp [iv]) (iv_one _) ?_; intro w9 hst9; have HX9 : Hid (Blk w9 w.heap.size (iv [0, 0]) 30 ∧ Below w.heap.size w w9) := Lib.hid ⟨hst9.1, hst9.below (below_al HX2.out.2 _) (by omega)⟩; clear hst9))
            exact ret_span rfl w.heap.size rfl _ rfl HX9.out.1 _ Tryd.underlying30 rfl Tryd.sizeSpan rfl ⟨by rw [HE.out]; rfl, HX9.out.2⟩
        · have HU : Hid (∀ W, Calls Tryd.prog 47 #[.string (tb u)] W fun e w' => e = .returned (.tuple #[.agg #[.int .i64 0, .int .i64 0], .int .i64 5]) ∧ Below W.heap.size W w') := Lib.hid fun W => by have := rtext_any u (by first | assumption | omega) W; rw [huq] at this; exact this
          rcases rtx_cases v with hvq | hvq | ⟨p2, q2, hvq⟩
          · have HV : Hid (∀ W, Calls Tryd.prog 47 #[.string (tb v)] W fun e w' => e = .returned (.tuple #[.agg #[.int .i64 0, .int .i64 0], .int .i64 2]) ∧ Below W.heap.size W w') := Lib.hid fun W => by have := rtext_any v (by first | assumption | omega) W; rw [hvq] at this; exact this
            have HE : Hid (Q = eForm) := Lib.hid (by rw [HS.out, huq, hvq]; rfl)
            clear huq hvq
            go_wp2_with (first
              | ((with_reducible refine (HU.out _).mono ?_); rintro e w1 ⟨rfl, hb1⟩; have HX1 : Hid (Blk w1 w.heap.size (iv [0, 0]) 30 ∧ Below w.heap.size w w1) := Lib.hid ⟨(Blk.at w (iv [0, 0]) _ 30 _ rfl rfl).below hb1 (by simp), below_next (below_a1 _ _) hb1⟩; clear hb1)
              | ((with_reducible refine (HV.out _).mono ?_); rintro e w2 ⟨rfl, hb2⟩; have HX2 : Hid (Blk w2 w.heap.size (iv [0, 0]) 30 ∧ Below w.heap.size w w2) := Lib.hid ⟨(HX1.out.1.alloc _).below hb2 (by simp; have := HX1.out.1.lt; omega), below_next (below_al HX1.out.2 _) hb2⟩; have hlt2 : w1.heap.size < w2.heap.size := (by have := hb2.size; simp at this; omega); have hcA : w2.cell? ⟨w1.heap.size, 0, none⟩ = some (.int .i64 0) := ((Blk.at w1 (iv [0, 0]) _ 30 _ rfl rfl).below hb2 (by simp)).cell rfl; clear hb2)
              | (refine wpList_store_blk rfl 30 (.tmp 2) (.tmp 87) rfl w.heap.size 0 rfl (iv [0, 0]) rfl (HX2.out.1.alloc _) 2 Tryd.sizeSpan rfl (by simp [iv]) (iv_one _) ?_; intro w9 hst9; have HX9 : Hid (Blk w9 w.heap.size (iv [0, 0]) 30 ∧ Below w.heap.size w w9) := Lib.hid ⟨hst9.1, hst9.below (below_al HX2.out.2 _) (by omega)⟩; clear hst9))
            exact ret_span rfl w.heap.size rfl _ rfl HX9.out.1 _ Tryd.underlying30 rfl Tryd.sizeSpan rfl ⟨by rw [HE.out]; rfl, HX9.out.2⟩
          · have HV : Hid (∀ W, Calls Tryd.prog 47 #[.string (tb v)] W fun e w' => e = .returned (.tuple #[.agg #[.int .i64 0, .int .i64 0], .int .i64 5]) ∧ Below W.heap.size W w') := Lib.hid fun W => by have := rtext_any v (by first | assumption | omega) W; rw [hvq] at this; exact this
            have HE : Hid (Q = eRange) := Lib.hid (by rw [HS.out, huq, hvq]; unfold btwR eRange eForm; simp)
            clear huq hvq
            go_wp2_with (first
              | ((with_reducible refine (HU.out _).mono ?_); rintro e w1 ⟨rfl, hb1⟩; have HX1 : Hid (Blk w1 w.heap.size (iv [0, 0]) 30 ∧ Below w.heap.size w w1) := Lib.hid ⟨(Blk.at w (iv [0, 0]) _ 30 _ rfl rfl).below hb1 (by simp), below_next (below_a1 _ _) hb1⟩; clear hb1)
              | ((with_reducible refine (HV.out _).mono ?_); rintro e w2 ⟨rfl, hb2⟩; have HX2 : Hid (Blk w2 w.heap.size (iv [0, 0]) 30 ∧ Below w.heap.size w w2) := Lib.hid ⟨(HX1.out.1.alloc _).below hb2 (by simp; have := HX1.out.1.lt; omega), below_next (below_al HX1.out.2 _) hb2⟩; have hlt2 : w1.heap.size < w2.heap.size := (by have := hb2.size; simp at this; omega); have hcA : w2.cell? ⟨w1.heap.size, 0, none⟩ = some (.int .i64 0) := ((Blk.at w1 (iv [0, 0]) _ 30 _ rfl rfl).below hb2 (by simp)).cell rfl; clear hb2)
              | (refine wpList_store_blk rfl 30 (.tmp 2) (.tmp 101) rfl w.heap.size 0 rfl (iv [0, 0]) rfl (HX2.out.1.alloc _) 2 Tryd.sizeSpan rfl (by simp [iv]) (iv_one _) ?_; intro w9 hst9; have HX9 : Hid (Blk w9 w.heap.size (iv [0, 0]) 30 ∧ Below w.heap.size w w9) := Lib.hid ⟨hst9.1, hst9.below (below_al HX2.out.2 _) (by omega)⟩; clear hst9))
            exact ret_span rfl w.heap.size rfl _ rfl HX9.out.1 _ Tryd.underlying30 rfl Tryd.sizeSpan rfl ⟨by rw [HE.out]; rfl, HX9.out.2⟩
          · have HV : Hid (∀ W, Calls Tryd.prog 47 #[.string (tb v)] W fun e w' => e = .returned (.tuple #[.agg #[.int .i64 p2, .int .i64 q2], .int .i64 0]) ∧ Below W.heap.size W w') := Lib.hid fun W => by have := rtext_any v (by first | assumption | omega) W; rw [hvq] at this; exact this
            have HE : Hid (Q = eRange) := Lib.hid (by rw [HS.out, huq, hvq]; unfold btwR eRange eForm; simp)
            clear huq hvq
            go_wp2_with (first
              | ((with_reducible refine (HU.out _).mono ?_); rintro e w1 ⟨rfl, hb1⟩; have HX1 : Hid (Blk w1 w.heap.size (iv [0, 0]) 30 ∧ Below w.heap.size w w1) := Lib.hid ⟨(Blk.at w (iv [0, 0]) _ 30 _ rfl rfl).below hb1 (by simp), below_next (below_a1 _ _) hb1⟩; clear hb1)
              | ((with_reducible refine (HV.out _).mono ?_); rintro e w2 ⟨rfl, hb2⟩; have HX2 : Hid (Blk w2 w.heap.size (iv [0, 0]) 30 ∧ Below w.heap.size w w2) := Lib.hid ⟨(HX1.out.1.alloc _).below hb2 (by simp; have := HX1.out.1.lt; omega), below_next (below_al HX1.out.2 _) hb2⟩; have hlt2 : w1.heap.size < w2.heap.size := (by have := hb2.size; simp at this; omega); have hcA : w2.cell? ⟨w1.heap.size, 0, none⟩ = some (.int .i64 0) := ((Blk.at w1 (iv [0, 0]) _ 30 _ rfl rfl).below hb2 (by simp)).cell rfl; clear hb2)
              | (refine wpList_store_blk rfl 30 (.tmp 2) (.tmp 101) rfl w.heap.size 0 rfl (iv [0, 0]) rfl (HX2.out.1.alloc _) 2 Tryd.sizeSpan rfl (by simp [iv]) (iv_one _) ?_; intro w9 hst9; have HX9 : Hid (Blk w9 w.heap.size (iv [0, 0]) 30 ∧ Below w.heap.size w w9) := Lib.hid ⟨hst9.1, hst9.below (below_al HX2.out.2 _) (by omega)⟩; clear hst9))
            exact ret_span rfl w.heap.size rfl _ rfl HX9.out.1 _ Tryd.underlying30 rfl Tryd.sizeSpan rfl ⟨by rw [HE.out]; rfl, HX9.out.2⟩
        · have HU : Hid (∀ W, Calls Tryd.prog 47 #[.string (tb u)] W fun e w' => e = .returned (.tuple #[.agg #[.int .i64 p, .int .i64 q], .int .i64 0]) ∧ Below W.heap.size W w') := Lib.hid fun W => by have := rtext_any u (by first | assumption | omega) W; rw [huq] at this; exact this
          rcases rtx_cases v with hvq | hvq | ⟨p2, q2, hvq⟩
          · have HV : Hid (∀ W, Calls Tryd.prog 47 #[.string (tb v)] W fun e w' => e = .returned (.tuple #[.agg #[.int .i64 0, .int .i64 0], .int .i64 2]) ∧ Below W.heap.size W w') := Lib.hid fun W => by have := rtext_any v (by first | assumption | omega) W; rw [hvq] at this; exact this
            have HE : Hid (Q = eForm) := Lib.hid (by rw [HS.out, huq, hvq]; rfl)
            clear huq hvq
            go_wp2_with (first
              | ((with_reducible refine (HU.out _).mono ?_); rintro e w1 ⟨rfl, hb1⟩; have HX1 : Hid (Blk w1 w.heap.size (iv [0, 0]) 30 ∧ Below w.heap.size w w1) := Lib.hid ⟨(Blk.at w (iv [0, 0]) _ 30 _ rfl rfl).below hb1 (by simp), below_next (below_a1 _ _) hb1⟩; clear hb1)
              | ((with_reducible refine (HV.out _).mono ?_); rintro e w2 ⟨rfl, hb2⟩; have HX2 : Hid (Blk w2 w.heap.size (iv [0, 0]) 30 ∧ Below w.heap.size w w2) := Lib.hid ⟨(HX1.out.1.alloc _).below hb2 (by simp; have := HX1.out.1.lt; omega), below_next (below_al HX1.out.2 _) hb2⟩; have hlt2 : w1.heap.size < w2.heap.size := (by have := hb2.size; simp at this; omega); have hcA : w2.cell? ⟨w1.heap.size, 0, none⟩ = some (.int .i64 p) := ((Blk.at w1 (iv [p, q]) _ 30 _ rfl rfl).below hb2 (by simp)).cell rfl; clear hb2)
              | (refine wpList_store_blk rfl 30 (.tmp 2) (.tmp 87) rfl w.heap.size 0 rfl (iv [0, 0]) rfl (HX2.out.1.alloc _) 2 Tryd.sizeSpan rfl (by simp [iv]) (iv_one _) ?_; intro w9 hst9; have HX9 : Hid (Blk w9 w.heap.size (iv [0, 0]) 30 ∧ Below w.heap.size w w9) := Lib.hid ⟨hst9.1, hst9.below (below_al HX2.out.2 _) (by omega)⟩; clear hst9))
            exact ret_span rfl w.heap.size rfl _ rfl HX9.out.1 _ Tryd.underlying30 rfl Tryd.sizeSpan rfl ⟨by rw [HE.out]; rfl, HX9.out.2⟩
          · have HV : Hid (∀ W, Calls Tryd.prog 47 #[.string (tb v)] W fun e w' => e = .returned (.tuple #[.agg #[.int .i64 0, .int .i64 0], .int .i64 5]) ∧ Below W.heap.size W w') := Lib.hid fun W => by have := rtext_any v (by first | assumption | omega) W; rw [hvq] at this; exact this
            have HE : Hid (Q = eRange) := Lib.hid (by rw [HS.out, huq, hvq]; unfold btwR eRange eForm; simp)
            clear huq hvq
            go_wp2_with (first
              | ((with_reducible refine (HU.out _).mono ?_); rintro e w1 ⟨rfl, hb1⟩; have HX1 : Hid (Blk w1 w.heap.size (iv [0, 0]) 30 ∧ Below w.heap.size w w1) := Lib.hid ⟨(Blk.at w (iv [0, 0]) _ 30 _ rfl rfl).below hb1 (by simp), below_next (below_a1 _ _) hb1⟩; clear hb1)
              | ((with_reducible refine (HV.out _).mono ?_); rintro e w2 ⟨rfl, hb2⟩; have HX2 : Hid (Blk w2 w.heap.size (iv [0, 0]) 30 ∧ Below w.heap.size w w2) := Lib.hid ⟨(HX1.out.1.alloc _).below hb2 (by simp; have := HX1.out.1.lt; omega), below_next (below_al HX1.out.2 _) hb2⟩; have hlt2 : w1.heap.size < w2.heap.size := (by have := hb2.size; simp at this; omega); have hcA : w2.cell? ⟨w1.heap.size, 0, none⟩ = some (.int .i64 p) := ((Blk.at w1 (iv [p, q]) _ 30 _ rfl rfl).below hb2 (by simp)).cell rfl; clear hb2)
              | (refine wpList_store_blk rfl 30 (.tmp 2) (.tmp 101) rfl w.heap.size 0 rfl (iv [0, 0]) rfl (HX2.out.1.alloc _) 2 Tryd.sizeSpan rfl (by simp [iv]) (iv_one _) ?_; intro w9 hst9; have HX9 : Hid (Blk w9 w.heap.size (iv [0, 0]) 30 ∧ Below w.heap.size w w9) := Lib.hid ⟨hst9.1, hst9.below (below_al HX2.out.2 _) (by omega)⟩; clear hst9))
            exact ret_span rfl w.heap.size rfl _ rfl HX9.out.1 _ Tryd.underlying30 rfl Tryd.sizeSpan rfl ⟨by rw [HE.out]; rfl, HX9.out.2⟩
          · have HV : Hid (∀ W, Calls Tryd.prog 47 #[.string (tb v)] W fun e w' => e = .returned (.tuple #[.agg #[.int .i64 p2, .int .i64 q2], .int .i64 0]) ∧ Below W.heap.size W w') := Lib.hid fun W => by have := rtext_any v (by first | assumption | omega) W; rw [hvq] at this; exact this
            by_cases hpq : p ≤ q2
            · have HE : Hid (Q = (p, q2, 0)) := Lib.hid (by rw [HS.out, huq, hvq]; unfold btwR eForm; simp [hpq])
              clear huq hvq
              go_wp2_with (first
                | ((with_reducible refine (HU.out _).mono ?_); rintro e w1 ⟨rfl, hb1⟩; have HX1 : Hid (Blk w1 w.heap.size (iv [0, 0]) 30 ∧ Below w.heap.size w w1) := Lib.hid ⟨(Blk.at w (iv [0, 0]) _ 30 _ rfl rfl).below hb1 (by simp), below_next (below_a1 _ _) hb1⟩; clear hb1)
                | ((with_reducible refine (HV.out _).mono ?_); rintro e w2 ⟨rfl, hb2⟩; have HX2 : Hid (Blk w2 w.heap.size (iv [0, 0]) 30 ∧ Below w.heap.size w w2) := Lib.hid ⟨(HX1.out.1.alloc _).below hb2 (by simp; have := HX1.out.1.lt; omega), below_next (below_al HX1.out.2 _) hb2⟩; have hlt2 : w1.heap.size < w2.heap.size := (by have := hb2.size; simp at this; omega); have hcA : w2.cell? ⟨w1.heap.size, 0, none⟩ = some (.int .i64 p) := ((Blk.at w1 (iv [p, q]) _ 30 _ rfl rfl).below hb2 (by simp)).cell rfl; clear hb2)
                | (refine wpList_store_blk rfl 30 (.tmp 2) (.tmp 106) rfl w.heap.size 0 rfl (iv [p, q2]) rfl (HX2.out.1.alloc _) 2 Tryd.sizeSpan rfl (by simp [iv]) (iv_one _) ?_; intro w9 hst9; have HX9 : Hid (Blk w9 w.heap.size (iv [p, q2]) 30 ∧ Below w.heap.size w w9) := Lib.hid ⟨hst9.1, hst9.below (below_al HX2.out.2 _) (by omega)⟩; clear hst9))
              exact ret_span rfl w.heap.size rfl _ rfl HX9.out.1 _ Tryd.underlying30 rfl Tryd.sizeSpan rfl ⟨by rw [HE.out]; rfl, HX9.out.2⟩
            · have HE : Hid (Q = eRange) := Lib.hid (by rw [HS.out, huq, hvq]; unfold btwR eForm eRange; simp [hpq])
              clear huq hvq
              go_wp2_with (first
                | ((with_reducible refine (HU.out _).mono ?_); rintro e w1 ⟨rfl, hb1⟩; have HX1 : Hid (Blk w1 w.heap.size (iv [0, 0]) 30 ∧ Below w.heap.size w w1) := Lib.hid ⟨(Blk.at w (iv [0, 0]) _ 30 _ rfl rfl).below hb1 (by simp), below_next (below_a1 _ _) hb1⟩; clear hb1)
                | ((with_reducible refine (HV.out _).mono ?_); rintro e w2 ⟨rfl, hb2⟩; have HX2 : Hid (Blk w2 w.heap.size (iv [0, 0]) 30 ∧ Below w.heap.size w w2) := Lib.hid ⟨(HX1.out.1.alloc _).below hb2 (by simp; have := HX1.out.1.lt; omega), below_next (below_al HX1.out.2 _) hb2⟩; have hlt2 : w1.heap.size < w2.heap.size := (by have := hb2.size; simp at this; omega); have hcA : w2.cell? ⟨w1.heap.size, 0, none⟩ = some (.int .i64 p) := ((Blk.at w1 (iv [p, q]) _ 30 _ rfl rfl).below hb2 (by simp)).cell rfl; clear hb2)
                | (refine wpList_store_blk rfl 30 (.tmp 2) (.tmp 101) rfl w.heap.size 0 rfl (iv [0, 0]) rfl (HX2.out.1.alloc _) 2 Tryd.sizeSpan rfl (by simp [iv]) (iv_one _) ?_; intro w9 hst9; have HX9 : Hid (Blk w9 w.heap.size (iv [0, 0]) 30 ∧ Below w.heap.size w w9) := Lib.hid ⟨hst9.1, hst9.below (below_al HX2.out.2 _) (by omega)⟩; clear hst9))
              exact ret_span rfl w.heap.size rfl _ rfl HX9.out.1 _ Tryd.underlying30 rfl Tryd.sizeSpan rfl ⟨by rw [HE.out]; rfl, HX9.out.2⟩
      · have hb : ((c.toNat : Int) != 47) = true := bne_iff_ne.2 (fun e => h47 (u8_eq (by have : (47 : UInt8).toNat = 47 := rfl; omega)))
        have HT' : Hid ((47 : UInt8) ∉ l.take (k + 1)) := Lib.hid (by
          rw [List.take_succ_eq_append_getElem hkl, ← hc, List.mem_append]
          rintro (h | h)
          · exact HT.out h
          · simp at h; exact h47 h.symm)
        clear h47 hc
        go_wp2_with fail
        go_roundg g
        case rel => exact ⟨k + 1, by omega, by go_num, HT', rfl⟩
        case measure => omega
    · obtain rfl : k = n := by omega
      have h47 : (47 : UInt8) ∉ l := by have := HT.out; rw [HN.out, List.take_length] at this; exact this
      obtain ⟨⟨a, b, c⟩, hr⟩ : ∃ r, r = rtx l := ⟨_, rfl⟩
      have HE : Hid (Q = (a, b, c)) := Lib.hid (by rw [HQ.out, rps_one H5.out h47, hr])
      have HU : Hid (∀ W, Calls Tryd.prog 47 #[.string (tb l)] W fun e w' => e = .returned (.tuple #[.agg #[.int .i64 a, .int .i64 b], .int .i64 c]) ∧ Below W.heap.size W w') := Lib.hid fun W => by have := rtext_any l HMX.out W; rw [← hr] at this; exact this
      clear h47 hr
      go_wp2_with (first
        | ((with_reducible refine (HU.out _).mono ?_); rintro e w1 ⟨rfl, hb1⟩; have HX1 : Hid (Blk w1 w.heap.size (iv [0, 0]) 30 ∧ Below w.heap.size w w1) := Lib.hid ⟨(Blk.at w (iv [0, 0]) _ 30 _ rfl rfl).below hb1 (by simp), below_next (below_a1 _ _) hb1⟩; clear hb1)
        | (refine wpList_store_blk rfl 30 (.tmp 2) (.tmp 64) rfl w.heap.size 0 rfl (iv [a, b]) rfl HX1.out.1 2 Tryd.sizeSpan rfl (by simp [iv]) (iv_one _) ?_; intro w9 hst9; have HX9 : Hid (Blk w9 w.heap.size (iv [a, b]) 30 ∧ Below w.heap.size w w9) := Lib.hid ⟨hst9.1, hst9.below HX1.out.2 (by omega)⟩; clear hst9))
      exact ret_span rfl w.heap.size rfl _ rfl HX9.out.1 _ Tryd.underlying30 rfl Tryd.sizeSpan rfl ⟨by rw [HE.out]; rfl, HX9.out.2⟩
set_option maxRecDepth 100000 in
set_option maxHeartbeats 16000000 in
theorem rparse_h (l : List UInt8) (h5 : l.length = 5) (hc99 : l.head? ≠ some 99) (Q : R) (hQ : Q = rps l) (w : World) : Calls Tryd.prog 26 #[.string (tb l)] w (TextPost w Q) := by
  obtain ⟨n, hn⟩ : ∃ n : Nat, n = 5 := ⟨_, rfl⟩
  have hsz : (tb l).size = n := by rw [tb_size, hn, h5]
  have HMX : Hid (l.length ≤ maxLen) := Lib.hid (by rw [h5]; unfold maxLen; omega)
  have hm' : n ≤ 9223372036854775807 := by omega
  have hb5 : ((n : Int) == 5) = true := by rw [hn]; rfl
  have hn0 : 0 < n := by omega
  obtain ⟨c0, hc0⟩ : ∃ c0, c0 = l[0] := ⟨_, rfl⟩
  have hg0 : (tb l)[0]'(by rw [hsz]; exact hn0) = c0 := by rw [hc0]; rfl
  have hb0 : ((c0.toNat : Int) == 99) = false := beq_eq_false_iff_ne.2 (fun e => hc99 (by rw [List.head?_eq_getElem?, List.getElem?_eq_getElem (by omega), ← hc0, u8_eq (a := c0) (b := 99) (by have : (99 : UInt8).toNat = 99 := rfl; omega)]))
  have H5 : Hid (¬ (l.length = 5 ∧ l.head? = some 99)) := Lib.hid fun h => hc99 h.2
  have HN : Hid (n = l.length) := Lib.hid (by rw [hn, h5])
  have HQ := Lib.hid hQ
  clear h5 hn hQ hc0 hc99
  go_enter Tryd.func26, Tryd.ntmps26
  go_wp2_with fail
  go_loopg [6] n (fun g s6 wr => ∃ k : Nat, k + g = n ∧ s6 = .int .i64 (k : Int) ∧ Hid ((47 : UInt8) ∉ l.take k) ∧ wr = w.alloc (.cells #[.int .i64 0, .int .i64 0] 30))
  case atStart => exact ⟨0, by omega, rfl, Lib.hid (by simp), rfl⟩
  case round =>
    obtain ⟨k, hk, rfl, HT, rfl⟩ := hrel
    by_cases hlt : k < n
    · obtain ⟨g, rfl⟩ : ∃ g, gk = g + 1 := ⟨gk - 1, by omega⟩
      have hkl : k < l.length := by rw [← HN.out]; exact hlt
      obtain ⟨c, hc⟩ : ∃ c, c = l[k] := ⟨_, rfl⟩
      have hg : (tb l)[k]'(by rw [tb_size]; exact hkl) = c := by rw [hc]; rfl
      by_cases h47 : c = 47
      · have hb : ((c.toNat : Int) != 47) = false := by rw [h47]; rfl
        obtain ⟨u, hu⟩ : ∃ u, u = l.take k := ⟨_, rfl⟩
        obtain ⟨v, hv⟩ : ∃ v, v = l.drop (k + 1) := ⟨_, rfl⟩
        have hl : l = u ++ 47 :: v := by rw [hu, hv, ← h47, hc, ← List.drop_eq_getElem_cons hkl, List.take_append_drop]
        have hum : u.length ≤ maxLen := by rw [hu, List.length_take]; have := HMX.out; omega
        have hvm : v.length ≤ maxLen := by rw [hv, List.length_drop]; have := HMX.out; omega
        have hx1 : (tb l).extract 0 k = tb u := by rw [tb_sub, List.drop_zero, hu]; rfl
        have hx2 : (tb l).extract (k + 1) n = tb v := by rw [tb_sub, hv, HN.out, List.take_of_length_le (by simp)]
        have HS : Hid (Q = if (rtx u).2.2 = 2 ∨ (rtx v).2.2 = 2 then eForm else btwR (rtx u) (rtx v)) := Lib.hid (by rw [HQ.out]; exact rps_two H5.out hl (by rw [hu]; exact HT.out))
        have hkn : ((k : Int) == (n : Int)) = false := beq_eq_false_iff_ne.2 (by omega)
        clear hu hv hl h47 hc
        rcases rtx_cases u with huq | huq | ⟨p, q, huq⟩
        · have HU : Hid (∀ W, Calls Tryd.prog 47 #[.string (tb u)] W fun e w' => e = .returned (.tuple #[.agg #[.int .i64 0, .int .i64 0], .int .i64 2]) ∧ Below W.heap.size W w') := Lib.hid fun W => by have := rtext_any u (by first | assumption | omega) W; rw [huq] at this; exact this
          rcases rtx_cases v with hvq | hvq | ⟨p2, q2, hvq⟩
          · have HV : Hid (∀ W, Calls Tryd.prog 47 #[.string (tb v)] W fun e w' => e = .returned (.tuple #[.agg #[.int .i64 0, .int .i64 0], .int .i64 2]) ∧ Below W.heap.size W w') := Lib.hid fun W => by have := rtext_any v (by first | assumption | omega) W; rw [hvq] at this; exact this
            have HE : Hid (Q = eForm) := Lib.hid (by rw [HS.out, huq, hvq]; rfl)
            clear huq hvq
            go_wp2_with (first
              | ((with_reducible refine (HU.out _).mono ?_); rintro e w1 ⟨rfl, hb1⟩; have HX1 : Hid (Blk w1 w.heap.size (iv [0, 0]) 30 ∧ Below w.heap.size w w1) := Lib.hid ⟨(Blk.at w (iv [0, 0]) _ 30 _ rfl rfl).below hb1 (by simp), below_next (below_a1 _ _) hb1⟩; clear hb1)
              | ((with_reducible refine (HV.out _).mono ?_); rintro e w2 ⟨rfl, hb2⟩; have HX2 : Hid (Blk w2 w.heap.size (iv [0, 0]) 30 ∧ Below w.heap.size w w2) := Lib.hid ⟨(HX1.out.1.alloc _).below hb2 (by simp; have := HX1.out.1.lt; omega), below_next (below_al HX1.out.2 _) hb2⟩; have hlt2 : w1.heap.size < w2.heap.size := (by have := hb2.size; simp at this; omega); have hcA : w2.cell? ⟨w1.heap.size, 0, none⟩ = some (.int .i64 0) := ((Blk.at w1 (iv [0, 0]) _ 30 _ rfl rfl).below hb2 (by simp)).cell rfl; clear hb2)
              | (refine wpList_store_blk rfl 30 (.tmp 2) (.tmp 87) rfl w.heap.size 0 rfl (iv [0, 0]) rfl (HX2.out.1.alloc _) 2 Tryd.sizeSpan rfl (by simp [iv]) (iv_one _) ?_; intro w9 hst9; have HX9 : Hid (Blk w9 w.heap.size (iv [0, 0]) 30 ∧ Below w.heap.size w w9) := Lib.hid ⟨hst9.1, hst9.below (below_al HX2.out.2 _) (by omega)⟩; clear hst9))
            exact ret_span rfl w.heap.size rfl _ rfl HX9.out.1 _ Tryd.underlying30 rfl Tryd.sizeSpan rfl ⟨by rw [HE.out]; rfl, HX9.out.2⟩
          · have HV : Hid (∀ W, Calls Tryd.prog 47 #[.string (tb v)] W fun e w' => e = .returned (.tuple #[.agg #[.int .i64 0, .int .i64 0], .int .i64 5]) ∧ Below W.heap.size W w') := Lib.hid fun W => by have := rtext_any v (by first | assumption | omega) W; rw [hvq] at this; exact this
            have HE : Hid (Q = eForm) := Lib.hid (by rw [HS.out, huq, hvq]; rfl)
            clear huq hvq
            go_wp2_with (first
              | ((with_reducible refine (HU.out _).mono ?_); rintro e w1 ⟨rfl, hb1⟩; have HX1 : Hid (Blk w1 w.heap.size (iv [0, 0]) 30 ∧ Below w.heap.size w w1) := Lib.hid ⟨(Blk.at w (iv [0, 0]) _ 30 _ rfl rfl).below hb1 (by simp), below_next (below_a1 _ _) hb1⟩; clear hb1)
              | ((with_reducible refine (HV.out _).mono ?_); rintro e w2 ⟨rfl, hb2⟩; have HX2 : Hid (Blk w2 w.heap.size (iv [0, 0]) 30 ∧ Below w.heap.size w w2) := Lib.hid ⟨(HX1.out.1.alloc _).below hb2 (by simp; have := HX1.out.1.lt; omega), below_next (below_al HX1.out.2 _) hb2⟩; have hlt2 : w1.heap.size < w2.heap.size := (by have := hb2.size; simp at this; omega); have hcA : w2.cell? ⟨w1.heap.size, 0, none⟩ = some (.int .i64 0) := ((Blk.at w1 (iv [0, 0]) _ 30 _ rfl rfl).below hb2 (by simp)).cell rfl; clear hb2)
              | (refine wpList_store_blk rfl 30 (.tmp 2) (.tmp 87) rfl w.heap.size 0 rfl (iv [0, 0]) rfl (HX2.out.1.alloc _) 2 Tryd.sizeSpan rfl (by simp [iv]) (iv_one _) ?_; intro w9 hst9; have HX9 : Hid (Blk w9 w.heap.size (iv [0, 0]) 30 ∧ Below w.heap.size w w9) := Lib.hid ⟨hst9.1, hst9.below (below_al HX2.out.2 _) (by omega)⟩; clear hst9))
            exact ret_span rfl w.heap.size rfl _ rfl HX9.out.1 _ Tryd.underlying30 rfl Tryd.sizeSpan rfl ⟨by rw [HE.out]; rfl, HX9.out.2⟩
          · have HV : Hid (∀ W, Calls Tryd.prog 47 #[.string (tb v)] W fun e w' => e = .returned (.tuple #[.agg #[.int .i64 p2, .int .i64 q2], .int .i64 0]) ∧ Below W.heap.size W w') := Lib.hid fun W => by have := rtext_any v (by first | assumption | omega) W; rw [hvq] at this; exact this
            have HE : Hid (Q = eForm) := Lib.hid (by rw [HS.out, huq, hvq]; rfl)
            clear huq hvq
            go_wp2_with (first
              | ((with_reducible refine (HU.out _).mono ?_); rintro e w1 ⟨rfl, hb1⟩; have HX1 : Hid (Blk w1 w.heap.size (iv [0, 0]) 30 ∧ Below w.heap.size w w1) := Lib.hid ⟨(Blk.at w (iv [0, 0]) _ 30 _ rfl rfl).below hb1 (by simp), below_next (below_a1 _ _) hb1⟩; clear hb1)
              | ((with_reducible refine (HV.out _).mono ?_); rintro e w2 ⟨rfl, hb2⟩; have HX2 : Hid (Blk w2 w.heap.size (iv [0, 0]) 30 ∧ Below w.heap.size w w2) := Lib.hid ⟨(HX1.out.1.alloc _).below hb2 (by simp; have := HX1.out.1.lt; omega), below_next (below_al HX1.out.2 _) hb2⟩; have hlt2 : w1.heap.size < w2.heap.size := (by have := hb2.size; simp at this; omega); have hcA : w2.cell? ⟨w1.heap.size, 0, none⟩ = some (.int .i64 0) := ((Blk.at w1 (iv [0, 0]) _ 30 _ rfl rfl).below hb2 (by simp)).cell rfl; clear hb2)
              | (refine wpList_store_blk rfl 30 (.tmp 2) (.tmp 87) rfl w.heap.size 0 rfl (iv [0, 0]) rfl (HX2.out.1.alloc _) 2 Tryd.sizeSpan rfl (by simp [iv]) (iv_one _) ?_; intro w9 hst9; have HX9 : Hid (Blk w9 w.heap.size (iv [0, 0]) 30 ∧ Below w.heap.size w w9) := Lib.hid ⟨hst9.1, hst9.below (below_al HX2.out.2 _) (by omega)⟩; clear hst9))
            exact ret_span rfl w.heap.size rfl _ rfl HX9.out.1 _ Tryd.underlying30 rfl Tryd.sizeSpan rfl ⟨by rw [HE.out]; rfl, HX9.out.2⟩
        · have HU : Hid (∀ W, Calls Tryd.prog 47 #[.string (tb u)] W fun e w' => e = .returned (.tuple #[.agg #[.int .i64 0, .int .i64 0], .int .i64 5]) ∧ Below W.heap.size W w') := Lib.hid fun W => by have := rtext_any u (by first | assumption | omega) W; rw [huq] at this; exact this
          rcases rtx_cases v with hvq | hvq | ⟨p2, q2, hvq⟩
          · have HV : Hid (∀ W, Calls Tryd.prog 47 #[.string (tb v)] W fun e w' => e = .returned (.tuple #[.agg #[.int .i64 0, .int .i64 0], .int .i64 2]) ∧ Below W.heap.size W w') := Lib.hid fun W => by have := rtext_any v (by first | assumption | omega) W; rw [hvq] at this; exact this
            have HE : Hid (Q = eForm) := Lib.hid (by rw [HS.out, huq, hvq]; rfl)
            clear huq hvq
            go_wp2_with (first
              | ((with_reducible refine (HU.out _).mono ?_); rintro e w1 ⟨rfl, hb1⟩; have HX1 : Hid (Blk w1 w.heap.size (iv [0, 0]) 30 ∧ Below w.heap.size w w1) := Lib.hid ⟨(Blk.at w (iv [0, 0]) _ 30 _ rfl rfl).below hb1 (by simp), below_next (below_a1 _ _) hb1⟩; clear hb1)
              | ((with_reducible refine (HV.out _).mono ?_); rintro e w2 ⟨rfl, hb2⟩; have HX2 : Hid (Blk w2 w.heap.size (iv [0, 0]) 30 ∧ Below w.heap.size w w2) := Lib.hid ⟨(HX1.out.1.alloc _).below hb2 (by simp; have := HX1.out.1.lt; omega), below_next (below_al HX1.out.2 _) hb2⟩; have hlt2 : w1.heap.size < w2.heap.size := (by have := hb2.size; simp at this; omega); have hcA : w2.cell? ⟨w1.heap.size, 0, none⟩ = some (.int .i64 0) := ((Blk.at w1 (iv [0, 0]) _ 30 _ rfl rfl).below hb2 (by simp)).cell rfl; clear hb2)
              | (refine wpList_store_blk rfl 30 (.tmp 2) (.tmp 87) rfl w.heap.size 0 rfl (iv [0, 0]) rfl (HX2.out.1.alloc _) 2 Tryd.sizeSpan rfl (by simp [iv]) (iv_one _) ?_; intro w9 hst9; have HX9 : Hid (Blk w9 w.heap.size (iv [0, 0]) 30 ∧ Below w.heap.size w w9) := Lib.hid ⟨hst9.1, hst9.below (below_al HX2.out.2 _) (by omega)⟩; clear hst9))
            exact ret_span rfl w.heap.size rfl _ rfl HX9.out.1 _ Tryd.underlying30 rfl Tryd.sizeSpan rfl ⟨by rw [HE.out]; rfl, HX9.out.2⟩
          · have HV : Hid (∀ W, Calls Tryd.prog 47 #[.string (tb v)] W fun e w' => e = .returned (.tuple #[.agg #[.int .i64 0, .int .i64 0], .int .i64 5]) ∧ Below W.heap.size W w') := Lib.hid fun W => by have := rtext_any v (by first | assumption | omega) W; rw [hvq] at this; exact this
            have HE : Hid (Q = eRange) := Lib.hid (by rw [HS.out, huq, hvq]; unfold btwR eRange eForm; simp)
            clear huq hvq
            go_wp2_with (first
              | ((with_reducible refine (HU.out _).mono ?_); rintro e w1 ⟨rfl, hb1⟩; have HX1 : Hid (Blk w1 w.heap.size (iv [0, 0]) 30 ∧ Below w.heap.size w w1) := Lib.hid ⟨(Blk.at w (iv [0, 0]) _ 30 _ rfl rfl).below hb1 (by simp), below_next (below_a1 _ _) hb1⟩; clear hb1)
              | ((with_reducible refine (HV.out _).mono ?_); rintro e w2 ⟨rfl, hb2⟩; have HX2 : Hid (Blk w2 w.heap.size (iv [0, 0]) 30 ∧ Below w.heap.size w w2) := Lib.hid ⟨(HX1.out.1.alloc _).below hb2 (by simp; have := HX1.out.1.lt; omega), below_next (below_al HX1.out.2 _) hb2⟩; have hlt2 : w1.heap.size < w2.heap.size := (by have := hb2.size; simp at this; omega); have hcA : w2.cell? ⟨w1.heap.size, 0, none⟩ = some (.int .i64 0) := ((Blk.at w1 (iv [0, 0]) _ 30 _ rfl rfl).below hb2 (by simp)).cell rfl; clear hb2)
              | (refine wpList_store_blk rfl 30 (.tmp 2) (.tmp 101) rfl w.heap.size 0 rfl (iv [0, 0]) rfl (HX2.out.1.alloc _) 2 Tryd.sizeSpan rfl (by simp [iv]) (iv_one _) ?_; intro w9 hst9; have HX9 : Hid (Blk w9 w.heap.size (iv [0, 0]) 30 ∧ Below w.heap.size w w9) := Lib.hid ⟨hst9.1, hst9.below (below_al HX2.out.2 _) (by omega)⟩; clear hst9))
            exact ret_span rfl w.heap.size rfl _ rfl HX9.out.1 _ Tryd.underlying30 rfl Tryd.sizeSpan rfl ⟨by rw [HE.out]; rfl, HX9.out.2⟩
          · have HV : Hid (∀ W, Calls Tryd.prog 47 #[.string (tb v)] W fun e w' => e = .returned (.tuple #[.agg #[.int .i64 p2, .int .i64 q2], .int .i64 0]) ∧ Below W.heap.size W w') := Lib.hid fun W => by have := rtext_any v (by first | assumption | omega) W; rw [hvq] at this; exact this
            have HE : Hid (Q = eRange) := Lib.hid (by rw [HS.out, huq, hvq]; unfold btwR eRange eForm; simp)
            clear huq hvq
            go_wp2_with (first
              | ((with_reducible refine (HU.out _).mono ?_); rintro e w1 ⟨rfl, hb1⟩; have HX1 : Hid (Blk w1 w.heap.size (iv [0, 0]) 30 ∧ Below w.heap.size w w1) := Lib.hid ⟨(Blk.at w (iv [0, 0]) _ 30 _ rfl rfl).below hb1 (by simp), below_next (below_a1 _ _) hb1⟩; clear hb1)
              | ((with_reducible refine (HV.out _).mono ?_); rintro e w2 ⟨rfl, hb2⟩; have HX2 : Hid (Blk w2 w.heap.size (iv [0, 0]) 30 ∧ Below w.heap.size w w2) := Lib.hid ⟨(HX1.out.1.alloc _).below hb2 (by simp; have := HX1.out.1.lt; omega), below_next (below_al HX1.out.2 _) hb2⟩; have hlt2 : w1.heap.size < w2.heap.size := (by have := hb2.size; simp at this; omega); have hcA : w2.cell? ⟨w1.heap.size, 0, none⟩ = some (.int .i64 0) := ((Blk.at w1 (iv [0, 0]) _ 30 _ rfl rfl).below hb2 (by simp)).cell rfl; clear hb2)
              | (refine wpList_store_blk rfl 30 (.tmp 2) (.tmp 101) rfl w.heap.size 0 rfl (iv [0, 0]) rfl (HX2.out.1.alloc _) 2 Tryd.sizeSpan rfl (by simp [iv]) (iv_one _) ?_; intro w9 hst9; have HX9 : Hid (Blk w9 w.heap.size (iv [0, 0]) 30 ∧ Below w.heap.size w w9) := Lib.hid ⟨hst9.1, hst9.below (below_al HX2.out.2 _) (by omega)⟩; clear hst9))
            exact ret_span rfl w.heap.size rfl _ rfl HX9.out.1 _ Tryd.underlying30 rfl Tryd.sizeSpan rfl ⟨by rw [HE.out]; rfl, HX9.out.2⟩
        · have HU : Hid (∀ W, Calls Tryd.prog 47 #[.string (tb u)] W fun e w' => e = .returned (.tuple #[.agg #[.int .i64 p, .int .i64 q], .int .i64 0]) ∧ Below W.heap.size W w') := Lib.hid fun W => by have := rtext_any u (by first | assumption | omega) W; rw [huq] at this; exact this
          rcases rtx_cases v with hvq | hvq | ⟨p2, q2, hvq⟩
          · have HV : Hid (∀ W, Calls Tryd.prog 47 #[.string (tb v)] W fun e w' => e = .returned (.tuple #[.agg #[.int .i64 0, .int .i64 0], .int .i64 2]) ∧ Below W.heap.size W w') := Lib.hid fun W => by have := rtext_any v (by first | assumption | omega) W; rw [hvq] at this; exact this
            have HE : Hid (Q = eForm) := Lib.hid (by rw [HS.out, huq, hvq]; rfl)
            clear huq hvq
            go_wp2_with (first
              | ((with_reducible refine (HU.out _).mono ?_); rintro e w1 ⟨rfl, hb1⟩; have HX1 : Hid (Blk w1 w.heap.size (iv [0, 0]) 30 ∧ Below w.heap.size w w1) := Lib.hid ⟨(Blk.at w (iv [0, 0]) _ 30 _ rfl rfl).below hb1 (by simp), below_next (below_a1 _ _) hb1⟩; clear hb1)
              | ((with_reducible refine (HV.out _).mono ?_); rintro e w2 ⟨rfl, hb2⟩; have HX2 : Hid (Blk w2 w.heap.size (iv [0, 0]) 30 ∧ Below w.heap.size w w2) := Lib.hid ⟨(HX1.out.1.alloc _).below hb2 (by simp; have := HX1.out.1.lt; omega), below_next (below_al HX1.out.2 _) hb2⟩; have hlt2 : w1.heap.size < w2.heap.size := (by have := hb2.size; simp at this; omega); have hcA : w2.cell? ⟨w1.heap.size, 0, none⟩ = some (.int .i64 p) := ((Blk.at w1 (iv [p, q]) _ 30 _ rfl rfl).below hb2 (by simp)).cell rfl; clear hb2)
              | (refine wpList_store_blk rfl 30 (.tmp 2) (.tmp 87) rfl w.heap.size 0 rfl (iv [0, 0]) rfl (HX2.out.1.alloc _) 2 Tryd.sizeSpan rfl (by simp [iv]) (iv_one _) ?_; intro w9 hst9; have HX9 : Hid (Blk w9 w.heap.size (iv [0, 0]) 30 ∧ Below w.heap.size w w9) := Lib.hid ⟨hst9.1, hst9.below (below_al HX2.out.2 _) (by omega)⟩; clear hst9))
            exact ret_span rfl w.heap.size rfl _ rfl HX9.out.1 _ Tryd.underlying30 rfl Tryd.sizeSpan rfl ⟨by rw [HE.out]; rfl, HX9.out.2⟩
          · have HV : Hid (∀ W, Calls Tryd.prog 47 #[.string (tb v)] W fun e w' => e = .returned (.tuple #[.agg #[.int .i64 0, .int .i64 0], .int .i64 5]) ∧ Below W.heap.size W w') := Lib.hid fun W => by have := rtext_any v (by first | assumption | omega) W; rw [hvq] at this; exact this
            have HE : Hid (Q = eRange) := Lib.hid (by rw [HS.out, huq, hvq]; unfold btwR eRange eForm; simp)
            clear huq hvq
            go_wp2_with (first
              | ((with_reducible refine (HU.out _).mono ?_); rintro e w1 ⟨rfl, hb1⟩; have HX1 : Hid (Blk w1 w.heap.size (iv [0, 0]) 30 ∧ Below w.heap.size w w1) := Lib.hid ⟨(Blk.at w (iv [0, 0]) _ 30 _ rfl rfl).below hb1 (by simp), below_next (below_a1 _ _) hb1⟩; clear hb1)
              | ((with_reducible refine (HV.out _).mono ?_); rintro e w2 ⟨rfl, hb2⟩; have HX2 : Hid (Blk w2 w.heap.size (iv [0, 0]) 30 ∧ Below w.heap.size w w2) := Lib.hid ⟨(HX1.out.1.alloc _).below hb2 (by simp; have := HX1.out.1.lt; omega), below_next (below_al HX1.out.2 _) hb2⟩; have hlt2 : w1.heap.size < w2.heap.size := (by have := hb2.size; simp at this; omega); have hcA : w2.cell? ⟨w1.heap.size, 0, none⟩ = some (.int .i64 p) := ((Blk.at w1 (iv [p, q]) _ 30 _ rfl rfl).below hb2 (by simp)).cell rfl; clear hb2)
              | (refine wpList_store_blk rfl 30 (.tmp 2) (.tmp 101) rfl w.heap.size 0 rfl (iv [0, 0]) rfl (HX2.out.1.alloc _) 2 Tryd.sizeSpan rfl (by simp [iv]) (iv_one _) ?_; intro w9 hst9; have HX9 : Hid (Blk w9 w.heap.size (iv [0, 0]) 30 ∧ Below w.heap.size w w9) := Lib.hid ⟨hst9.1, hst9.below (below_al HX2.out.2 _) (by omega)⟩; clear hst9))
            exact ret_span rfl w.heap.size rfl _ rfl HX9.out.1 _ Tryd.underlying30 rfl Tryd.sizeSpan rfl ⟨by rw [HE.out]; rfl, HX9.out.2⟩
          · have HV : Hid (∀ W, Calls Tryd.prog 47 #[.string (tb v)] W fun e w' => e = .returned (.tuple #[.agg #[.int .i64 p2, .int .i64 q2], .int .i64 0]) ∧ Below W.heap.size W w') := Lib.hid fun W => by have := rtext_any v (by first | assumption | omega) W; rw [hvq] at this; exact this
            by_cases hpq : p ≤ q2
            · have HE : Hid (Q = (p, q2, 0)) := Lib.hid (by rw [HS.out, huq, hvq]; unfold btwR eForm; simp [hpq])
              clear huq hvq
              go_wp2_with (first
                | ((with_reducible refine (HU.out _).mono ?_); rintro e w1 ⟨rfl, hb1⟩; have HX1 : Hid (Blk w1 w.heap.size (iv [0, 0]) 30 ∧ Below w.heap.size w w1) := Lib.hid ⟨(Blk.at w (iv [0, 0]) _ 30 _ rfl rfl).below hb1 (by simp), below_next (below_a1 _ _) hb1⟩; clear hb1)
                | ((with_reducible refine (HV.out _).mono ?_); rintro e w2 ⟨rfl, hb2⟩; have HX2 : Hid (Blk w2 w.heap.size (iv [0, 0]) 30 ∧ Below w.heap.size w w2) := Lib.hid ⟨(HX1.out.1.alloc _).below hb2 (by simp; have := HX1.out.1.lt; omega), below_next (below_al HX1.out.2 _) hb2⟩; have hlt2 : w1.heap.size < w2.heap.size := (by have := hb2.size; simp at this; omega); have hcA : w2.cell? ⟨w1.heap.size, 0, none⟩ = some (.int .i64 p) := ((Blk.at w1 (iv [p, q]) _ 30 _ rfl rfl).below hb2 (by simp)).cell rfl; clear hb2)
                | (refine wpList_store_blk rfl 30 (.tmp 2) (.tmp 106) rfl w.heap.size 0 rfl (iv [p, q2]) rfl (HX2.out.1.alloc _) 2 Tryd.sizeSpan rfl (by simp [iv]) (iv_one _) ?_; intro w9 hst9; have HX9 : Hid (Blk w9 w.heap.size (iv [p, q2]) 30 ∧ Below w.heap.size w w9) := Lib.hid ⟨hst9.1, hst9.below (below_al HX2.out.2 _) (by omega)⟩; clear hst9))
              exact ret_span rfl w.heap.size rfl _ rfl HX9.out.1 _ Tryd.underlying30 rfl Tryd.sizeSpan rfl ⟨by rw [HE.out]; rfl, HX9.out.2⟩
            · have HE : Hid (Q = eRange) := Lib.hid (by rw [HS.out, huq, hvq]; unfold btwR eForm eRange; simp [hpq])
              clear huq hvq
              go_wp2_with (first
                | ((with_reducible refine (HU.out _).mono ?_); rintro e w1 ⟨rfl, hb1⟩; have HX1 : Hid (Blk w1 w.heap.size (iv [0, 0]) 30 ∧ Below w.heap.size w w1) := Lib.hid ⟨(Blk.at w (iv [0, 0]) _ 30 _ rfl rfl).below hb1 (by simp), below_next (below_a1 _ _) hb1⟩; clear hb1)
                | ((with_reducible refine (HV.out _).mono ?_); rintro e w2 ⟨rfl, hb2⟩; have HX2 : Hid (Blk w2 w.heap.size (iv [0, 0]) 30 ∧ Below w.heap.size w w2) := Lib.hid ⟨(HX1.out.1.alloc _).below hb2 (by simp; have := HX1.out.1.lt; omega), below_next (below_al HX1.out.2 _) hb2⟩; have hlt2 : w1.heap.size < w2.heap.size := (by have := hb2.size; simp at this; omega); have hcA : w2.cell? ⟨w1.heap.size, 0, none⟩ = some (.int .i64 p) := ((Blk.at w1 (iv [p, q]) _ 30 _ rfl rfl).below hb2 (by simp)).cell rfl; clear hb2)
                | (refine wpList_store_blk rfl 30 (.tmp 2) (.tmp 101) rfl w.heap.size 0 rfl (iv [0, 0]) rfl (HX2.out.1.alloc _) 2 Tryd.sizeSpan rfl (by simp [iv]) (iv_one _) ?_; intro w9 hst9; have HX9 : Hid (Blk w9 w.heap.size (iv [0, 0]) 30 ∧ Below w.heap.size w w9) := Lib.hid ⟨hst9.1, hst9.below (below_al HX2.out.2 _) (by omega)⟩; clear hst9))
              exact ret_span rfl w.heap.size rfl _ rfl HX9.out.1 _ Tryd.underlying30 rfl Tryd.sizeSpan rfl ⟨by rw [HE.out]; rfl, HX9.out.2⟩
      · have hb : ((c.toNat : Int) != 47) = true := bne_iff_ne.2 (fun e => h47 (u8_eq (by have : (47 : UInt8).toNat = 47 := rfl; omega)))
        have HT' : Hid ((47 : UInt8) ∉ l.take (k + 1)) := Lib.hid (by
          rw [List.take_succ_eq_append_getElem hkl, ← hc, List.mem_append]
          rintro (h | h)
          · exact HT.out h
          · simp at h; exact h47 h.symm)
        clear h47 hc
        go_wp2_with fail
        go_roundg g
        case rel => exact ⟨k + 1, by omega, by go_num, HT', rfl⟩
        case measure => omega
    · obtain rfl : k = n := by omega
      have h47 : (47 : UInt8) ∉ l := by have := HT.out; rw [HN.out, List.take_length] at this; exact this
      obtain ⟨⟨a, b, c⟩, hr⟩ : ∃ r, r = rtx l := ⟨_, rfl⟩
      have HE : Hid (Q = (a, b, c)) := Lib.hid (by rw [HQ.out, rps_one H5.out h47, hr])
      have HU : Hid (∀ W, Calls Tryd.prog 47 #[.string (tb l)] W fun e w' => e = .returned (.tuple #[.agg #[.int .i64 a, .int .i64 b], .int .i64 c]) ∧ Below W.heap.size W w') := Lib.hid fun W => by have := rtext_any l HMX.out W; rw [← hr] at this; exact this
      clear h47 hr
      go_wp2_with (first
        | ((with_reducible refine (HU.out _).mono ?_); rintro e w1 ⟨rfl, hb1⟩; have HX1 : Hid (Blk w1 w.heap.size (iv [0, 0]) 30 ∧ Below w.heap.size w w1) := Lib.hid ⟨(Blk.at w (iv [0, 0]) _ 30 _ rfl rfl).below hb1 (by simp), below_next (below_a1 _ _) hb1⟩; clear hb1)
        | (refine wpList_store_blk rfl 30 (.tmp 2) (.tmp 64) rfl w.heap.size 0 rfl (iv [a, b]) rfl HX1.out.1 2 Tryd.sizeSpan rfl (by simp [iv]) (iv_one _) ?_; intro w9 hst9; have HX9 : Hid (Blk w9 w.heap.size (iv [a, b]) 30 ∧ Below w.heap.size w w9) := Lib.hid ⟨hst9.1, hst9.below HX1.out.2 (by omega)⟩; clear hst9))
      exact ret_span rfl w.heap.size rfl _ rfl HX9.out.1 _ Tryd.underlying30 rfl Tryd.sizeSpan rfl ⟨by rw [HE.out]; rfl, HX9.out.2⟩
theorem rparse_any (l : List UInt8) (hm : l.length ≤ maxLen) (w : World) : Calls Tryd.prog 26 #[.string (tb l)] w fun e w' => e = retR (pars l) ∧ Below w.heap.size w w' := by
  rw [← rps_eq]
  by_cases h5 : l.length = 5
  · by_cases hc : l.head? = some 99
    · obtain ⟨t, rfl⟩ : ∃ t, l = 99 :: t := by cases l <;> simp at hc; subst hc; exact ⟨_, rfl⟩
      exact rparse_c t (by simpa using h5) _ rfl w
    · exact rparse_h l h5 hc _ rfl w
  · exact rparse_l l hm h5 _ rfl w
end Go.Proofs.YtkaaejfochdjcaaDoor
