/-
  The reference's Print: the shortest of the texts that are read as the span.
-/
import Derived.Test.YtkaaejfochdjcaaDoorCRTexts
import Derived.Test.YtkaaejfochdjcaaDoorCRSpan
import Derived.Test.YtkaaejfochdjcaaDoorCRParse
import Derived.Test.YtkaaejfochdjcaaDoorCShort
namespace Go.Proofs.YtkaaejfochdjcaaDoor
open Go.RowKit
open Cal
set_option linter.unusedVariables false
set_option linter.unusedSimpArgs false

theorem cyr_len (k : Nat) (y : Int) : (cyr k y).length = k := by
  induction k generalizing y with
  | zero => rfl
  | succ k ih => simp [cyr, ih]
theorem cyr_short (k : Nat) (y : Int) : ∀ x ∈ cyr k y, x.length ≤ 21 := by
  induction k generalizing y with
  | zero => simp [cyr]
  | succ k ih =>
    intro x hx
    simp only [cyr, List.mem_cons] at hx
    rcases hx with rfl | hx
    · simp [pad4]
    · exact ih _ x hx
theorem dtx_len (n : Int) : (dtx n).length = 3 := rfl
theorem dtx_short (n : Int) : ∀ x ∈ dtx n, x.length ≤ 10 := fun x hx => by
  simp only [dtx, List.mem_cons, List.not_mem_nil, or_false] at hx
  rcases hx with rfl | rfl | rfl <;> simp [pad4, pad2]
theorem tx_short (a b : Int) : ∀ x ∈ tx a b, x.length ≤ 21 := fun x hx => by
  simp only [tx, List.mem_append, List.mem_flatMap, List.mem_map] at hx
  rcases hx with (hx | hx) | ⟨u, hu, v, hv, rfl⟩
  · have := dtx_short a x hx; omega
  · exact cyr_short _ _ x hx
  · have := dtx_short a u hu
    have := dtx_short b v hv
    simp; omega
theorem rtexts_any (a b : Int) (a1 : 1 ≤ a) (a2 : a ≤ 1022679) (b1 : 1 ≤ b) (b2 : b ≤ 1022679) : ∃ n, n = (tx a b).length ∧ 3 ≤ n ∧ n ≤ 18 ∧ ∀ w, Calls Tryd.prog 54 #[.agg #[.int .i64 a, .int .i64 b]] w (TxPost w (tx a b) n) := by
  have hx := (date_ex a1 a2).1
  have hy1 := hx.1
  have hy2 := hx.2.1
  obtain ⟨K, hK⟩ : ∃ K, K = (min 2800 (yOf a + 5) - yOf a + 1).toNat := ⟨_, rfl⟩
  have hn : (tx a b).length = 3 + (K + 9) := by
    rw [tx, ← hK]
    simp [cyr_len, dtx_len, dtx]
    omega
  refine ⟨3 + (K + 9), hn.symm, by omega, by omega, fun w => ?_⟩
  exact rtexts_aux a b (yOf a) (mOf a) (dOf a) (dtx a) (dtx b) (tx a b) _ rfl rfl (dtx_short a) (dtx_short b) hy1 hy2 K (by omega) (by rw [tx, hK, List.append_assoc]) rfl w
    (Lib.hid fun W => rdates_any a a1 a2 W) (Lib.hid fun W => rdates_any b b1 b2 W) (Lib.hid fun W => rdate_yes a a1 a2 W)
theorem pick_nil (a b : Int) (B : List UInt8) : pick a b B [] = B := rfl
theorem pick_yes (a b : Int) (B t : List UInt8) (l : List (List UInt8)) (h : pars t = (a, b, 0) ∧ (B = [] ∨ t.length < B.length)) : pick a b B (t :: l) = pick a b t l := by rw [pick, if_pos h]
theorem pick_no (a b : Int) (B t : List UInt8) (l : List (List UInt8)) (h : ¬ (pars t = (a, b, 0) ∧ (B = [] ∨ t.length < B.length))) : pick a b B (t :: l) = pick a b B l := by rw [pick, if_neg h]
set_option maxRecDepth 100000 in
set_option maxHeartbeats 2000000 in
theorem rprint_no (a b : Int) (h : vaB a b = false) (w : World) : Calls Tryd.prog 29 #[.agg #[.int .i64 a, .int .i64 b]] w fun e w' => e = .returned (.string (tb [])) ∧ Below w.heap.size w w' := by
  have HV : Hid (∀ W, Calls Tryd.prog 22 #[.agg #[.int .i64 a, .int .i64 b]] W fun e w' => e = .returned (.bool false) ∧ Below W.heap.size W w') := Lib.hid fun W => rvalid_no a b h W
  clear h
  go_enter Tryd.func29, Tryd.ntmps29
  go_wp2_with ((with_reducible refine (HV.out _).mono ?_); rintro e w1 ⟨rfl, hb1⟩; have HX1 : Hid (Below w.heap.size w w1) := Lib.hid (below_next (below_a1 _ _) hb1); clear hb1)
  go_ret
  exact ⟨rfl, HX1.out⟩
set_option maxRecDepth 100000 in
set_option maxHeartbeats 8000000 in
theorem rprint_aux (a b : Int) (TX : List (List UInt8)) (n : Nat) (hn : n = TX.length) (n3 : 3 ≤ n) (n18 : n ≤ 18) (hsh : ∀ x ∈ TX, x.length ≤ 21) (R : List UInt8) (hR : R = pick a b [] TX) (w : World)
    (HV : Hid (∀ W, Calls Tryd.prog 22 #[.agg #[.int .i64 a, .int .i64 b]] W fun e w' => e = .returned (.bool true) ∧ Below W.heap.size W w'))
    (HTX : Hid (∀ W, Calls Tryd.prog 54 #[.agg #[.int .i64 a, .int .i64 b]] W (TxPost W TX n))) :
    Calls Tryd.prog 29 #[.agg #[.int .i64 a, .int .i64 b]] w fun e w' => e = .returned (.string (tb R)) ∧ Below w.heap.size w w' := by
  have hne : tv TX ≠ [] := fun e => by
    have h0 : TX.length = 0 := by rw [← tv_len, e]; rfl
    omega
  have HNE := Lib.hid hne
  clear hne
  have HN := Lib.hid hn
  have HS := Lib.hid hsh
  have HR := Lib.hid hR
  clear hn hsh hR
  go_enter Tryd.func29, Tryd.ntmps29
  go_wp2_with (first
    | ((with_reducible refine (HV.out _).mono ?_); rintro e w1 ⟨rfl, hb1⟩; have HX1 : Hid (Blk w1 w.heap.size (iv [a, b]) 30 ∧ Below w.heap.size w w1) := Lib.hid ⟨(Blk.at w (iv [a, b]) _ 30 _ rfl rfl).below hb1 (by simp), below_next (below_a1 _ _) hb1⟩; clear hb1)
    | (refine wpList_load_w2 (by rfl) (.tmp 1) rfl w.heap.size rfl a b HX1.out.1 ?_)
    | ((with_reducible refine (HTX.out _).mono ?_); rintro e w2 ht2; obtain ⟨A2, c2, rfl, hr2, hc2, hm2, hb2⟩ := tx_out ht2; clear ht2; obtain ⟨b2, o2, rfl, hcell⟩ := hr2.open HNE.out; have HC := Lib.hid hcell; have HX2 : Hid (Blk w2 w.heap.size (iv [a, b]) 30 ∧ Below w.heap.size w w2) := Lib.hid ⟨HX1.out.1.below hb2 HX1.out.1.lt, below_next HX1.out.2 hb2⟩; clear hr2 hcell hb2))
  have hm63 : c2 ≤ 9223372036854775807 := by unfold maxLen at hm2; omega
  have eb : (⟨#[]⟩ : ByteArray) = tb [] := rfl
  go_loopg [3, 5] n (fun g s3 s5 wr => ∃ (k : Nat) (B : List UInt8), k + g = n ∧ s3 = .string (tb B) ∧ s5 = .int .i64 (k : Int) ∧ Hid (R = pick a b B (TX.drop k)) ∧ Hid (Blk wr w.heap.size (iv [a, b]) 30 ∧ Below w2.heap.size w2 wr))
  case atStart => exact ⟨0, [], by omega, rfl, rfl, HR, Lib.hid ⟨HX2.out.1, Below.refl _ _⟩⟩
  case round =>
    clear HR
    obtain ⟨k, B, hk, rfl, rfl, HQ, HI⟩ := hrel
    by_cases hlt : k < n
    · obtain ⟨g, rfl⟩ : ∃ g, gk = g + 1 := ⟨gk - 1, by omega⟩
      obtain ⟨t, ht⟩ : ∃ t, t = TX.getD k [] := ⟨_, rfl⟩
      have hkl : k < TX.length := by rw [← HN.out]; exact hlt
      have HD : Hid (TX.drop k = t :: TX.drop (k + 1)) := Lib.hid (by rw [List.drop_eq_getElem_cons hkl, ht]; simp [List.getD, hkl])
      have HTL : Hid (t.length ≤ 21) := Lib.hid (by rw [ht]; exact HS.out _ (by simp [List.getD, hkl]))
      have hcw : w2.cell? ⟨b2, o2 + k, none⟩ = some (.string (tb t)) := HC.out k _ (by rw [ht]; exact tv_get TX k hkl)
      have HT : Hid (∀ W, Below w2.heap.size w2 W → W.cell? ⟨b2, o2 + k, none⟩ = some (.string (tb t))) := Lib.hid fun W hb => (hb.cell (p := ⟨b2, o2 + k, none⟩) (World.block_lt_of_cell? w2 _ hcw)).trans hcw
      have hc0 := HT.out _ HI.out.2
      clear ht hkl hcw
      obtain ⟨⟨x, z, c⟩, hp⟩ : ∃ r, pars t = r := ⟨_, rfl⟩
      have HE := Lib.hid hp
      clear hp
      have HPA : Hid (∀ W, Calls Tryd.prog 26 #[.string (tb t)] W fun e w' => e = .returned (.tuple #[.agg #[.int .i64 x, .int .i64 z], .int .i64 c]) ∧ Below W.heap.size W w') := Lib.hid fun W => by have := rparse_any t (by unfold maxLen; have := HTL.out; omega) W; rw [HE.out] at this; exact this
      by_cases hc : c = 0
      · subst hc
        by_cases he : x = a ∧ z = b
        · obtain ⟨rfl, rfl⟩ := he
          have heq : ∀ W, (Op.equalIn 10000 30 (.agg #[.int .i64 x, .int .i64 z]) (.agg #[.int .i64 x, .int .i64 z])).run Tryd.prog W = .ok true W := fun W => by rw [eq_span]; simp
          cases B with
          | nil =>
            have hte : (tb []).toList = [] := tb_toList _
            go_wp2_with (first
              | ((with_reducible refine (HPA.out _).mono ?_); rintro e w5 ⟨rfl, hb5⟩; have HX5 : Hid (Blk w5 w.heap.size (iv [x, z]) 30 ∧ Below w2.heap.size w2 w5) := Lib.hid ⟨HI.out.1.below hb5 HI.out.1.lt, below_next HI.out.2 hb5⟩; have hc5 := HT.out _ HX5.out.2; have hc6 := HT.out _ (below_al HX5.out.2 (.cells #[.int .i64 x, .int .i64 z] 30)); clear hb5 hc0)
              | (refine wpList_load_w2 (by rfl) (.tmp 1) rfl w.heap.size rfl x z (HX5.out.1.alloc _) ?_))
            go_roundg g
            case rel => exact ⟨k + 1, t, by omega, rfl, by go_num, Lib.hid (by rw [HQ.out, HD.out]; exact pick_yes _ _ _ _ _ ⟨HE.out, .inl rfl⟩), Lib.hid ⟨HX5.out.1.alloc _, below_al HX5.out.2 _⟩⟩
            case measure => omega
          | cons c0 t0 =>
            have hte : (tb (c0 :: t0)).toList = c0 :: t0 := tb_toList _
            have hte0 : (tb []).toList = [] := tb_toList _
            have hcn : (c0 :: t0 == ([] : List UInt8)) = false := rfl
            obtain ⟨mB, hmB⟩ : ∃ m, m = (c0 :: t0).length := ⟨_, rfl⟩
            obtain ⟨mt, hmt⟩ : ∃ m, m = t.length := ⟨_, rfl⟩
            have hsB : (tb (c0 :: t0)).size = mB := by rw [tb_size, hmB]
            have hst : (tb t).size = mt := by rw [tb_size, hmt]
            by_cases hl : mt < mB
            · have HL : Hid (t.length < (c0 :: t0).length) := Lib.hid (by rw [← hmt, ← hmB]; exact hl)
              clear hmB hmt
              go_wp2_with (first
                | ((with_reducible refine (HPA.out _).mono ?_); rintro e w5 ⟨rfl, hb5⟩; have HX5 : Hid (Blk w5 w.heap.size (iv [x, z]) 30 ∧ Below w2.heap.size w2 w5) := Lib.hid ⟨HI.out.1.below hb5 HI.out.1.lt, below_next HI.out.2 hb5⟩; have hc5 := HT.out _ HX5.out.2; have hc6 := HT.out _ (below_al HX5.out.2 (.cells #[.int .i64 x, .int .i64 z] 30)); clear hb5 hc0)
                | (refine wpList_load_w2 (by rfl) (.tmp 1) rfl w.heap.size rfl x z (HX5.out.1.alloc _) ?_))
              go_roundg g
              case rel => exact ⟨k + 1, t, by omega, rfl, by go_num, Lib.hid (by rw [HQ.out, HD.out]; exact pick_yes _ _ _ _ _ ⟨HE.out, .inr HL.out⟩), Lib.hid ⟨HX5.out.1.alloc _, below_al HX5.out.2 _⟩⟩
              case measure => omega
            · have HL : Hid (¬ t.length < (c0 :: t0).length) := Lib.hid (by rw [← hmt, ← hmB]; exact hl)
              clear hmB hmt
              go_wp2_with (first
                | ((with_reducible refine (HPA.out _).mono ?_); rintro e w5 ⟨rfl, hb5⟩; have HX5 : Hid (Blk w5 w.heap.size (iv [x, z]) 30 ∧ Below w2.heap.size w2 w5) := Lib.hid ⟨HI.out.1.below hb5 HI.out.1.lt, below_next HI.out.2 hb5⟩; have hc5 := HT.out _ HX5.out.2; have hc6 := HT.out _ (below_al HX5.out.2 (.cells #[.int .i64 x, .int .i64 z] 30)); clear hb5 hc0)
                | (refine wpList_load_w2 (by rfl) (.tmp 1) rfl w.heap.size rfl x z (HX5.out.1.alloc _) ?_))
              go_roundg g
              case rel => exact ⟨k + 1, c0 :: t0, by omega, rfl, by go_num, Lib.hid (by rw [HQ.out, HD.out]; exact pick_no _ _ _ _ _ (fun h => h.2.elim (fun e => by cases e) HL.out)), Lib.hid ⟨HX5.out.1.alloc _, below_al HX5.out.2 _⟩⟩
              case measure => omega
        · have heq : ∀ W, (Op.equalIn 10000 30 (.agg #[.int .i64 x, .int .i64 z]) (.agg #[.int .i64 a, .int .i64 b])).run Tryd.prog W = .ok false W := fun W => by rw [eq_span]; simp; exact fun h1 h2 => he ⟨h1, h2⟩
          have HNO : Hid (¬ (x = a ∧ z = b)) := Lib.hid he
          clear he
          go_wp2_with (first
            | ((with_reducible refine (HPA.out _).mono ?_); rintro e w5 ⟨rfl, hb5⟩; have HX5 : Hid (Blk w5 w.heap.size (iv [a, b]) 30 ∧ Below w2.heap.size w2 w5) := Lib.hid ⟨HI.out.1.below hb5 HI.out.1.lt, below_next HI.out.2 hb5⟩; have hc5 := HT.out _ HX5.out.2; have hc6 := HT.out _ (below_al HX5.out.2 (.cells #[.int .i64 x, .int .i64 z] 30)); clear hb5 hc0)
            | (refine wpList_load_w2 (by rfl) (.tmp 1) rfl w.heap.size rfl a b (HX5.out.1.alloc _) ?_))
          go_roundg g
          case rel => exact ⟨k + 1, B, by omega, rfl, by go_num, Lib.hid (by rw [HQ.out, HD.out]; exact pick_no _ _ _ _ _ (fun h => HNO.out (by have := h.1; rw [HE.out] at this; simp at this; exact this))), Lib.hid ⟨HX5.out.1.alloc _, below_al HX5.out.2 _⟩⟩
          case measure => omega
      · have hcb : (c == 0) = false := beq_eq_false_iff_ne.2 hc
        have HNO : Hid (c ≠ 0) := Lib.hid hc
        clear hc
        go_wp2_with (first
          | ((with_reducible refine (HPA.out _).mono ?_); rintro e w5 ⟨rfl, hb5⟩; have HX5 : Hid (Blk w5 w.heap.size (iv [a, b]) 30 ∧ Below w2.heap.size w2 w5) := Lib.hid ⟨HI.out.1.below hb5 HI.out.1.lt, below_next HI.out.2 hb5⟩; have hc5 := HT.out _ HX5.out.2; have hc6 := HT.out _ (below_al HX5.out.2 (.cells #[.int .i64 x, .int .i64 z] 30)); clear hb5 hc0)
          | (refine wpList_load_w2 (by rfl) (.tmp 1) rfl w.heap.size rfl a b (HX5.out.1.alloc _) ?_))
        go_roundg g
        case rel => exact ⟨k + 1, B, by omega, rfl, by go_num, Lib.hid (by rw [HQ.out, HD.out]; exact pick_no _ _ _ _ _ (fun h => HNO.out (by have := h.1; rw [HE.out] at this; simp at this; exact this.2.2))), Lib.hid ⟨HX5.out.1.alloc _, below_al HX5.out.2 _⟩⟩
        case measure => omega
    · obtain rfl : k = n := by omega
      have HE : Hid (B = R) := Lib.hid (by rw [HQ.out, HN.out, List.drop_length, pick_nil])
      go_wp2_with fail
      go_ret
      exact ⟨by rw [← HE.out]; rfl, below_next HX2.out.2 HI.out.2⟩
theorem rprint_any (a b : Int) (w : World) : Calls Tryd.prog 29 #[.agg #[.int .i64 a, .int .i64 b]] w fun e w' => e = .returned (.string (tb (prt a b))) ∧ Below w.heap.size w w' := by
  rw [← rpr_eq]
  unfold rpr
  cases h : vaB a b
  · exact rprint_no a b h w
  · obtain ⟨h1, h2, h3⟩ := vaB_yes h
    obtain ⟨n, hn, n3, n18, ht⟩ := rtexts_any a b h1 (by omega) (by omega) h3
    exact rprint_aux a b (tx a b) n hn n3 n18 (tx_short a b) _ rfl w (Lib.hid fun W => rvalid_yes a b h W) (Lib.hid fun W => ht W)
end Go.Proofs.YtkaaejfochdjcaaDoor
