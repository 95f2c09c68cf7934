/-
  AlphabetParses: for every list of numbers, every three numbers and every string the law returns true, and leaves what was there as it was; the listed tables are as the library's text lays them (the card ties them).
-/
import Derived.Test.YtolkmjgklgimpaaDoorALaw
import Derived.Test.YtolkmjgklgimpaaDoorAMany
import Derived.Test.YtolkmjgklgimpaaDoorARParse
namespace Go.Proofs.YtolkmjgklgimpaaDoor
open Go.ChangeShapes Go.WideShapes Go.ChangeAt Go.RowKit Go.ChangeMaps
open Alp
set_option linter.unusedVariables false
set_option linter.unusedSimpArgs false
namespace AL3

theorem tdiv_in (n d : Int) (hd : d = 7 ∨ d = 4 ∨ d = 8) (h : inI n) : inI (n.tdiv d) := by
  unfold inI at *
  by_cases h0 : 0 ≤ n
  · rw [Int.tdiv_eq_ediv_of_nonneg h0]
    rcases hd with rfl | rfl | rfl <;> omega
  · obtain ⟨m, rfl⟩ : ∃ m, n = -m := ⟨-n, by omega⟩
    rw [Int.neg_tdiv, Int.tdiv_eq_ediv_of_nonneg (by omega)]
    rcases hd with rfl | rfl | rfl <;> omega
theorem run_make_bytes (n : Nat) (hn : n ≤ 1000000) (w : World) : (Instr.makeSlice 46 (.int .i64 (n : Int)) (.int .i64 (n : Int))).run Tryd.prog w = .ok (.slice (some ⟨w.heap.size, 0, none⟩) n n) (w.alloc (.cells (bs (List.replicate n 0)).toArray 5)) := by
  obtain ⟨i0, hi0, hz0, hz1, hz2⟩ := info_parts Tryd.infoByte
  have h := run_make (P := Tryd.prog) w 46 5 i0 _ Tryd.underlying46 hi0 hz0 .i64 .i64 (n : Int) (n : Int) (by omega) (Int.le_refl _) (by rw [hz2]; omega) (by omega)
  have e : madeCells (Value.int .u8 0).cells n = (bs (List.replicate n 0)).toArray := by
    apply Array.ext
    · simp [bs_length, madeCells]
    · intro i h1 h2
      simp [madeCells, bs, by8, Value.cells, Nat.mod_one]
  rw [h, Int.toNat_natCast, hz1, Nat.mul_one, e]
theorem rd_bytes {w : World} {g : Nat} {l : B} {T : TypeId} (h : Blk w g (bs l) T) : Rd w (some ⟨g, 0, none⟩) (bs l) := .inr ⟨g, 0, rfl, fun k v hv => by rw [Nat.zero_add]; exact h.cell hv⟩
theorem zero_conv (n : Nat) (W : World) : (convert 46 9 (.slice (some ⟨W.heap.size, 0, none⟩) n n)).run Tryd.prog (W.alloc (.cells (bs (List.replicate n 0)).toArray 5)) = .ok (.string (tb (List.replicate n 0))) (W.alloc (.cells (bs (List.replicate n 0)).toArray 5)) := by
  have := conv_rd (l := List.replicate n (0 : UInt8)) Tryd.underlying46 Tryd.underlying5 Tryd.underlying9 (rd_bytes (Blk.at W (bs (List.replicate n 0)) _ 5 _ rfl rfl)) n
  rw [List.length_replicate] at this
  exact this
set_option maxRecDepth 100000 in
set_option maxHeartbeats 8000000 in
theorem walk (l : List Int) (A : Option Addr) (c : Nat) (li : ∀ x ∈ l, inI x) (ln : l.length ≤ c) (lm : c ≤ maxLen) (n : Int) (ni : inI n) (k : Int) (ki : inI k) (v : Int) (vi : inI v) (raw : B) (rz : raw.length ≤ 140737488351232)
    (w : World) (lr : Rd w A (iv l)) (hK : ML w) : Calls Tryd.prog 5 #[.slice A l.length c, .int .i64 n, .int .i64 k, .int .i64 v, .string (tb raw)] w fun e w' => e = .returned (.bool true) ∧ Below w.heap.size w w' := by
  obtain ⟨L, hL⟩ : ∃ L, L = lettersP l := ⟨_, rfl⟩
  have hv : valP L = true := by rw [hL]; exact letters_val l
  obtain ⟨t, ht⟩ : ∃ t, t = printT L := ⟨_, rfl⟩
  have htl : t.length ≤ 1500 := by
    have := printK_len hv L.length (Nat.le_refl _)
    rw [List.take_length] at this
    have h2 := ((valP_iff L).1 hv).2.1
    rw [ht]; unfold printT; omega
  obtain ⟨m1, hm1⟩ : ∃ x, x = speltP t n k v := ⟨_, rfl⟩
  have hm1l : m1.length ≤ 1501 := by have := speltP_len t n k v; rw [← hm1] at this; omega
  obtain ⟨m2, hm2⟩ : ∃ x, x = speltP m1 (n.tdiv 7) (k.tdiv 4) (v.tdiv 8) := ⟨_, rfl⟩
  have hm2l : m2.length ≤ 1502 := by have := speltP_len m1 (n.tdiv 7) (k.tdiv 4) (v.tdiv 8); rw [← hm2] at this; omega
  obtain ⟨pm, hpm⟩ : ∃ x, x = printT (manyP 60) := ⟨_, rfl⟩
  have hpml : pm.length ≤ 1500 := by
    have := printK_len many_val 60 (by rw [manyP_len]; exact Nat.le_refl _)
    rw [List.take_of_length_le (by rw [manyP_len]; exact Nat.le_refl _)] at this
    rw [hpm]; unfold printT; omega
  obtain ⟨t2, ht2⟩ : ∃ x, t ++ t = x := ⟨_, rfl⟩
  obtain ⟨t3, ht3⟩ : ∃ x, t ++ [10] = x := ⟨_, rfl⟩
  obtain ⟨t4, ht4⟩ : ∃ x, [122, 32, 121, 32, 48, 32, 48, 32, 49, 10] ++ t = x := ⟨_, rfl⟩
  obtain ⟨t5, ht5⟩ : ∃ x, pm ++ [122, 122, 32, 122, 122, 32, 48, 32, 48, 32, 49, 10] = x := ⟨_, rfl⟩
  obtain ⟨sh, hsh⟩ : ∃ x, x = raw.take 200 := ⟨_, rfl⟩
  have ht2l : t2.length ≤ 3000 := by rw [← ht2, List.length_append]; omega
  have ht3l : t3.length ≤ 1501 := by rw [← ht3, List.length_append]; simp; omega
  have ht4l : t4.length ≤ 1510 := by rw [← ht4, List.length_append]; simp; omega
  have ht5l : t5.length ≤ 1512 := by rw [← ht5, List.length_append]; simp; omega
  have hshl : sh.length ≤ 200 := by rw [hsh, List.length_take]; omega
  have hc2 : ∀ W, (Op.stringOp .add (tb t) (tb t)).run Tryd.prog W = .ok (.string (tb t2)) W := fun W => cat_tb ht2 (by omega) W
  have hc3 : ∀ W, (Op.stringOp .add (tb t) ⟨#[10]⟩).run Tryd.prog W = .ok (.string (tb t3)) W := fun W => cat_tb ht3 (by omega) W
  have hc4 : ∀ W, (Op.stringOp .add ⟨#[122, 32, 121, 32, 48, 32, 48, 32, 49, 10]⟩ (tb t)).run Tryd.prog W = .ok (.string (tb t4)) W := fun W => cat_tb ht4 (by omega) W
  have hc5 : ∀ W, (Op.stringOp .add (tb pm) ⟨#[122, 122, 32, 122, 122, 32, 48, 32, 48, 32, 49, 10]⟩).run Tryd.prog W = .ok (.string (tb t5)) W := fun W => cat_tb ht5 (by omega) W
  have hw7 : IntKind.i64.wrap (n.tdiv 7) = n.tdiv 7 := by have := tdiv_in n 7 (by omega) ni; exact IntWalk.i64_in _ this
  have hw4 : IntKind.i64.wrap (k.tdiv 4) = k.tdiv 4 := by have := tdiv_in k 4 (by omega) ki; exact IntWalk.i64_in _ this
  have hw8 : IntKind.i64.wrap (v.tdiv 8) = v.tdiv 8 := by have := tdiv_in v 8 (by omega) vi; exact IntWalk.i64_in _ this
  have hx7 : wrap64 (n.tdiv 7) = n.tdiv 7 := by have := tdiv_in n 7 (by omega) ni; unfold inI at this; unfold wrap64; omega
  have hx4 : wrap64 (k.tdiv 4) = k.tdiv 4 := by have := tdiv_in k 4 (by omega) ki; unfold inI at this; unfold wrap64; omega
  have hx8 : wrap64 (v.tdiv 8) = v.tdiv 8 := by have := tdiv_in v 8 (by omega) vi; unfold inI at this; unfold wrap64; omega
  have HLE : Hid (Calls Tryd.prog 9 #[.slice A l.length c] w (LtPost w L)) := Lib.hid (by rw [hL]; exact letters_any l A _ c rfl ln lm li w lr)
  have HPR : Hid (∀ AL q cq W, q = L.length → q ≤ cq → cq ≤ maxLen → Rd W AL (lv L) → Calls Tryd.prog 23 #[.slice AL q cq] W (TxPost W t)) := Lib.hid fun AL q cq W h1 h2 h3 h4 => by rw [ht]; exact rprint_any L hv AL q cq h1 h2 h3 W h4
  have HPM : Hid (∀ AL q cq W, q = (manyP 60).length → q ≤ cq → cq ≤ maxLen → Rd W AL (lv (manyP 60)) → Calls Tryd.prog 23 #[.slice AL q cq] W (TxPost W pm)) := Lib.hid fun AL q cq W h1 h2 h3 h4 => by rw [hpm]; exact rprint_any _ many_val AL q cq h1 h2 h3 W h4
  have HMA : Hid (∀ W, Calls Tryd.prog 25 #[.int .i64 60] W (LtPost W (manyP 60))) := Lib.hid fun W => rmany_any 60 (by omega) W
  have HS1 : Hid (∀ W, Calls Tryd.prog 24 #[.string (tb t), .int .i64 n, .int .i64 k, .int .i64 v] W (TxPost W m1)) := Lib.hid fun W => by rw [hm1]; exact spelt_any t (by omega) n k v ni ki vi W
  have HS2 : Hid (∀ W, Calls Tryd.prog 24 #[.string (tb m1), .int .i64 (n.tdiv 7), .int .i64 (k.tdiv 4), .int .i64 (v.tdiv 8)] W (TxPost W m2)) := Lib.hid fun W => by rw [hm2]; exact spelt_any m1 (by omega) _ _ _ (tdiv_in n 7 (by omega) ni) (tdiv_in k 4 (by omega) ki) (tdiv_in v 8 (by omega) vi) W
  have HSH : Hid (∀ W, Calls Tryd.prog 11 #[.string (tb raw), .int .i64 200] W fun e w' => e = .returned (.string (tb sh)) ∧ W = w') := Lib.hid fun W => by rw [hsh]; exact rshort_any raw (by unfold maxLen; omega) 200 (by omega) W
  have HTS : Hid (∀ s ∈ [t, m1, m2, t2, t3, ([] : B), [10], sh, t4, pm, t5], s.length ≤ maxLen) := Lib.hid (by
    unfold maxLen
    intro s hs
    simp only [List.mem_cons, List.not_mem_nil, or_false] at hs
    rcases hs with rfl | rfl | rfl | rfl | rfl | rfl | rfl | rfl | rfl | rfl | rfl <;> first | omega | simp)
  have HPA : Hid (∀ s : B, s.length ≤ maxLen → ∀ W, Below w.heap.size w W → Calls Tryd.prog 26 #[.string (tb s)] W (PPost W (parseP s))) := Lib.hid fun s hs W hb => parse_any s hs W (hK.below hb)
  have HRP : Hid (∀ s : B, s.length ≤ maxLen → ∀ W, Calls Tryd.prog 27 #[.string (tb s)] W (PPost W (parseP s))) := Lib.hid fun s hs W => rparse_any s hs W
  have HSA : Hid (∀ (R : List Lt) (A1 A2 : Option Addr) (n1 n2 c1 c2 : Nat) W, n1 = R.length → n2 = R.length → n1 ≤ maxLen → Rd W A1 (lv R) → Rd W A2 (lv R) → Calls Tryd.prog 28 #[.slice A1 n1 c1, .slice A2 n2 c2] W (BoolB W true)) := Lib.hid fun R A1 A2 n1 n2 c1 c2 W h1 h2 h3 h4 h5 => rsame_any R A1 A2 n1 n2 c1 c2 h1 h2 h3 W h4 h5
  have HLI : Hid (∀ W, Below w.heap.size w W → Calls Tryd.prog 15 #[] W fun e w' => e = .returned (.bool true) ∧ Below W.heap.size W w') := Lib.hid fun W hb => lives_any W (hK.below hb)
  obtain ⟨Z, hZ⟩ : ∃ Z : B, Z = List.replicate 65537 0 := ⟨_, rfl⟩
  obtain ⟨ZC, hZC⟩ : ∃ Z : Array Value, Z = (bs (List.replicate 65537 0)).toArray := ⟨_, rfl⟩
  have hmk : ∀ W : World, (Instr.makeSlice 46 (.int .i64 65537) (.int .i64 65537)).run Tryd.prog W = .ok (.slice (some ⟨W.heap.size, 0, none⟩) 65537 65537) (W.alloc (.cells ZC 5)) := fun W => by rw [hZC]; exact run_make_bytes 65537 (by omega) W
  have hzc : ∀ W : World, (convert 46 9 (.slice (some ⟨W.heap.size, 0, none⟩) 65537 65537)).run Tryd.prog (W.alloc (.cells ZC 5)) = .ok (.string (tb Z)) (W.alloc (.cells ZC 5)) := fun W => by rw [hZC, hZ]; exact zero_conv 65537 W
  have HPZ : Hid (∀ W, Below w.heap.size w W → Calls Tryd.prog 26 #[.string (tb Z)] W (PPost W ([], 0, 4))) := Lib.hid fun W hb => by
    have hzl : Z.length = 65537 := by rw [hZ, List.length_replicate]
    have h := HPA.out Z (by rw [hzl]; unfold maxLen; omega) W hb
    have e : parseP Z = ([], 0, 4) := by unfold parseP; rw [if_pos (by omega)]
    rw [e] at h
    exact h
  clear hL hv ht hm1 hm2 hpm hsh li ki lr ni vi hK ht2 ht3 ht4 ht5 htl hm1l hm2l hpml ht2l ht3l ht4l ht5l hshl hZ hZC rz
  go_enter Tryd.func5, Tryd.ntmps5
  go_wp2_with (first
    | ((with_reducible refine HLE.out.mono ?_); rintro e w1 hp; obtain ⟨AL, q, cq, rfl, h1, h2, h3, h4, hb⟩ := lt_out hp; have HX1 : Hid (Below w.heap.size w w1 ∧ q = L.length ∧ q ≤ cq ∧ cq ≤ maxLen ∧ Rd w1 AL (lv L)) := Lib.hid ⟨hb, h1, h3, h4, h2⟩; clear hp h1 h2 h3 h4 hb)
    | (go_at_call 23; (with_reducible refine (HPM.out _ _ _ _ HX7.out.2.1 HX7.out.2.2.1 HX7.out.2.2.2.1 HX7.out.2.2.2.2).mono ?_); rintro e w8 hp; obtain ⟨rfl, hb⟩ := tx_out hp; have HX8 : Hid (Below w.heap.size w w8) := Lib.hid (below_next HX7.out.1 hb); clear hp hb)
    | (go_at_call 23; (with_reducible refine (HPM.out _ _ _ _ HX5.out.2.1 HX5.out.2.2.1 HX5.out.2.2.2.1 HX5.out.2.2.2.2).mono ?_); rintro e w6 hp; obtain ⟨rfl, hb⟩ := tx_out hp; have HX6 : Hid (Below w.heap.size w w6) := Lib.hid (below_next HX5.out.1 hb); clear hp hb)
    | (go_at_call 23; (with_reducible refine (HPR.out _ _ _ _ HX1.out.2.1 HX1.out.2.2.1 HX1.out.2.2.2.1 HX1.out.2.2.2.2).mono ?_); rintro e w2 hp; obtain ⟨rfl, hb⟩ := tx_out hp; have HX2 : Hid (Below w.heap.size w w2) := Lib.hid (below_next HX1.out.1 hb); clear hp hb)
    | ((with_reducible refine (HS1.out _).mono ?_); rintro e w3 hp; obtain ⟨rfl, hb⟩ := tx_out hp; have HX3 : Hid (Below w.heap.size w w3) := Lib.hid (below_next HX2.out hb); clear hp hb)
    | ((with_reducible refine (HS2.out _).mono ?_); rintro e w4 hp; obtain ⟨rfl, hb⟩ := tx_out hp; have HX4 : Hid (Below w.heap.size w w4) := Lib.hid (below_next HX3.out hb); clear hp hb)
    | ((with_reducible refine (HSH.out _).mono ?_); rintro e w0 ⟨rfl, rfl⟩)
    | (go_at_call 25; (with_reducible refine (HMA.out _).mono ?_); rintro e w7 hp; obtain ⟨A7, n7, c7, rfl, h1, h2, h3, h4, hb⟩ := lt_out hp; have HX7 : Hid (Below w.heap.size w w7 ∧ n7 = (manyP 60).length ∧ n7 ≤ c7 ∧ c7 ≤ maxLen ∧ Rd w7 A7 (lv (manyP 60))) := Lib.hid ⟨below_next HX6.out hb, h1, h3, h4, h2⟩; clear hp h1 h2 h3 h4 hb)
    | (go_at_call 25; (with_reducible refine (HMA.out _).mono ?_); rintro e w5 hp; obtain ⟨A5, n5, c5, rfl, h1, h2, h3, h4, hb⟩ := lt_out hp; have HX5 : Hid (Below w.heap.size w w5 ∧ n5 = (manyP 60).length ∧ n5 ≤ c5 ∧ c5 ≤ maxLen ∧ Rd w5 A5 (lv (manyP 60))) := Lib.hid ⟨below_next HX4.out hb, h1, h3, h4, h2⟩; clear hp h1 h2 h3 h4 hb))
  have H0 : Hid (Below w.heap.size w (w8.alloc (.cells #[.string (tb t), .string (tb m1), .string (tb m2), .string (tb t2), .string (tb t3), .string ⟨#[]⟩, .string ⟨#[10]⟩, .string (tb sh), .string (tb t4), .string (tb pm), .string (tb t5)] 9)) ∧ Blk (w8.alloc (.cells #[.string (tb t), .string (tb m1), .string (tb m2), .string (tb t2), .string (tb t3), .string ⟨#[]⟩, .string ⟨#[10]⟩, .string (tb sh), .string (tb t4), .string (tb pm), .string (tb t5)] 9)) w8.heap.size (tv [t, m1, m2, t2, t3, ([] : B), [10], sh, t4, pm, t5]) 9) := Lib.hid ⟨below_al HX8.out _, Blk.at w8 (tv [t, m1, m2, t2, t3, ([] : B), [10], sh, t4, pm, t5]) _ _ _ rfl rfl⟩
  go_loopg [14, 15, 16, 17, 18, 19, 20] 11 (fun g s14 s15 s16 s17 s18 s19 s20 wr => ∃ (i : Nat), i + g = 11 ∧ s14 = .int .i64 (i : Int) ∧ Hid (Below w.heap.size w wr ∧ Blk wr w8.heap.size (tv [t, m1, m2, t2, t3, ([] : B), [10], sh, t4, pm, t5]) 9))
  case atStart => exact ⟨0, by omega, rfl, H0⟩
  case round =>
    obtain ⟨i, hi, rfl, HI⟩ := hrel
    by_cases hlt : i < 11
    · obtain ⟨g, rfl⟩ : ∃ g, gk = g + 1 := ⟨gk - 1, by omega⟩
      obtain ⟨s, hs⟩ : ∃ s, s = [t, m1, m2, t2, t3, ([] : B), [10], sh, t4, pm, t5].getD i [] := ⟨_, rfl⟩
      have HCS : Hid (∀ W, Blk W w8.heap.size (tv [t, m1, m2, t2, t3, ([] : B), [10], sh, t4, pm, t5]) 9 → W.cell? ⟨w8.heap.size, i, none⟩ = some (.string (tb s))) := Lib.hid fun W h => h.cell (by rw [hs]; exact tv_get _ i hlt)
      have hcs := HCS.out wr HI.out.2
      have hsl : s.length ≤ maxLen := HTS.out s (by rw [hs]; have h4 : i < [t, m1, m2, t2, t3, ([] : B), [10], sh, t4, pm, t5].length := hlt; simp only [List.getD, List.getElem?_eq_getElem h4, Option.getD_some]; exact List.getElem_mem h4)
      obtain ⟨⟨R, y, u⟩, hR⟩ : ∃ R, R = parseP s := ⟨_, rfl⟩
      have HR1 : Hid (∀ W, Below w.heap.size w W → Calls Tryd.prog 26 #[.string (tb s)] W (PPost W (R, y, u))) := Lib.hid fun W h => by rw [hR]; exact HPA.out s hsl W h
      have HR2 : Hid (∀ W, Calls Tryd.prog 27 #[.string (tb s)] W (PPost W (R, y, u))) := Lib.hid fun W => by rw [hR]; exact HRP.out s hsl W
      clear hs hR hsl
      go_wp2_with (first
        | ((with_reducible refine (HR1.out _ HI.out.1).mono ?_); rintro e x4 hp; obtain ⟨A8, n8, c8, rfl, h1, h2, h3, h4, hb⟩ := p_out hp; have HX9 : Hid (Below w.heap.size w x4 ∧ Blk x4 w8.heap.size (tv [t, m1, m2, t2, t3, ([] : B), [10], sh, t4, pm, t5]) 9 ∧ Rd x4 A8 (lv R) ∧ n8 = R.length ∧ n8 ≤ maxLen) := Lib.hid ⟨below_next HI.out.1 hb, HI.out.2.below hb HI.out.2.lt, h2, h1, Nat.le_trans h3 h4⟩; have hcs4 := HCS.out _ HX9.out.2.1; clear hp h1 h2 h3 h4 hb)
        | ((with_reducible refine (HR2.out _).mono ?_); rintro e x5 hp; obtain ⟨A9, n9, c9, rfl, h1, h2, h3, h4, hb⟩ := p_out hp; have HX10 : Hid (Below w.heap.size w x5 ∧ Blk x5 w8.heap.size (tv [t, m1, m2, t2, t3, ([] : B), [10], sh, t4, pm, t5]) 9 ∧ Rd x5 A8 (lv R) ∧ Rd x5 A9 (lv R) ∧ n9 = R.length) := Lib.hid ⟨below_next HX9.out.1 hb, HX9.out.2.1.below hb HX9.out.2.1.lt, HX9.out.2.2.1.below hb, h2, h1⟩; clear hp h1 h2 h3 h4 hb)
        | ((with_reducible refine (HSA.out R _ _ _ _ _ _ _ HX9.out.2.2.2.1 HX10.out.2.2.2.2 HX9.out.2.2.2.2 HX10.out.2.2.1 HX10.out.2.2.2.1).mono ?_); rintro e x6 hp; obtain ⟨rfl, hb⟩ := boolb_out hp; have HX11 : Hid (Below w.heap.size w x6 ∧ Blk x6 w8.heap.size (tv [t, m1, m2, t2, t3, ([] : B), [10], sh, t4, pm, t5]) 9) := Lib.hid ⟨below_next HX10.out.1 hb, HX10.out.2.1.below hb HX10.out.2.1.lt⟩; clear hp hb))
      go_roundg g
      case rel => exact ⟨i + 1, by omega, by go_num, HX11⟩
      case measure => omega
    · obtain rfl : i = 11 := by omega
      go_wp2_with (first
        | ((with_reducible refine (HPZ.out _ (below_al HI.out.1 _)).mono ?_); rintro e x7 hp; obtain ⟨A8, n8, c8, rfl, h1, h2, h3, h4, hb⟩ := p_out hp; have HX12 : Hid (Below w.heap.size w x7) := Lib.hid (below_next (below_al HI.out.1 _) hb); clear hp h1 h2 h3 h4 hb)
        | ((with_reducible refine (HLI.out _ HX12.out).mono ?_); rintro e x8 ⟨rfl, hb⟩; have HX13 := Lib.hid (below_next HX12.out hb); clear hb))
      go_ret
      exact ⟨rfl, HX13.out⟩

theorem trodAll_five {H : Type} {enc : TypeId × Value → H} {P : Program} {w : World} {base : Nat} {spare : Nat → Bool} {held : Bool} {a b c d e : TypeId} {args : Array Value} {ds : List (DataW H)} {ps : List MemPlace} (h : DataW.TrodAll enc P w base spare held [a, b, c, d, e] args.toList ds ps) :
    ∃ v0 v1 v2 v3 v4 d0 d1 d2 d3 d4 p0 p1 p2 p3 p4, args = #[v0, v1, v2, v3, v4] ∧ ds = [d0, d1, d2, d3, d4] ∧ ps = p0 ++ p1 ++ p2 ++ p3 ++ p4 ∧ DataW.Trod enc P w base spare held a v0 d0 p0 ∧ DataW.Trod enc P w base spare held b v1 d1 p1 ∧ DataW.Trod enc P w base spare held c v2 d2 p2 ∧ DataW.Trod enc P w base spare held d v3 d3 p3 ∧ DataW.Trod enc P w base spare held e v4 d4 p4 := by
  obtain ⟨v0, vs, d0, ds', p0, q, hargs, rfl, rfl, h0, hrest⟩ := trodAll_cons h
  obtain ⟨v1, v2, v3, v4, d1, d2, d3, d4, p1, p2, p3, p4, hv, rfl, rfl, h1, h2, h3, h4⟩ := trodAll_four (args := vs.toArray) hrest
  have hvs : vs = [v1, v2, v3, v4] := by have := congrArg Array.toList hv; simpa using this
  subst hvs
  exact ⟨v0, v1, v2, v3, v4, d0, d1, d2, d3, d4, p0, p1, p2, p3, p4, by cases args; simp_all, rfl, by simp, h0, h1, h2, h3, h4⟩

set_option maxRecDepth 100000 in
theorem contract (H : Type) (enc : TypeId × Value → H) (W : World) (base : Nat) (args : Array Value) (ds gs : List (DataW H)) (before : List MemPlace)
    (hval : ∀ (j : Nat) t v, Tryd.f5.params[j]? = some t → args[j]? = some v → Value.okWide Tryd.prog W .any base t v)
    (hW : DataW.Whole enc Tryd.prog Tryd.f5.params.toList Rows.alphabetParsesSpec.vars false W args.toList ds gs before)
    (hsz : (DataW.weightsEach Tryd.prog (Tryd.f5.params.toList ++ Rows.alphabetParsesSpec.plain.varTypes Tryd.prog) (ds ++ gs)).all (· ≤ reachBytes) = true) (hK : ML W) :
    Calls Tryd.prog 5 args W fun e W' => ∃ v, e = .returned v ∧ Rows.alphabetParsesSpec.post enc Tryd.prog Tryd.f5 false true false false W args v W' := by
  have hW' := hW
  obtain ⟨p, q, hA0, hV, rfl, hfz, hnd⟩ := hW
  have hA : DataW.TrodAll enc Tryd.prog W 0 (fun _ => true) true Tryd.f5.params.toList args.toList ds p := hA0
  rw [Tryd.params5] at hA hval hsz
  obtain ⟨v0, v1, v2, v3, v4, d0, d1, d2, d3, d4, p0, p1, p2, p3, p4, rfl, rfl, rfl, h0, h1, h2, h3, h4⟩ := trodAll_five hA
  obtain ⟨rfl, rfl⟩ := trodVars_none hV
  obtain ⟨lA, ll, lc, rfl, lr, li, ln, lm⟩ := open_ivs (hval 0 22 v0 rfl rfl) h0
  obtain ⟨n, rfl, rfl, rfl, nw⟩ := open_int Tryd.underlying3 (hval 1 3 v1 rfl rfl) h1
  have ni := inI_wf nw
  obtain ⟨k, rfl, rfl, rfl, kw⟩ := open_int Tryd.underlying3 (hval 2 3 v2 rfl rfl) h2
  have ki := inI_wf kw
  obtain ⟨v, rfl, rfl, rfl, vw⟩ := open_int Tryd.underlying3 (hval 3 3 v3 rfl rfl) h3
  have vi := inI_wf vw
  obtain ⟨s0, rfl, rfl, rfl, sw⟩ := open_string Tryd.underlying9 (hval 4 9 v4 rfl rfl) h4
  have sq := str_reach hsz (j := 4) (t := 9) (s := s0) rfl rfl
  obtain ⟨s, se⟩ : ∃ l, l = s0.data.toList := ⟨_, rfl⟩
  have sb : s0 = tb s := by rw [se]; rfl
  have sz : s.length ≤ 140737488351232 := by rw [se]; exact sq
  have hargs : (#[.slice lA ll.length lc, .int .i64 n, .int .i64 k, .int .i64 v, .string s0] : Array Value) = #[.slice lA ll.length lc, .int .i64 n, .int .i64 k, .int .i64 v, .string (tb s)] := by rw [sb]
  have hwalk : Calls Tryd.prog 5 #[.slice lA ll.length lc, .int .i64 n, .int .i64 k, .int .i64 v, .string s0] W fun e W' => e = .returned (.bool true) ∧ Below W.heap.size W W' := by
    rw [hargs]
    exact walk ll lA lc li ln lm n ni k ki v vi s sz W lr hK
  refine hwalk.mono fun e W' ⟨he, hb⟩ => ⟨_, he, ?_⟩
  exact law_post rfl rfl (by kernel_rfl) hW' rfl hb

set_option maxRecDepth 100000 in
theorem lifted (os : Os) (started : os.Started) (H : Type) (enc : TypeId × Value → H) :
    ReturnsInHanded {} Tryd.checked os 5 .any (fun w args => (Rows.alphabetParsesSpec.pre enc Tryd.prog Tryd.f5 [] false w args ∧ laidMetH Tryd.prog laidA w) ∧ sizedMet enc Tryd.prog Tryd.f5 (OpenSpec.ofChange Rows.alphabetParsesSpec) false w args)
      (Rows.alphabetParsesSpec.post enc Tryd.prog Tryd.f5 false true false false) := by
  refine lift5 (C := Tryd.checked) Tryd.own (enc := enc) (os := os) started (by kernel_rfl) Tryd.func5 #[.slice none 0 0, .int .i64 0, .int .i64 0, .int .i64 0, .string ByteArray.empty] (World.shaped_of_ZipB (by kernel_rfl) (by kernel_rfl)) (by kernel_rfl) (by kernel_rfl) (by kernel_rfl) (metA os _) ?_
  intro W base args ds gs before hval hW hsz shape met
  exact contract H enc W base args ds gs before hval hW hsz (ml_shape shape)

theorem row : Rows.AlphabetParsesSaid :=
  OpenClaim.holds_of_wide 5 Tryd.f5 rfl rfl rfl rfl rfl rfl rfl ⟨rfl, rfl, rfl, rfl, rfl⟩ rfl rfl rfl rfl rfl (by kernel_rfl) Tryd.func5 (by kernel_rfl)
    (of_decide_eq_true (by kernel_rfl)) (by unfold Func.isWrapper; first | (rw [if_pos (by decide +kernel)]; kernel_rfl) | (rw [if_neg (by decide +kernel)]; exact ⟨rfl, rfl⟩))
    (fun os started H enc _ => lifted os started H enc)

theorem proved : Rows.AlphabetParsesCardSaid :=
  Claim7.holds_tied_plain_at .later [] [.data, .pinned] true (true, "7232729ef4ef8a14cd71f04c7a643cd3ec9606b55a84630ce42a8805fdbb5518") false
    row (fun _ h => by cases h) (by kernel_rfl) (fun _ h => by cases h) alphabetParses_row_tie rfl ⟨rfl, rfl⟩ (by kernel_rfl) rfl
    (fun f fn hf hfn => by
      obtain rfl : f = 5 := Option.some.inj ((show Tryd.prog.funcNamed "wordbook/wordbooklaw05.AlphabetParses" = some 5 by kernel_rfl).symm.trans hf) |>.symm
      obtain rfl : fn = Tryd.f5 := (Option.some.inj (Tryd.func5.symm.trans hfn)).symm
      exact ⟨by kernel_rfl, fun j t ht => by
        rw [Tryd.params5] at ht
        have hm : t ∈ [22, 3, 3, 3, 9] := by simpa using Array.mem_of_getElem? ht
        have hall : ([22, 3, 3, 3, 9].all fun u => !Tryd.prog.wantsStandIn u) = true := by kernel_rfl
        exact (show Tryd.prog.wantsStandIn t = false by simpa using List.all_eq_true.1 hall t hm)⟩)
    (by kernel_rfl)
end AL3
end Go.Proofs.YtolkmjgklgimpaaDoor
