/-
  The program's Print.
-/
import Derived.Test.YtolkmjgklgimpaaDoorAShelf
import Derived.Test.YtolkmjgklgimpaaDoorAMany
import Derived.Test.YtolkmjgklgimpaaDoorARound
namespace Go.Proofs.YtolkmjgklgimpaaDoor
open Go.RowKit
open Alp
set_option linter.unusedVariables false
set_option linter.unusedSimpArgs false

def nums3 (l : Lt) : List Int := [l.mark, l.cas, l.width]
def numsT (N : List Int) : B := N.flatMap fun x => 32 :: Lib.itoa x
theorem rowT_nums (L : List Lt) (l : Lt) : rowT (rowOf L l) ++ [10] = (l.text ++ [32] ++ (L.getD l.base.toNat z).text) ++ numsT (nums3 l) ++ [10] := by simp [rowT, rowOf, numsT, nums3]
theorem lib_bs (l : B) : Lib.byteCells l = bs l := by first | rfl | (unfold Lib.byteCells bs; rfl)
theorem PTab.below {w w1 : World} (h : Lib.TabBelow Tryd.prog w.heap.size w "internal/strconv.uint64pow10" .u64 Lib.pow10Tab) (hb : Below w.heap.size w w1) : Lib.TabBelow Tryd.prog w1.heap.size w1 "internal/strconv.uint64pow10" .u64 Lib.pow10Tab := fun w' h' => h w' (below_next hb h')
def PTab (w : World) : Prop := Lib.TabBelow Tryd.prog w.heap.size w "internal/strconv.uint64pow10" .u64 Lib.pow10Tab
set_option maxRecDepth 100000 in
set_option maxHeartbeats 1000000 in
theorem appendInt_any (B0 : Nat) (i : Int) (h0 : 0 ≤ i) (h1 : i ≤ 1000) (v : Value) (D : B) (hD : D.length ≤ 4000) (w0 w : World) (hB0 : B0 = w0.heap.size) (hT : PTab w0) (hb : Below B0 w0 w) (hown : w.ownsRow B0 5 1 v D.length (bs D)) : Calls Tryd.prog 44 #[v, .int .i64 i, .int .i64 10] w fun e w' => ∃ v', e = .returned v' ∧ w'.ownsRow B0 5 1 v' (D ++ Lib.itoa i).length (bs (D ++ Lib.itoa i)) ∧ Below B0 w0 w' := by
  subst hB0
  refine (Tryd.strconv_AppendInt_10 w0.heap.size D.length i (by omega) (by omega) v (bs D) w hown hb.size (by omega) (hT.on hb)).mono fun e w' h => ?_
  obtain ⟨v', he, ho, hbw, _⟩ := h
  refine ⟨v', he, ?_, hb.trans hbw⟩
  rw [List.length_append, bs_append, ← lib_bs (Lib.itoa i)]
  exact ho
set_option maxRecDepth 100000 in
set_option maxHeartbeats 4000000 in
theorem print_any (L : List Lt) (hv : valP L = true) (A : Option Addr) (n c : Nat) (hn : n = L.length) (hc : n ≤ c) (hm : c ≤ maxLen) (w : World) (hr : Rd w A (lv L)) (hT : PTab w) : Calls Tryd.prog 29 #[.slice A n c] w (TxPost w (printI L)) := by
  obtain ⟨i0, hi0, hz0, hz1, hz2⟩ := info_parts Tryd.infoByte
  have hn60 : 1 ≤ n ∧ n ≤ 60 := by have := (valP_iff L).1 hv; omega
  obtain ⟨b, o, rfl, hl⟩ := rl_open hr (by intro e; subst e; simp [valP] at hv)
  have HV : Hid (Calls Tryd.prog 36 #[.slice (some ⟨b, o, none⟩) n c] w (BoolB w true)) := Lib.hid (valid_any L _ n c hn hc hm (fun l hl => by have := (val_plain hv hl).2.1; unfold maxLen; omega) true hv.symm w hr)
  have HL := Lib.hid hl
  have HVA := Lib.hid hv
  have HN := Lib.hid hn
  have HTB : Hid (∀ W, Below w.heap.size w W → PTab W) := Lib.hid fun W hb => PTab.below hT hb
  have hc2 : c ≤ 9223372036854775807 := by unfold maxLen at hm; omega
  have e32 : (⟨#[32]⟩ : ByteArray) = tb [32] := rfl
  clear hl hr hv hn hT
  go_enter Tryd.func29, Tryd.ntmps29
  go_wp2_with ((with_reducible refine HV.out.mono ?_); rintro e w1 hp; obtain ⟨rfl, hb1⟩ := boolb_out hp; have HX1 := Lib.hid hb1; clear hp hb1)
  go_loopg [3, 5, 7, 13] n (fun g s3 s5 s7 s13 wr => ∃ (k d : Nat) (D : B), k + g = n ∧ s13 = .int .i64 (k : Int) ∧ d ≤ 50 * k ∧ Hid (wr.ownsRow w1.heap.size 5 1 s3 d (bs D) ∧ Below w1.heap.size w1 wr ∧ D = rowsT ((L.take k).map (rowOf L)) ∧ D.length = d))
  case atStart => exact ⟨0, 0, [], by omega, rfl, by omega, Lib.hid ⟨⟨rfl, .inl ⟨rfl, rfl⟩⟩, Below.refl _ _, rfl, rfl⟩⟩
  case round =>
    obtain ⟨k, d, D, hk, rfl, hd, HI⟩ := hrel
    obtain ⟨A2, c2', hvv, hrd, hmc, hm2⟩ := Rd.of_own HI.out.1
    subst hvv
    have HRD := Lib.hid hrd
    clear hrd
    by_cases hlt : k < n
    · obtain ⟨g, rfl⟩ : ∃ g, gk = g + 1 := ⟨gk - 1, by omega⟩
      have hkl : k < L.length := by rw [← HN.out]; exact hlt
      obtain ⟨l, hl⟩ : ∃ l, l = L.getD k z := ⟨_, rfl⟩
      obtain ⟨⟨hb1, hb2⟩, hm1, hm2', hm3⟩ := val_nums HVA.out hkl
      rw [← hl] at hb1 hb2 hm1 hm2' hm3
      obtain ⟨bn, hbn⟩ : ∃ bn : Nat, l.base = bn := ⟨l.base.toNat, by omega⟩
      have hbl : bn < L.length := by omega
      have hbn2 : bn < n := by rw [HN.out]; exact hbl
      obtain ⟨bt, hbt⟩ : ∃ bt, bt = (L.getD bn z).text := ⟨_, rfl⟩
      obtain ⟨x1, hx1⟩ : ∃ x, l.mark = x := ⟨_, rfl⟩
      obtain ⟨x2, hx2⟩ : ∃ x, l.cas = x := ⟨_, rfl⟩
      obtain ⟨x3, hx3⟩ : ∃ x, l.width = x := ⟨_, rfl⟩
      have HLW : Hid (RL wr b o L) := Lib.hid (HL.out.below (below_next HX1.out HI.out.2.1))
      have HRG : Hid (wr.rangeAt b (o + k * 5) (lc l)) := Lib.hid (HLW.out.range hkl hl)
      have k1 : l.text.length ≤ 4 := by rw [hl]; exact (val_plain HVA.out (getD_mem hkl)).2.1
      have k2 : bt.length ≤ 4 := by rw [hbt]; exact (val_plain HVA.out (getD_mem hbl)).2.1
      obtain ⟨c1, h1⟩ : ∃ c, c = l.text ++ [32] := ⟨_, rfl⟩
      obtain ⟨c2, h2⟩ : ∃ c, c = c1 ++ bt := ⟨_, rfl⟩
      have l1 : c1.length ≤ 5 := by rw [h1, List.length_append]; simp; omega
      have l2 : c2.length ≤ 9 := by rw [h2, List.length_append]; omega
      have f1 : tb l.text ++ tb [32] = tb c1 := by rw [h1]; exact tb_append _ _
      have f2 : tb c1 ++ tb bt = tb c2 := by rw [h2]; exact tb_append _ _
      have g1 : ¬ 9223372036854775807 < (tb l.text).size + (tb [32]).size := by rw [tb_size, tb_size]; simp; omega
      have g2 : ¬ 9223372036854775807 < (tb c1).size + (tb bt).size := by rw [tb_size, tb_size]; omega
      obtain ⟨q2, hq2⟩ : ∃ q, c2.length = q := ⟨_, rfl⟩
      have HQ2 := Lib.hid hq2
      have hq9 : q2 ≤ 9 := by omega
      have hs1 : d + q2 ≤ maxLen := by unfold maxLen; omega
      have hs2 : (d + q2) * 1 ≤ 140737488355328 := by omega
      have HST : Hid (rowsT ((L.take (k + 1)).map (rowOf L)) = D ++ c2 ++ numsT [x1, x2, x3] ++ [10]) := Lib.hid (by
        rw [List.take_succ_eq_append_getElem hkl, List.map_append, HI.out.2.2.1]
        have e : L[k] = l := by rw [hl, getD_get hkl]
        have e2 : rowsT ([L[k]].map (rowOf L)) = rowT (rowOf L l) ++ [10] := by rw [e]; simp [rowsT]
        have e3 : ∀ X Y : Alp.Rows, rowsT (X ++ Y) = rowsT X ++ rowsT Y := fun X Y => by simp [rowsT]
        rw [e3, e2, rowT_nums, nums3, hx1, hx2, hx3, h2, h1, hbt, hbn, Int.toNat_natCast]
        simp)
      have HBD : Hid (0 ≤ x1 ∧ x1 ≤ 1000 ∧ 0 ≤ x2 ∧ x2 ≤ 1000 ∧ 0 ≤ x3 ∧ x3 ≤ 1000) := Lib.hid (by omega)
      have HBC : Hid (wr.cell? ⟨b, o + bn * 5, none⟩ = some (.string (tb bt))) := Lib.hid (by rw [hbt]; exact HLW.out.c0 hbl rfl)
      have HG : Hid (∀ v' w', w'.ownsRow w1.heap.size 5 1 v' (d + q2) (bs D ++ bs c2) → (wr.alloc (.cells #[.string (tb l.text), .int .i64 l.base, .int .i64 l.mark, .int .i64 l.cas, .int .i64 l.width] 50)).drew.grownBy w' (Value.slice A2 d c2').ownBlock → w'.ownsRow w1.heap.size 5 1 v' (d + q2) (bs (D ++ c2)) ∧ Below w1.heap.size w1 w' ∧ (fun w' => w'.cell? ⟨wr.heap.size, 0, none⟩ = some (.string (tb l.text)) ∧ w'.cell? ⟨wr.heap.size, 1, none⟩ = some (.int .i64 (bn : Int)) ∧ w'.cell? ⟨b, o + bn * 5, none⟩ = some (.string (tb bt))) w' ∧ w'.cell? ⟨wr.heap.size, 2, none⟩ = some (.int .i64 x1) ∧ w'.cell? ⟨wr.heap.size, 3, none⟩ = some (.int .i64 x2) ∧ w'.cell? ⟨wr.heap.size, 4, none⟩ = some (.int .i64 x3)) := Lib.hid fun v' w' ho hg => by
        have hown := HI.out.1
        have hsz5 : (wr.alloc (.cells #[.string (tb l.text), .int .i64 l.base, .int .i64 l.mark, .int .i64 l.cas, .int .i64 l.width] 50)).drew.heap.size = wr.heap.size + 1 := World.size_alloc ..
        have hcell : ∀ j u, (lc l)[j]? = some u → (wr.alloc (.cells #[.string (tb l.text), .int .i64 l.base, .int .i64 l.mark, .int .i64 l.cas, .int .i64 l.width] 50)).drew.cell? ⟨wr.heap.size, j, none⟩ = some u := fun j u hu => (Blk.at wr (lc l) _ 50 _ rfl rfl).cell hu
        have hfar : ∀ j, w'.cell? ⟨wr.heap.size, j, none⟩ = (wr.alloc (.cells #[.string (tb l.text), .int .i64 l.base, .int .i64 l.mark, .int .i64 l.cas, .int .i64 l.width] 50)).drew.cell? ⟨wr.heap.size, j, none⟩ := fun j => hg.cell_far _ (by rw [hsz5]; show wr.heap.size < wr.heap.size + 1; omega) (fun e => Nat.lt_irrefl _ (hown.lt _ e.symm).2)
        have hbw : b < w.heap.size := HL.out.lt (by omega)
        have hfb : w'.cell? ⟨b, o + bn * 5, none⟩ = (wr.alloc (.cells #[.string (tb l.text), .int .i64 l.base, .int .i64 l.mark, .int .i64 l.cas, .int .i64 l.width] 50)).drew.cell? ⟨b, o + bn * 5, none⟩ := hg.cell_far _ (by rw [hsz5]; have := HX1.out.size; have := HI.out.2.1.size; show b < wr.heap.size + 1; omega) (fun e => by have h1 : w1.heap.size ≤ b := (hown.lt _ e.symm).1; have := HX1.out.size; omega)
        have hb5 : (wr.alloc (.cells #[.string (tb l.text), .int .i64 l.base, .int .i64 l.mark, .int .i64 l.cas, .int .i64 l.width] 50)).drew.cell? ⟨b, o + bn * 5, none⟩ = some (.string (tb bt)) := (World.cell?_alloc_lt wr _ ⟨b, o + bn * 5, none⟩ (World.block_lt_of_cell? wr _ HBC.out)).trans HBC.out
        refine ⟨by rw [bs_append]; exact ho, below_own (below_al HI.out.2.1 _).drew hg (fun g hg => (hown.lt _ hg).1), ⟨?_, ?_, hfb.trans hb5⟩, ?_, ?_, ?_⟩
        · rw [hfar]; exact hcell 0 _ rfl
        · rw [hfar, ← hbn]; exact hcell 1 _ rfl
        · rw [hfar, ← hx1]; exact hcell 2 _ rfl
        · rw [hfar, ← hx2]; exact hcell 3 _ rfl
        · rw [hfar, ← hx3]; exact hcell 4 _ rfl
      have HS0 : Hid ((fun w' => w'.cell? ⟨wr.heap.size, 0, none⟩ = some (.string (tb l.text)) ∧ w'.cell? ⟨wr.heap.size, 1, none⟩ = some (.int .i64 (bn : Int)) ∧ w'.cell? ⟨b, o + bn * 5, none⟩ = some (.string (tb bt))) (wr.alloc (.cells #[.string (tb l.text), .int .i64 l.base, .int .i64 l.mark, .int .i64 l.cas, .int .i64 l.width] 50)).drew) := Lib.hid (by
        have hcell : ∀ j u, (lc l)[j]? = some u → (wr.alloc (.cells #[.string (tb l.text), .int .i64 l.base, .int .i64 l.mark, .int .i64 l.cas, .int .i64 l.width] 50)).drew.cell? ⟨wr.heap.size, j, none⟩ = some u := fun j u hu => (Blk.at wr (lc l) _ 50 _ rfl rfl).cell hu
        exact ⟨hcell 0 _ rfl, by rw [← hbn]; exact hcell 1 _ rfl, (World.cell?_alloc_lt wr _ ⟨b, o + bn * 5, none⟩ (World.block_lt_of_cell? wr _ HBC.out)).trans HBC.out⟩)
      have HO0 : Hid ((wr.alloc (.cells #[.string (tb l.text), .int .i64 l.base, .int .i64 l.mark, .int .i64 l.cas, .int .i64 l.width] 50)).drew.ownsRow w1.heap.size 5 1 (.slice A2 d c2') d (bs D)) := Lib.hid (own_alc HI.out.1 _)
      have HB0 : Hid (Below w1.heap.size w1 (wr.alloc (.cells #[.string (tb l.text), .int .i64 l.base, .int .i64 l.mark, .int .i64 l.cas, .int .i64 l.width] 50)).drew) := Lib.hid (below_al HI.out.2.1 _).drew
      clear hl hb1 hb2 hm1 hm2' hm3 hbl hbt h1 h2 hq2 k1 k2 l1 l2 hkl hbn hx1 hx2 hx3
      go_wp2_with (refine wpList_load_lt rfl (.tmp 15) rfl b (o + k * 5) rfl l HRG.out ?_)
      refine wp_region_held_drew (S := fun w' => w'.cell? ⟨wr.heap.size, 0, none⟩ = some (.string (tb l.text)) ∧ w'.cell? ⟨wr.heap.size, 1, none⟩ = some (.int .i64 (bn : Int)) ∧ w'.cell? ⟨b, o + bn * 5, none⟩ = some (.string (tb bt))) (by kernel_rfl) (HS0.out) (fun hS0 => ?_)
      refine wpAnyH_take (i := 0) (oi := { dst := some 17, op := Op.move (Operand.tmp 3), type := 46, pos := "alphabet.go:236", after := #[], guard := none }) (v := ?_) rfl (by kernel_rfl) (by kernel_rfl) (by kernel_rfl) (fun _ _ _ h => h) (Or.inl ⟨by rfl, ?_⟩) (by assumption) ?_
      rotate_left
      · (intro w' hSw; (try dsimp only at hSw); obtain ⟨hS1, hS2, hS3⟩ := hSw; go_simp; try with_reducible rfl)
      try simp only [Act.put, List.setIfInBounds_toArray, List.set_cons_zero, List.set_cons_succ]
      refine wpAnyH_take (i := 1) (oi := { dst := some 18, op := Op.fieldAddr 50 (Operand.tmp 5) 0, type := 0, pos := "alphabet.go:236", after := #[], guard := none }) (v := ?_) rfl (by kernel_rfl) (by kernel_rfl) (by kernel_rfl) (fun _ _ _ h => h) (Or.inl ⟨by rfl, ?_⟩) (by assumption) ?_
      rotate_left
      · (intro w' hSw; (try dsimp only at hSw); obtain ⟨hS1, hS2, hS3⟩ := hSw; go_simp; try with_reducible rfl)
      try simp only [Act.put, List.setIfInBounds_toArray, List.set_cons_zero, List.set_cons_succ]
      refine wpAnyH_take (i := 2) (oi := { dst := some 19, op := Op.load 9 (Operand.tmp 18), type := 9, pos := "alphabet.go:236", after := #[{ on := 1, ground := Ground.data }], guard := none }) (v := ?_) rfl (by kernel_rfl) (by kernel_rfl) (by kernel_rfl) (fun _ _ _ h => h) (Or.inl ⟨by rfl, ?_⟩) (by assumption) ?_
      rotate_left
      · (intro w' hSw; (try dsimp only at hSw); obtain ⟨hS1, hS2, hS3⟩ := hSw; go_simp; try with_reducible rfl)
      try simp only [Act.put, List.setIfInBounds_toArray, List.set_cons_zero, List.set_cons_succ]
      refine wpAnyH_take (i := 3) (oi := { dst := some 20, op := Op.binOp BinOp.add 9 (Operand.tmp 19) (Operand.const (Value.string { data := #[32] })) 9, type := 9, pos := "alphabet.go:236", after := #[{ on := 2, ground := Ground.data }], guard := none }) (v := ?_) rfl (by kernel_rfl) (by kernel_rfl) (by kernel_rfl) (fun _ _ _ h => h) (Or.inl ⟨by rfl, ?_⟩) (by assumption) ?_
      rotate_left
      · (intro w' hSw; (try dsimp only at hSw); obtain ⟨hS1, hS2, hS3⟩ := hSw; go_simp; try with_reducible rfl)
      try simp only [Act.put, List.setIfInBounds_toArray, List.set_cons_zero, List.set_cons_succ]
      refine wpAnyH_take (i := 4) (oi := { dst := some 21, op := Op.move (Operand.tmp 0), type := 23, pos := "alphabet.go:236", after := #[], guard := none }) (v := ?_) rfl (by kernel_rfl) (by kernel_rfl) (by kernel_rfl) (fun _ _ _ h => h) (Or.inl ⟨by rfl, ?_⟩) (by assumption) ?_
      rotate_left
      · (intro w' hSw; (try dsimp only at hSw); obtain ⟨hS1, hS2, hS3⟩ := hSw; go_simp; try with_reducible rfl)
      try simp only [Act.put, List.setIfInBounds_toArray, List.set_cons_zero, List.set_cons_succ]
      refine wpAnyH_take (i := 5) (oi := { dst := some 22, op := Op.fieldAddr 50 (Operand.tmp 5) 1, type := 0, pos := "alphabet.go:236", after := #[], guard := none }) (v := ?_) rfl (by kernel_rfl) (by kernel_rfl) (by kernel_rfl) (fun _ _ _ h => h) (Or.inl ⟨by rfl, ?_⟩) (by assumption) ?_
      rotate_left
      · (intro w' hSw; (try dsimp only at hSw); obtain ⟨hS1, hS2, hS3⟩ := hSw; go_simp; try with_reducible rfl)
      try simp only [Act.put, List.setIfInBounds_toArray, List.set_cons_zero, List.set_cons_succ]
      refine wpAnyH_take (i := 6) (oi := { dst := some 23, op := Op.load 3 (Operand.tmp 22), type := 3, pos := "alphabet.go:236", after := #[{ on := 5, ground := Ground.data }], guard := none }) (v := ?_) rfl (by kernel_rfl) (by kernel_rfl) (by kernel_rfl) (fun _ _ _ h => h) (Or.inl ⟨by rfl, ?_⟩) (by assumption) ?_
      rotate_left
      · (intro w' hSw; (try dsimp only at hSw); obtain ⟨hS1, hS2, hS3⟩ := hSw; go_simp; try with_reducible rfl)
      try simp only [Act.put, List.setIfInBounds_toArray, List.set_cons_zero, List.set_cons_succ]
      refine wpAnyH_take (i := 7) (oi := { dst := some 24, op := Op.indexAddr 23 (Operand.tmp 21) (Operand.tmp 23), type := 0, pos := "alphabet.go:236", after := #[{ on := 4, ground := Ground.data }, { on := 6, ground := Ground.data }], guard := none }) (v := ?_) rfl (by kernel_rfl) (by kernel_rfl) (by kernel_rfl) (fun _ _ _ h => h) (Or.inl ⟨by rfl, ?_⟩) (by assumption) ?_
      rotate_left
      · (intro w' hSw; (try dsimp only at hSw); obtain ⟨hS1, hS2, hS3⟩ := hSw; go_simp; try with_reducible rfl)
      try simp only [Act.put, List.setIfInBounds_toArray, List.set_cons_zero, List.set_cons_succ]
      refine wpAnyH_take (i := 8) (oi := { dst := some 25, op := Op.fieldAddr 50 (Operand.tmp 24) 0, type := 0, pos := "alphabet.go:236", after := #[{ on := 7, ground := Ground.data }], guard := none }) (v := ?_) rfl (by kernel_rfl) (by kernel_rfl) (by kernel_rfl) (fun _ _ _ h => h) (Or.inl ⟨by rfl, ?_⟩) (by assumption) ?_
      rotate_left
      · (intro w' hSw; (try dsimp only at hSw); obtain ⟨hS1, hS2, hS3⟩ := hSw; go_simp; try with_reducible rfl)
      try simp only [Act.put, List.setIfInBounds_toArray, List.set_cons_zero, List.set_cons_succ]
      refine wpAnyH_take (i := 9) (oi := { dst := some 26, op := Op.load 9 (Operand.tmp 25), type := 9, pos := "alphabet.go:236", after := #[{ on := 8, ground := Ground.data }], guard := none }) (v := ?_) rfl (by kernel_rfl) (by kernel_rfl) (by kernel_rfl) (fun _ _ _ h => h) (Or.inl ⟨by rfl, ?_⟩) (by assumption) ?_
      rotate_left
      · (intro w' hSw; (try dsimp only at hSw); obtain ⟨hS1, hS2, hS3⟩ := hSw; go_simp; try with_reducible rfl)
      try simp only [Act.put, List.setIfInBounds_toArray, List.set_cons_zero, List.set_cons_succ]
      refine wpAnyH_take (i := 10) (oi := { dst := some 27, op := Op.binOp BinOp.add 9 (Operand.tmp 20) (Operand.tmp 26) 9, type := 9, pos := "alphabet.go:236", after := #[{ on := 3, ground := Ground.data }, { on := 9, ground := Ground.data }], guard := none }) (v := ?_) rfl (by kernel_rfl) (by kernel_rfl) (by kernel_rfl) (fun _ _ _ h => h) (Or.inl ⟨by rfl, ?_⟩) (by assumption) ?_
      rotate_left
      · (intro w' hSw; (try dsimp only at hSw); obtain ⟨hS1, hS2, hS3⟩ := hSw; go_simp; try with_reducible rfl)
      try simp only [Act.put, List.setIfInBounds_toArray, List.set_cons_zero, List.set_cons_succ]
      refine wpAnyH_ready (rs := [11]) (by kernel_rfl) (by simp) ?_
      refine AllReadyH.cons (o := { dst := some 28, op := Op.call { callee := Callee.builtin Builtin.append, args := #[Operand.tmp 17, Operand.tmp 27], argTypes := #[46, 9] }, type := 46, pos := "alphabet.go:236", after := #[{ on := 0, ground := Ground.data }, { on := 10, ground := Ground.data }], guard := none }) rfl (fun K hK => ?_) AllReadyH.nil
      refine step_own rfl (.tmp 17) (.tmp 27) 46 9 rfl w1.heap.size 5 i0 _ 1 1 Tryd.underlying46 hi0 hz0 hz1 hz2 rfl _ _ _ rfl HO0.out _ q2 (bs c2) rfl ?_ hs1 hs2 HB0.out.size ?_
      · rw [hz1]
        have h : ∀ W : World, Src Tryd.prog 1 9 (.string (tb c2)) q2 (bs c2) W := fun W => by
          have h := Src.ofString (w := W) Tryd.underlying9 (tb c2)
          rw [tb_size, HQ2.out] at h
          exact h
        exact h _
      intro v4 w4 hown4 hg4 hat4
      have HX4 := Lib.hid (HG.out v4 w4 hown4 hg4)
      clear hown4 hg4 hat4
      refine hK.out _ _ HX4.out.2.2.1 (fun _ => ?_)
      clear hK K hS0
      try simp only [Act.put, List.setIfInBounds_toArray, List.set_cons_zero, List.set_cons_succ]
      refine wpAnyH_take (i := 12) (oi := { dst := some 3, op := Op.assign (Operand.tmp 28), type := 46, pos := "alphabet.go:236", after := #[{ on := 11, ground := Ground.data }, { on := 11, ground := Ground.chain }, { on := 0, ground := Ground.phase }, { on := 1, ground := Ground.phase }, { on := 2, ground := Ground.phase }, { on := 3, ground := Ground.phase }, { on := 4, ground := Ground.phase }, { on := 5, ground := Ground.phase }, { on := 6, ground := Ground.phase }, { on := 7, ground := Ground.phase }, { on := 8, ground := Ground.phase }, { on := 9, ground := Ground.phase }, { on := 10, ground := Ground.phase }, { on := 11, ground := Ground.phase }], guard := none }) (v := ?_) rfl (by kernel_rfl) (by kernel_rfl) (by kernel_rfl) (fun _ _ _ h => h) (Or.inl ⟨by rfl, ?_⟩) (by assumption) ?_
      rotate_left
      · (intro w' hSw; (try dsimp only at hSw); obtain ⟨hS1, hS2, hS3⟩ := hSw; go_simp; try with_reducible rfl)
      try simp only [Act.put, List.setIfInBounds_toArray, List.set_cons_zero, List.set_cons_succ]
      refine wpAnyH_done (by kernel_rfl) ?_ _

      have hcm := HX4.out.2.2.2.1
      have hcc := HX4.out.2.2.2.2.1
      have hcw := HX4.out.2.2.2.2.2
      obtain ⟨E0, hE0⟩ : ∃ E, E = D ++ c2 := ⟨_, rfl⟩
      obtain ⟨A4, c4, hv4, _, hmc4, hm4⟩ := Rd.of_own HX4.out.1
      subst hv4
      have HE0 : Hid (E0 = D ++ c2 ∧ w4.ownsRow w1.heap.size 5 1 (.slice A4 (d + q2) c4) (d + q2) (bs E0) ∧ E0.length = d + q2) := Lib.hid ⟨hE0, by rw [hE0]; exact HX4.out.1, by rw [hE0, List.length_append, HQ2.out, HI.out.2.2.2]⟩
      clear hE0
      go_wp2_with fail
      go_loopg [3, 7, 36] 3 (fun g s3 s7 s36 wx => ∃ (j e : Nat) (E : B), j + g = 3 ∧ s36 = .int .i64 (j : Int) ∧ e ≤ d + q2 + 5 * j ∧ Hid (wx.ownsRow w1.heap.size 5 1 s3 e (bs E) ∧ Below w1.heap.size w1 wx ∧ E = E0 ++ numsT ([x1, x2, x3].take j) ∧ E.length = e))
      case atStart => exact ⟨0, d + q2, E0, by omega, rfl, by omega, Lib.hid ⟨HE0.out.2.1, HX4.out.2.1, by simp [numsT], HE0.out.2.2⟩⟩
      case round =>
        obtain ⟨j, e, E, hj, rfl, he, HJ⟩ := hrel
        obtain ⟨A6, c6, hv6, _, hmc6, hm6⟩ := Rd.of_own HJ.out.1
        subst hv6
        by_cases hj3 : j < 3
        · obtain ⟨g2, rfl⟩ : ∃ g, gk = g + 1 := ⟨gk - 1, by omega⟩
          obtain ⟨x, hx⟩ : ∃ x, x = [x1, x2, x3].getD j 0 := ⟨_, rfl⟩
          have HX : Hid (0 ≤ x ∧ x ≤ 1000 ∧ numsT ([x1, x2, x3].take (j + 1)) = numsT ([x1, x2, x3].take j) ++ 32 :: Lib.itoa x) := Lib.hid (by
            have hb := HBD.out
            have h3 : j = 0 ∨ j = 1 ∨ j = 2 := by omega
            rcases h3 with rfl | rfl | rfl <;> (rw [hx]; refine ⟨?_, ?_, ?_⟩ <;> simp [numsT, List.getD] <;> omega))
          have hs3 : e + 1 ≤ maxLen := by unfold maxLen; omega
          have hs4 : (e + 1) * 1 ≤ 140737488355328 := by omega
          have HAI : Hid (∀ W v, W.ownsRow w1.heap.size 5 1 v (e + 1) (bs (E ++ [32])) → Below w1.heap.size w1 W → Calls Tryd.prog 44 #[v, .int .i64 x, .int .i64 10] W fun e' w' => ∃ v', e' = .returned v' ∧ w'.ownsRow w1.heap.size 5 1 v' ((E ++ [32]) ++ Lib.itoa x).length (bs ((E ++ [32]) ++ Lib.itoa x)) ∧ Below w1.heap.size w1 w') := Lib.hid fun W v ho hb => by
            have hl : (E ++ [32]).length = e + 1 := by rw [List.length_append, HJ.out.2.2.2]; rfl
            exact appendInt_any w1.heap.size x HX.out.1 HX.out.2.1 v (E ++ [32]) (by omega) w1 W rfl (HTB.out w1 HX1.out) hb (by rw [hl]; exact ho)
          have hix : #[Value.int .i64 x1, .int .i64 x2, .int .i64 x3][j]? = some (.int .i64 x) := by
            have h3 : j = 0 ∨ j = 1 ∨ j = 2 := by omega
            rcases h3 with rfl | rfl | rfl <;> (rw [hx]; rfl)
          have h3 : j = 0 ∨ j = 1 ∨ j = 2 := by omega
          have HIX := Lib.hid hix
          have HXX := Lib.hid hx
          clear hx hix
          rcases h3 with h3 | h3 | h3
          · subst h3
            obtain rfl : x1 = x := by have := HXX.out; simpa [List.getD] using this.symm
            have hxi : ∀ W : World, (Instr.index 67 (.agg #[.int .i64 x1, .int .i64 x2, .int .i64 x3]) (.int .i64 0)).run Tryd.prog W = .ok (.int .i64 x1) W := fun W => index_val Tryd.underlying67 Tryd.sizeInt (fun w => by kernel_rfl) _ .i64 0 (by omega) _ rfl W
            go_wp2_with (first
              | (at_builtin; refine wpList_own_src rfl (.tmp 39) (.tmp 40) 46 46 rfl w1.heap.size 5 i0 _ 1 1 Tryd.underlying46 hi0 hz0 hz1 hz2 rfl _ _ _ rfl (own_alc HJ.out.1 _) _ 1 [.int .u8 32] rfl (src_one Tryd.underlying46 hz1 _ _ _ rfl) hs3 hs4 (below_al HJ.out.2.1 _).size ?_; intro v7 w7 hown7 hg7 hat7; have HX7 : Hid (w7.ownsRow w1.heap.size 5 1 v7 (e + 1) (bs (E ++ [32])) ∧ Below w1.heap.size w1 w7) := Lib.hid ⟨by rw [bs_append]; exact hown7, below_own (below_al HJ.out.2.1 _) hg7 (fun g hg => (HJ.out.1.lt _ hg).1)⟩; clear hown7 hg7 hat7)
              | ((with_reducible refine (HAI.out _ _ HX7.out.1 HX7.out.2).mono ?_); rintro e8 w8 ⟨v8, rfl, ho8, hb8⟩; have HX8 := Lib.hid (And.intro ho8 hb8); clear ho8 hb8))
            go_roundg g2
            case rel => exact ⟨0 + 1, _, (E ++ [32]) ++ Lib.itoa x1, by omega, by go_num, by have := (itoa_ok HX.out.1 HX.out.2.1).2.2; have := HJ.out.2.2.2; simp only [List.length_append, List.length_singleton]; omega, Lib.hid ⟨HX8.out.1, HX8.out.2, by rw [HX.out.2.2, HJ.out.2.2.1]; simp, rfl⟩⟩
            case measure => omega
          · subst h3
            obtain rfl : x2 = x := by have := HXX.out; simpa [List.getD] using this.symm
            have hxi : ∀ W : World, (Instr.index 67 (.agg #[.int .i64 x1, .int .i64 x2, .int .i64 x3]) (.int .i64 1)).run Tryd.prog W = .ok (.int .i64 x2) W := fun W => index_val Tryd.underlying67 Tryd.sizeInt (fun w => by kernel_rfl) _ .i64 1 (by omega) _ rfl W
            go_wp2_with (first
              | (at_builtin; refine wpList_own_src rfl (.tmp 39) (.tmp 40) 46 46 rfl w1.heap.size 5 i0 _ 1 1 Tryd.underlying46 hi0 hz0 hz1 hz2 rfl _ _ _ rfl (own_alc HJ.out.1 _) _ 1 [.int .u8 32] rfl (src_one Tryd.underlying46 hz1 _ _ _ rfl) hs3 hs4 (below_al HJ.out.2.1 _).size ?_; intro v7 w7 hown7 hg7 hat7; have HX7 : Hid (w7.ownsRow w1.heap.size 5 1 v7 (e + 1) (bs (E ++ [32])) ∧ Below w1.heap.size w1 w7) := Lib.hid ⟨by rw [bs_append]; exact hown7, below_own (below_al HJ.out.2.1 _) hg7 (fun g hg => (HJ.out.1.lt _ hg).1)⟩; clear hown7 hg7 hat7)
              | ((with_reducible refine (HAI.out _ _ HX7.out.1 HX7.out.2).mono ?_); rintro e8 w8 ⟨v8, rfl, ho8, hb8⟩; have HX8 := Lib.hid (And.intro ho8 hb8); clear ho8 hb8))
            go_roundg g2
            case rel => exact ⟨1 + 1, _, (E ++ [32]) ++ Lib.itoa x2, by omega, by go_num, by have := (itoa_ok HX.out.1 HX.out.2.1).2.2; have := HJ.out.2.2.2; simp only [List.length_append, List.length_singleton]; omega, Lib.hid ⟨HX8.out.1, HX8.out.2, by rw [HX.out.2.2, HJ.out.2.2.1]; simp, rfl⟩⟩
            case measure => omega
          · subst h3
            obtain rfl : x3 = x := by have := HXX.out; simpa [List.getD] using this.symm
            have hxi : ∀ W : World, (Instr.index 67 (.agg #[.int .i64 x1, .int .i64 x2, .int .i64 x3]) (.int .i64 2)).run Tryd.prog W = .ok (.int .i64 x3) W := fun W => index_val Tryd.underlying67 Tryd.sizeInt (fun w => by kernel_rfl) _ .i64 2 (by omega) _ rfl W
            go_wp2_with (first
              | (at_builtin; refine wpList_own_src rfl (.tmp 39) (.tmp 40) 46 46 rfl w1.heap.size 5 i0 _ 1 1 Tryd.underlying46 hi0 hz0 hz1 hz2 rfl _ _ _ rfl (own_alc HJ.out.1 _) _ 1 [.int .u8 32] rfl (src_one Tryd.underlying46 hz1 _ _ _ rfl) hs3 hs4 (below_al HJ.out.2.1 _).size ?_; intro v7 w7 hown7 hg7 hat7; have HX7 : Hid (w7.ownsRow w1.heap.size 5 1 v7 (e + 1) (bs (E ++ [32])) ∧ Below w1.heap.size w1 w7) := Lib.hid ⟨by rw [bs_append]; exact hown7, below_own (below_al HJ.out.2.1 _) hg7 (fun g hg => (HJ.out.1.lt _ hg).1)⟩; clear hown7 hg7 hat7)
              | ((with_reducible refine (HAI.out _ _ HX7.out.1 HX7.out.2).mono ?_); rintro e8 w8 ⟨v8, rfl, ho8, hb8⟩; have HX8 := Lib.hid (And.intro ho8 hb8); clear ho8 hb8))
            go_roundg g2
            case rel => exact ⟨2 + 1, _, (E ++ [32]) ++ Lib.itoa x3, by omega, by go_num, by have := (itoa_ok HX.out.1 HX.out.2.1).2.2; have := HJ.out.2.2.2; simp only [List.length_append, List.length_singleton]; omega, Lib.hid ⟨HX8.out.1, HX8.out.2, by rw [HX.out.2.2, HJ.out.2.2.1]; simp, rfl⟩⟩
            case measure => omega
        · obtain rfl : j = 3 := by omega
          have hs3 : e + 1 ≤ maxLen := by unfold maxLen; omega
          have hs4 : (e + 1) * 1 ≤ 140737488355328 := by omega
          go_wp2_with (at_builtin; refine wpList_own_src rfl (.tmp 45) (.tmp 46) 46 46 rfl w1.heap.size 5 i0 _ 1 1 Tryd.underlying46 hi0 hz0 hz1 hz2 rfl _ _ _ rfl (own_alc HJ.out.1 _) _ 1 [.int .u8 10] rfl (src_one Tryd.underlying46 hz1 _ _ _ rfl) hs3 hs4 (below_al HJ.out.2.1 _).size ?_; intro v7 w7 hown7 hg7 hat7; have HX7 : Hid (w7.ownsRow w1.heap.size 5 1 v7 (e + 1) (bs (E ++ [10])) ∧ Below w1.heap.size w1 w7) := Lib.hid ⟨by rw [bs_append]; exact hown7, below_own (below_al HJ.out.2.1 _) hg7 (fun g hg => (HJ.out.1.lt _ hg).1)⟩; clear hown7 hg7 hat7)
          go_roundg g
          case rel => exact ⟨k + 1, e + 1, E ++ [10], by omega, by go_num, by omega, Lib.hid ⟨HX7.out.1, HX7.out.2, by rw [HST.out, HJ.out.2.2.1, HE0.out.1]; simp, by rw [List.length_append, HJ.out.2.2.2]; rfl⟩⟩
          case measure => omega
    · obtain rfl : k = n := by omega
      have HE : Hid (D = printI L) := Lib.hid (by rw [HI.out.2.2.1, HN.out, List.take_length]; rfl)
      have hcv : (convert 46 9 (.slice A2 d c2')).run Tryd.prog wr = .ok (.string (tb (printI L))) wr := by
        have := conv_rd (l := D) Tryd.underlying46 Tryd.underlying5 Tryd.underlying9 HRD.out c2'
        rw [HI.out.2.2.2, HE.out] at this
        exact this
      have HF : Hid (Below w.heap.size w wr) := Lib.hid (below_next HX1.out HI.out.2.1)
      go_wp2_with fail
      go_ret
      exact ⟨rfl, HF.out⟩
end Go.Proofs.YtolkmjgklgimpaaDoor
