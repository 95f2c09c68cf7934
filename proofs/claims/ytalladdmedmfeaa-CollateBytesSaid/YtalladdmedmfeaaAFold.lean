/-
  alphabet.Fold.
-/
import Derived.Test.YtalladdmedmfeaaAEq
namespace Go.Proofs.Ytalladdmedmfeaa
open Go.RowKit
open Alp
set_option linter.unusedVariables false
set_option linter.unusedSimpArgs false

theorem run_make_ints (n : Nat) (hn : n ≤ 1000000) (w : World) : (Instr.makeSlice 22 (.int .i64 (n : Int)) (.int .i64 (n : Int))).run Try.prog w = .ok (.slice (some ⟨w.heap.size, 0, none⟩) n n) (w.alloc (.cells (iv (List.replicate n 0)).toArray 3)) := by
  obtain ⟨i0, hi0, hz0, hz1, hz2⟩ := info_parts Try.infoInt
  have h := run_make (P := Try.prog) w 22 3 i0 _ Try.underlying22 hi0 hz0 .i64 .i64 (n : Int) (n : Int) (by omega) (Int.le_refl _) (by rw [hz2]; omega) (by omega)
  have e : madeCells (Value.int .i64 0).cells n = (iv (List.replicate n 0)).toArray := by
    apply Array.ext
    · simp [iv_length, madeCells]
    · intro i h1 h2
      simp [madeCells, iv, Value.cells, Nat.mod_one]
  rw [h, Int.toNat_natCast, hz1, Nat.mul_one, e]
/-- A list of numbers. -/
def LPost (w : World) (R : List Int) (e : Ending) (w' : World) : Prop := ∃ (A : Option Addr) (c n : Nat), e = .returned (.slice A n c) ∧ n = R.length ∧ Rd w' A (iv R) ∧ n ≤ c ∧ c ≤ maxLen ∧ Below w.heap.size w w'
theorem l_out {w w' : World} {R : List Int} {e : Ending} (h : LPost w R e w') : ∃ (A : Option Addr) (c n : Nat), e = .returned (.slice A n c) ∧ n = R.length ∧ Rd w' A (iv R) ∧ n ≤ c ∧ c ≤ maxLen ∧ Below w.heap.size w w' := h
theorem blk_rd {w : World} {g : Nat} {l : List Int} {T : TypeId} (h : Blk w g (iv l) T) : Rd w (some ⟨g, 0, none⟩) (iv l) := .inr ⟨g, 0, rfl, fun k v hv => by rw [Nat.zero_add]; exact h.cell hv⟩
def foldE (L : List Lt) (x : Int) : Int := if 0 ≤ x ∧ x < L.length then (L.getD x.toNat z).base else x
theorem foldP_yes {L : List Lt} (h : valP L = true) (w : List Int) : foldP L w = w.map (foldE L) := by unfold foldP; rw [if_pos h]; rfl
theorem foldP_no {L : List Lt} (h : valP L = false) (w : List Int) : foldP L w = w := by unfold foldP; rw [h]; rfl
/-- The list whose first k numbers are folded. -/
def foldK (L : List Lt) (ws : List Int) (k : Nat) : List Int := (ws.take k).map (foldE L) ++ ws.drop k
theorem foldK_length (L : List Lt) (ws : List Int) (k : Nat) : (foldK L ws k).length = ws.length := by simp [foldK]; omega
theorem foldK_get {L : List Lt} {ws : List Int} {k : Nat} (hk : k < ws.length) : (foldK L ws k).getD k 0 = ws.getD k 0 := by
  have hl : ((ws.take k).map (foldE L)).length = k := by simp; omega
  unfold foldK
  simp only [List.getD]
  rw [List.getElem?_append_right (by omega), hl, Nat.sub_self, List.getElem?_drop]
  simp
theorem foldK_step {L : List Lt} {ws : List Int} {k : Nat} (hk : k < ws.length) {x : Int} (hx : x = ws.getD k 0) : foldK L ws (k + 1) = (foldK L ws k).set k (foldE L x) := by
  have hl : ((ws.take k).map (foldE L)).length = k := by simp; omega
  have e1 : ws.take (k + 1) = ws.take k ++ [x] := by rw [List.take_succ_eq_append_getElem hk, hx]; simp [List.getD, hk]
  unfold foldK
  rw [e1, drop_getD hk hx, List.map_append, List.set_append, if_neg (by omega), hl, Nat.sub_self, List.set_cons_zero]
  simp
theorem foldK_same {L : List Lt} {ws : List Int} {k : Nat} (hk : k < ws.length) {x : Int} (hx : x = ws.getD k 0) (h : foldE L x = x) : foldK L ws (k + 1) = foldK L ws k := by
  rw [foldK_step hk hx, h]
  have h1 := foldK_get (L := L) hk
  rw [← hx] at h1
  have hk' : k < (foldK L ws k).length := by rw [foldK_length]; exact hk
  simp only [List.getD, List.getElem?_eq_getElem hk', Option.getD_some] at h1
  apply List.ext_getElem (by simp)
  intro i h2 h3
  rw [List.getElem_set]
  split
  · rename_i e; subst e; exact h1.symm
  · rfl
theorem iv_set (l : List Int) (k : Nat) (x : Int) : (iv l).set k (.int .i64 x) = iv (l.set k x) := by simp [iv]
set_option maxRecDepth 100000 in
set_option maxHeartbeats 2000000 in
theorem fold_aux (L : List Lt) (ws : List Int) (m : Nat) (hmn : m = ws.length) (hm2 : m ≤ 100000) (A : Option Addr) (n c : Nat) (hn : n = L.length) (hc : n ≤ c) (hm : c ≤ maxLen) (hs : ∀ l ∈ L, l.text.length ≤ maxLen) (V : Bool) (hV : V = valP L)
    (Aw : Option Addr) (cw : Nat) (hcw : m ≤ cw) (hmw : cw ≤ maxLen) (w : World) (hr : Rd w A (lv L)) (hrw : Rd w Aw (iv ws)) :
    Calls Try.prog 33 #[.slice A n c, .slice Aw m cw] w (LPost w (foldP L ws)) := by
  have hmk := fun W => run_make_ints m (by omega) W
  obtain ⟨Z, hZ⟩ : ∃ Z, Z = (iv (List.replicate m 0)).toArray := ⟨_, rfl⟩
  rw [← hZ] at hmk
  have HC : Hid (∀ W, Below w.heap.size w W → Calls Try.prog 43 #[.slice A n c] W (BoolB W V)) := Lib.hid fun W hb => valid_any L A n c hn hc hm hs V hV W (hr.below hb)
  have hm' : c ≤ 9223372036854775807 := by unfold maxLen at hm; omega
  have hmw' : cw ≤ 9223372036854775807 := by unfold maxLen at hmw; omega
  have HZ := Lib.hid hZ
  have HN := Lib.hid hn
  have HQ := Lib.hid hmn
  have HV := Lib.hid hV
  have HR := Lib.hid hr
  have HRW := Lib.hid hrw
  have HCP : Hid ((iv ws).length = Nat.min m m ∧ (0 < (iv ws).length → (some (⟨w.heap.size, 0, none⟩ : Addr)) = some ⟨w.heap.size, 0, none⟩ ∧ ∃ ad, Aw = some ad ∧ ∀ j v, (iv ws)[j]? = some v → (w.alloc (.cells Z 3)).cell? (ad.add j) = some v)) := Lib.hid ⟨by rw [iv_length, ← hmn]; exact (Nat.min_self m).symm, fun h => by
    refine ⟨rfl, ?_⟩
    obtain ⟨b, o, rfl, hc⟩ := hrw.open (by intro e; rw [e] at h; simp at h)
    refine ⟨⟨b, o, none⟩, rfl, fun j v hv => ?_⟩
    have hadd : (⟨b, o, none⟩ : Addr).add j = ⟨b, o + j, none⟩ := by unfold Addr.add; split <;> simp_all
    rw [hadd]
    have := hc j v hv
    exact (World.cell?_alloc_lt w _ ⟨b, o + j, none⟩ (World.block_lt_of_cell? w _ this)).trans this⟩
  have HFIT : Hid (0 + (iv ws).length ≤ (iv (List.replicate m 0)).length ∧ (w.alloc (.cells Z 3)).heap[w.heap.size]? = some (.cells (iv (List.replicate m 0)).toArray 3 (0, 0))) := Lib.hid ⟨by rw [iv_length, iv_length, ← hmn]; simp, by rw [hZ]; exact heap_alloc_new w _⟩
  clear hn hr hs hV hmn hrw hZ
  go_enter Try.func33, Try.ntmps33
  cases V
  · go_wp2_with (first
      | ((with_reducible refine wpList_copy_splice rfl (.tmp 11) (.tmp 12) 22 22 rfl 3 Try.underlying22 Try.sizeInt (some ⟨w.heap.size, 0, none⟩) Aw m m m cw rfl rfl w.heap.size 0 _ 3 HFIT.out.2 (iv ws) HCP.out.1 HCP.out.2 HFIT.out.1 (iv_one ws) w.heap.size w (below_a1 w _) (Nat.le_refl _) ?_); intro w2 hb2 hbel2; have HX2 : Hid (Blk w2 w.heap.size (iv ws) 3 ∧ Below w.heap.size w w2) := Lib.hid ⟨by have h := hb2.out; unfold splice at h; rw [List.take_zero, List.nil_append, List.drop_of_length_le (by rw [iv_length, iv_length, ← HQ.out]; simp), List.append_nil] at h; exact h, hbel2⟩; clear hb2 hbel2)
      | ((with_reducible refine (HC.out _ HX2.out.2).mono ?_); rintro e w3 hb1; obtain ⟨rfl, hb2⟩ := boolb_out hb1; have HX3 : Hid (Blk w3 w.heap.size (iv ws) 3 ∧ Below w.heap.size w w3) := Lib.hid ⟨HX2.out.1.below hb2 HX2.out.1.lt, below_next HX2.out.2 hb2⟩; clear hb1 hb2))
    go_ret
    rw [foldP_no HV.out.symm]
    exact ⟨_, _, _, rfl, HQ.out, blk_rd HX3.out.1, Nat.le_refl _, by unfold maxLen; omega, HX3.out.2⟩
  · have hne : L ≠ [] := by
      intro e
      have := HV.out
      rw [e] at this
      simp [valP] at this
    obtain ⟨b, o, rfl, hl⟩ := rl_open HR.out hne
    have HL := Lib.hid hl
    clear hl hne
    go_wp2_with (first
      | ((with_reducible refine wpList_copy_splice rfl (.tmp 11) (.tmp 12) 22 22 rfl 3 Try.underlying22 Try.sizeInt (some ⟨w.heap.size, 0, none⟩) Aw m m m cw rfl rfl w.heap.size 0 _ 3 HFIT.out.2 (iv ws) HCP.out.1 HCP.out.2 HFIT.out.1 (iv_one ws) w.heap.size w (below_a1 w _) (Nat.le_refl _) ?_); intro w2 hb2 hbel2; have HX2 : Hid (Blk w2 w.heap.size (iv ws) 3 ∧ Below w.heap.size w w2) := Lib.hid ⟨by have h := hb2.out; unfold splice at h; rw [List.take_zero, List.nil_append, List.drop_of_length_le (by rw [iv_length, iv_length, ← HQ.out]; simp), List.append_nil] at h; exact h, hbel2⟩; clear hb2 hbel2)
      | ((with_reducible refine (HC.out _ HX2.out.2).mono ?_); rintro e w3 hb1; obtain ⟨rfl, hb2⟩ := boolb_out hb1; have HX3 : Hid (Blk w3 w.heap.size (iv ws) 3 ∧ Below w.heap.size w w3) := Lib.hid ⟨HX2.out.1.below hb2 HX2.out.1.lt, below_next HX2.out.2 hb2⟩; clear hb1 hb2))
    go_loopg [6, 7, 20] m (fun g s6 s7 s20 wr => ∃ (k : Nat), k + g = m ∧ s20 = .int .i64 (k : Int) ∧ Hid (Blk wr w.heap.size (iv (foldK L ws k)) 3 ∧ Below w.heap.size w wr))
    case atStart => exact ⟨0, by omega, rfl, Lib.hid ⟨by simpa [foldK] using HX3.out.1, HX3.out.2⟩⟩
    case round =>
      obtain ⟨k, hk, rfl, HI⟩ := hrel
      by_cases hlt : k < m
      · obtain ⟨g, rfl⟩ : ∃ g, gk = g + 1 := ⟨gk - 1, by omega⟩
        have hkw : k < ws.length := by rw [← HQ.out]; exact hlt
        obtain ⟨x, hx⟩ : ∃ x, x = ws.getD k 0 := ⟨_, rfl⟩
        have hcx : wr.cell? ⟨w.heap.size, k, none⟩ = some (.int .i64 x) := HI.out.1.cell (by rw [iv_get (by rw [foldK_length]; exact hkw), foldK_get hkw, hx])
        have HX := Lib.hid hx
        clear hx
        by_cases h0 : 0 ≤ x ∧ x < n
        · have HH : Hid (∀ W, Calls Try.prog 53 #[.slice (some ⟨b, o, none⟩) n c, .int .i64 x] W fun e w' => e = .returned (.bool true) ∧ W = w') := Lib.hid fun W => has_any _ n c x W true (by rw [decide_eq_true h0])
          obtain ⟨i, rfl⟩ : ∃ i : Nat, x = i := ⟨x.toNat, by omega⟩
          have hin : i < n := by omega
          obtain ⟨l, hle⟩ : ∃ l, l = L.getD i z := ⟨_, rfl⟩
          have hcb : wr.cell? ⟨b, o + i * 5 + 1, none⟩ = some (.int .i64 l.base) := (HL.out.below HI.out.2).c1 (by rw [← HN.out]; exact hin) hle
          have HF : Hid (foldE L (i : Int) = l.base) := Lib.hid (by unfold foldE; rw [if_pos ⟨by omega, by rw [← HN.out]; omega⟩, Int.toNat_natCast, hle])
          clear h0 hle
          go_wp2_with (first
            | ((with_reducible refine (HH.out _).mono ?_); rintro e w4 ⟨rfl, rfl⟩)
            | (refine wpList_store_int rfl 3 (.tmp 35) (.tmp 34) rfl w.heap.size k rfl .i64 l.base rfl HI.out.1 (by rw [iv_length, foldK_length]; exact hkw) Try.sizeInt ?_; intro w5 hst; have HX5 : Hid (Blk w5 w.heap.size (iv (foldK L ws (k + 1))) 3 ∧ Below w.heap.size w w5) := Lib.hid ⟨by rw [foldK_step hkw HX.out, HF.out, ← iv_set]; exact hst.1, hst.below HI.out.2 (Nat.le_refl _)⟩; clear hst))
          go_roundg g
          case rel => exact ⟨k + 1, by omega, by go_num, HX5⟩
          case measure => omega
        · have HH : Hid (∀ W, Calls Try.prog 53 #[.slice (some ⟨b, o, none⟩) n c, .int .i64 x] W fun e w' => e = .returned (.bool false) ∧ W = w') := Lib.hid fun W => has_any _ n c x W false (by rw [decide_eq_false h0])
          have HF : Hid (foldE L x = x) := Lib.hid (by unfold foldE; rw [if_neg (by rw [← HN.out]; exact h0)])
          clear h0
          go_wp2_with ((with_reducible refine (HH.out _).mono ?_); rintro e w4 ⟨rfl, rfl⟩)
          go_roundg g
          case rel => exact ⟨k + 1, by omega, by go_num, Lib.hid ⟨by rw [foldK_same hkw HX.out HF.out]; exact HI.out.1, HI.out.2⟩⟩
          case measure => omega
      · obtain rfl : k = m := by omega
        go_wp2_with fail
        go_ret
        rw [foldP_yes HV.out.symm]
        have e : ws.map (foldE L) = foldK L ws k := by unfold foldK; rw [HQ.out, List.take_length, List.drop_length, List.append_nil]
        rw [e]
        exact ⟨_, _, _, rfl, by rw [foldK_length, ← HQ.out], blk_rd HI.out.1, Nat.le_refl _, by unfold maxLen; omega, HI.out.2⟩
end Go.Proofs.Ytalladdmedmfeaa
