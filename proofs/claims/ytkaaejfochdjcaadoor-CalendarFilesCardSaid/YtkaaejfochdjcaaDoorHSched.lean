/-
  The walk of hash.schedule.
-/
import Derived.Test.YtkaaejfochdjcaaDoorHMem
import Derived.Test.YtkaaejfochdjcaaDoorHPure
import Derived.StillTailTactics
namespace Go.Proofs.YtkaaejfochdjcaaDoor
open Go.RowKit
open Sha
set_option linter.unusedVariables false

def SI (b : List UInt8) (w : World) (L : List U) (wr : World) : Prop := Blk wr w.heap.size (bs b) 84 ∧ Blk wr (w.heap.size + 1 + 1) (wvs L) 119 ∧ Below w.heap.size w wr
theorem shl8 (x : U) (c : UInt8) : bits .or .u32 ((x.toNat : Int) * 256 % 4294967296) (c.toNat : Int) = ((UInt32.ofNat ((x.toNat * 256 % 2 ^ 32) ||| c.toNat)).toNat : Int) := by
  have := c.toNat_lt
  rw [show (x.toNat : Int) * 256 % 4294967296 = ((x.toNat * 256 % 4294967296 : Nat) : Int) from by omega, or_nat _ _ (Nat.mod_lt _ (by omega)) (by omega)]

theorem sum4 (x y z v : U) : ((x.toNat : Int) + (y.toNat : Int) + (z.toNat : Int) + (v.toNat : Int)) % 4294967296 = ((x + y + z + v).toNat : Int) := by
  rw [UInt32.toNat_add, UInt32.toNat_add, UInt32.toNat_add]
  omega
theorem Tryd.size54 : (Tryd.prog.info? 119).map (·.size) = some 64 := by kernel_rfl
theorem Tryd.size1 : (Tryd.prog.info? 5).map (·.size) = some 1 := by kernel_rfl

theorem below_drewN {n : Nat} {w w' : World} (h : Below n w w') (a : Nat) : Below n w (w'.drewN a) := ⟨h.os, h.tape, h.output, h.size, h.block⟩
theorem SI.drewN {b : List UInt8} {w wr : World} {L : List U} (h : SI b w L wr) (a : Nat) : SI b w L (wr.drewN a) := ⟨h.1, h.2.1, below_drewN h.2.2 a⟩
theorem SI.drew {b : List UInt8} {w wr : World} {L : List U} (h : SI b w L wr) : SI b w L wr.drew := ⟨h.1, h.2.1, h.2.2.drew⟩
theorem SI.set {b : List UInt8} {w wr : World} {L : List U} (h : SI b w L wr) (t : Nat) (x : U) : SI b w (L.set t x) (wr.setCell ⟨w.heap.size + 1 + 1, t, none⟩ (.int .u32 x.toNat)) := by
  refine ⟨h.1.set_other _ _ (by show w.heap.size ≠ w.heap.size + 1 + 1; omega), ?_, h.2.2.setCell (by simp; omega) _⟩
  have := h.2.1.set t (.int .u32 x.toNat)
  rw [wvs_set] at this
  exact this
theorem SI.step {b : List UInt8} {w wr : World} {k j : Nat} {p : U} {c : UInt8} (h : SI b w ((W0 b k).set k p) wr) (hp : p = pw ((b.drop (4 * k)).take j)) (hc : c = b.getD (4 * k + j) 0) (hj : 4 * k + j < b.length) :
    SI b w ((W0 b k).set k (pw ((b.drop (4 * k)).take (j + 1)))) (wr.setCell ⟨w.heap.size + 1 + 1, k, none⟩ (.int .u32 (bits .or .u32 ((p.toNat : Int) * 256 % 4294967296) ((c.toNat : Int) % 4294967296)))) := by
  have hct := c.toNat_lt
  have e : (c.toNat : Int) % 4294967296 = (c.toNat : Int) := by omega
  have e2 : (b.drop (4 * k)).take (j + 1) = (b.drop (4 * k)).take j ++ [c] := by
    rw [List.take_succ_eq_append_getElem (by simp; omega), hc]
    simp [hj]
  rw [e, shl8, e2, pw_snoc, ← hp]
  refine ⟨h.1.set_other _ _ (by show w.heap.size ≠ w.heap.size + 1 + 1; omega), ?_, h.2.2.setCell (by simp; omega) _⟩
  have := h.2.1.set k (.int .u32 (UInt32.ofNat ((p.toNat * 256 % 2 ^ 32) ||| c.toNat)).toNat)
  rw [wvs_set, List.set_set] at this
  exact this

set_option maxRecDepth 100000 in
set_option maxHeartbeats 1000000 in
theorem sched_any (b : List UInt8) (hb : b.length = 64) (w : World) :
    Calls Tryd.prog 86 #[.agg (bs b).toArray] w fun e w' => e = .returned (.agg (wvs (sched b)).toArray) ∧ Below w.heap.size w w' := by
  have HB := Lib.hid hb; clear hb
  go_enter Tryd.func86, Tryd.ntmps86
  go_wp2
  go_loopg [10] 16 (fun g s10 wr => ∃ k : Nat, k + g = 16 ∧ s10 = .int .i64 k ∧ SI b w (W0 b k) wr ∧ Blk wr (w.heap.size + 1) (wvs (List.replicate 64 0)) 119)
  case atStart => exact ⟨0, rfl, rfl, ⟨((Blk.new' _ _ _ _ rfl).alloc _).alloc _, by
    have := Blk.new' ((w.alloc (.cells (bs b).toArray 84)).alloc (.cells (wvs (W0 b 0)).toArray 119)) (wvs (W0 b 0)) _ 119 rfl
    simp only [World.size_alloc] at this
    exact this, (((Below.refl _ _).alloc (Nat.le_refl _) _).alloc (by simp) _).alloc (by simp; omega) _⟩, by
    have := (Blk.new' (w.alloc (.cells (bs b).toArray 84)) (wvs (List.replicate 64 0)) _ 119 rfl).alloc (.cells (wvs (W0 b 0)).toArray 119)
    simp only [World.size_alloc] at this
    exact this⟩
  case round =>
    obtain ⟨k, hk, rfl, hS, hZ⟩ := hrel
    have HZ := Lib.hid hZ; clear hZ
    by_cases hlt : k < 16
    · have HS := Lib.hid hS; clear hS
      obtain ⟨g, rfl⟩ : ∃ g, gk = g + 1 := ⟨gk - 1, by omega⟩
      have hsl := fun w' => slice_arr (P := Tryd.prog) (t := 84) Tryd.underlying84 Tryd.size1 w.heap.size 0 (4 * k) (4 * k + 4) (by omega) (by omega) (by omega) .i64 .i64 (4 * (k : Int)) (4 * (k : Int) + 4) (by omega) (by omega) w'
      simp only [Nat.zero_add, Nat.add_sub_cancel_left] at hsl
      go_wp2
      go_loopg [20] 4 (fun g s20 wr' => ∃ j : Nat, j + g = 4 ∧ s20 = .int .i64 j ∧ SI b w ((W0 b k).set k (pw ((b.drop (4 * k)).take j))) wr' ∧ Blk wr' (w.heap.size + 1) (wvs (List.replicate 64 0)) 119)
      case atStart => exact ⟨0, rfl, rfl, by
        have := HS.out
        rw [List.take_zero, show pw [] = 0 from rfl, W0_zero _ _ (by omega)]
        exact this, HZ.out⟩
      case round =>
        clear HZ
        obtain ⟨j, hj, rfl, hS2, hZ⟩ := hrel
        have HZ := Lib.hid hZ; clear hZ
        by_cases hlj : j < 4
        · have hl := HB.out
          obtain ⟨g, rfl⟩ : ∃ g, gk = g + 1 := ⟨gk - 1, by omega⟩
          obtain ⟨p, hp⟩ : ∃ p, p = pw ((b.drop (4 * k)).take j) := ⟨_, rfl⟩
          obtain ⟨c, hc⟩ : ∃ c, c = b.getD (4 * k + j) 0 := ⟨_, rfl⟩
          rw [← hp] at hS2
          have hc1 := hS2.1.cell (bs_getD b (4 * k + j) (by omega))
          have hc2 := hS2.2.1.cell (wvs_get _ k (by simp; rw [W0_length _ _ (by omega)]; omega))
          have hf := hS2.2.1.frozen k
          rw [← hc] at hc1
          rw [show ((W0 b k).set k p).getD k 0 = p from by have := W0_length b k (by omega); simp [List.getD, this, (by omega : k < 64)]] at hc2
          have HN := Lib.hid (hS2.step hp hc (by omega))
          clear hl hS2 hp hc
          go_wp2
          go_roundg g
          case rel => exact ⟨j + 1, by omega, by go_num, HN.out, HZ.out.set_other _ _ (by simp)⟩
          case measure => omega
        · obtain rfl : j = 4 := by omega
          have hN : SI b w (W0 b (k + 1)) wr := by
            have := hS2
            rw [show pw ((b.drop (4 * k)).take 4) = word b k from rfl, W0_set _ _ (by omega)] at this
            exact this
          have HN := Lib.hid hN; clear hN hS2
          go_wp2
          go_roundg g
          case rel => exact ⟨k + 1, by omega, by go_num, HN.out, HZ.out⟩
          case measure => omega
    · obtain rfl : k = 16 := by omega
      have HS := Lib.hid hS; clear hS
      go_wp2
      go_loopg [7] 48 (fun g s7 wr => ∃ k : Nat, k + g = 48 ∧ s7 = .int .i64 ((16 + k : Nat) : Int) ∧ SI b w (exts k (W0 b 16)) wr ∧ Blk wr (w.heap.size + 1) (wvs (List.replicate 64 0)) 119)
      case atStart => exact ⟨0, rfl, rfl, by rw [exts]; exact HS.out, HZ.out⟩
      case round =>
        clear HS HZ
        obtain ⟨k, hk, rfl, hS, hZ⟩ := hrel
        have HZ := Lib.hid hZ; clear hZ
        by_cases hlt : k < 48
        · obtain ⟨g, rfl⟩ : ∃ g, gk = g + 1 := ⟨gk - 1, by omega⟩
          obtain ⟨L, hL⟩ : ∃ L, L = exts k (W0 b 16) := ⟨_, rfl⟩
          have hLl : L.length = 64 := by rw [hL, exts_length, W0_length _ _ (by omega)]
          rw [← hL] at hS
          obtain ⟨t, ht⟩ : ∃ t, t = 16 + k := ⟨_, rfl⟩
          rw [← ht]
          have hc2 := hS.2.1.cell (wvs_get _ (t - 2) (by omega))
          have hc7 := hS.2.1.cell (wvs_get _ (t - 7) (by omega))
          have hc15 := hS.2.1.cell (wvs_get _ (t - 15) (by omega))
          have hc16 := hS.2.1.cell (wvs_get _ (t - 16) (by omega))
          have hct := hS.2.1.cell (wvs_get _ t (by omega))
          have hf := hS.2.1.frozen t
          have ht1 : 16 ≤ t := by omega
          have ht2 : t < 64 := by omega
          have HS := Lib.hid hS; clear hS
          have HL := Lib.hid hL; clear hL
          have HT := Lib.hid ht; clear ht
          clear hLl
          have i2 : IntKind.i64.wrap ((t : Int) - 2) = (t : Int) - 2 := IntWalk.i64_in _ (by omega)
          have i7 : IntKind.i64.wrap ((t : Int) - 7) = (t : Int) - 7 := IntWalk.i64_in _ (by omega)
          have i15 : IntKind.i64.wrap ((t : Int) - 15) = (t : Int) - 15 := IntWalk.i64_in _ (by omega)
          have i16 : IntKind.i64.wrap ((t : Int) - 16) = (t : Int) - 16 := IntWalk.i64_in _ (by omega)
          have n2 : ((t : Int) - 2).toNat = t - 2 := by omega
          have n7 : ((t : Int) - 7).toNat = t - 7 := by omega
          have n15 : ((t : Int) - 15).toNat = t - 15 := by omega
          have n16 : ((t : Int) - 16).toNat = t - 16 := by omega
          have p2 : 0 ≤ (t : Int) - 2 ∧ (t : Int) - 2 < 64 := by omega
          have p7 : 0 ≤ (t : Int) - 7 ∧ (t : Int) - 7 < 64 := by omega
          have p15 : 0 ≤ (t : Int) - 15 ∧ (t : Int) - 15 < 64 := by omega
          have p16 : 0 ≤ (t : Int) - 16 ∧ (t : Int) - 16 < 64 := by omega
          obtain ⟨x2, hx2⟩ : ∃ x, x = L.getD (t - 2) 0 := ⟨_, rfl⟩
          obtain ⟨x7, hx7⟩ : ∃ x, x = L.getD (t - 7) 0 := ⟨_, rfl⟩
          obtain ⟨x15, hx15⟩ : ∃ x, x = L.getD (t - 15) 0 := ⟨_, rfl⟩
          obtain ⟨x16, hx16⟩ : ∃ x, x = L.getD (t - 16) 0 := ⟨_, rfl⟩
          rw [← hx2] at hc2
          rw [← hx7] at hc7
          rw [← hx15] at hc15
          rw [← hx16] at hc16
          have HX : Hid (x2 = L.getD (t - 2) 0 ∧ x7 = L.getD (t - 7) 0 ∧ x15 = L.getD (t - 15) 0 ∧ x16 = L.getD (t - 16) 0) := Lib.hid ⟨hx2, hx7, hx15, hx16⟩
          clear hx2 hx7 hx15 hx16
          have HW := And.intro i2 (And.intro i7 (And.intro i15 i16))
          have HWW := Lib.hid HW
          clear HW
          go_wp2
          have hs0 : bits .xor .u32 (bits .xor .u32 ((rr x15 7).toNat : Int) ((rr x15 18).toNat : Int)) ((x15.toNat : Int) / 8) = ((Sha.s0 x15).toNat : Int) := by
            rw [xor_w, show ((x15.toNat : Int) / 8) = ((sr x15 3).toNat : Int) from sr_w x15 3, xor_w]
            rfl
          have hs1 : bits .xor .u32 (bits .xor .u32 ((rr x2 17).toNat : Int) ((rr x2 19).toNat : Int)) ((x2.toNat : Int) / 1024) = ((Sha.s1 x2).toNat : Int) := by
            rw [xor_w, show ((x2.toNat : Int) / 1024) = ((sr x2 10).toNat : Int) from sr_w x2 10, xor_w]
            rfl
          go_quiet ((go_at_call 87; (first | (refine quiet_one (fun W => rotr_q _ 7 _ ?_ (by omega) (by omega) W); rfl) | (refine quiet_one (fun W => rotr_q _ 18 _ ?_ (by omega) (by omega) W); rfl))))
          go_wp2
          go_quiet ((go_at_call 87; (first | (refine quiet_more (fun W => rotr_q _ 17 _ ?_ (by omega) (by omega) W); rfl) | (refine quiet_more (fun W => rotr_q _ 19 _ ?_ (by omega) (by omega) W); rfl))))
          go_wp2
          rename_i n1
          obtain ⟨y0, hy0⟩ : ∃ y, y = Sha.s0 x15 := ⟨_, rfl⟩
          obtain ⟨y1, hy1⟩ : ∃ y, y = Sha.s1 x2 := ⟨_, rfl⟩
          rw [← hy0, ← hy1]
          obtain ⟨W, hW⟩ : ∃ W, W = ((wr.drewN n1).drewN nq).drew := ⟨_, rfl⟩
          have hSW := ((HS.out.drewN n1).drewN nq).drew
          have hZW : Blk ((wr.drewN n1).drewN nq).drew (w.heap.size + 1) (wvs (List.replicate 64 0)) 119 := HZ.out
          rw [← hW] at hSW hZW
          have HZW := Lib.hid hZW
          have HL64 : L.length = 64 := by rw [HL.out, exts_length, W0_length _ _ (by omega)]
          clear hc2 hc7 hc15 hc16 hct hf hs0 hs1 hZW
          have hc7 := hSW.2.1.cell (wvs_get _ (t - 7) (by omega))
          have hc16 := hSW.2.1.cell (wvs_get _ (t - 16) (by omega))
          have hct := hSW.2.1.cell (wvs_get _ t (by omega))
          have hf := hSW.2.1.frozen t
          rw [← HX.out.2.1] at hc7
          rw [← HX.out.2.2.2] at hc16
          have HY := Lib.hid (And.intro hy0 hy1)
          have HSW := Lib.hid hSW
          clear HL64 hy0 hy1 hSW
          obtain ⟨i2, i7, i15, i16⟩ := HWW.out
          have q16 : 16 ≤ (t : Int) := by omega
          have q16' : (t : Int) - 16 < 64 := by omega
          have q7 : 7 ≤ (t : Int) := by omega
          have q7' : (t : Int) - 7 < 64 := by omega
          refine wp_region_still_tail 15 (by kernel_rfl) (by kernel_rfl) ?_
          simp only [List.take_succ_cons, List.take_zero, List.drop_succ_cons, List.drop_zero]
          show wpStill _ _ ((wr.drewN n1).drewN nq).drew _ _ _
          rw [← hW]
          have HWd := Lib.hid hW
          clear hW
          repeat still_step
          refine wpStill_nil ?_
          show wpList _ _ _ _ _ ((wr.drewN n1).drewN nq).drew
          rw [← HWd.out]
          clear hc7 hc16
          go_wp2
          rw [sum4]
          have HN : Hid (SI b w (exts (k + 1) (W0 b 16)) (W.setCell ⟨w.heap.size + 1 + 1, t, none⟩ (.int .u32 ((x16 + y0 + x7 + y1).toNat : Int)))) := by
            have h := HSW.out.set t (x16 + y0 + x7 + y1)
            have e : exts (k + 1) (W0 b 16) = L.set t (x16 + y0 + x7 + y1) := by
              rw [exts, ext, ← HL.out, ← HT.out, HY.out.1, HY.out.2, HX.out.1, HX.out.2.1, HX.out.2.2.1, HX.out.2.2.2]
            rw [e]
            exact h
          go_roundg g
          case rel => exact ⟨k + 1, by omega, by rw [HT.out]; go_num, HN.out, HZW.out.set_other _ _ (by show w.heap.size + 1 ≠ w.heap.size + 1 + 1; omega)⟩
          case measure => omega
        · obtain rfl : k = 48 := by omega
          have hSd : Blk wr (w.heap.size + 1 + 1) (wvs (sched b)) 119 := by rw [sched]; exact hS.2.1
          have hBel := hS.2.2
          have hbz := HZ.out
          have hln : (wvs (sched b)).length = 64 := by rw [wvs_length, sched_length]
          have hlz : (wvs (List.replicate 64 0)).length = 64 := by rw [wvs_length, List.length_replicate]
          have hone := wvs_one (sched b)
          have hsz : (Tryd.prog.info? 119).map (·.size) = some (wvs (sched b)).length := by rw [hln]; exact Tryd.size54
          obtain ⟨D, hDe⟩ : ∃ D, D = wvs (sched b) := ⟨_, rfl⟩
          rw [← hDe] at hSd hln hone hsz
          have HDE := Lib.hid hDe
          clear hDe
          generalize wvs (List.replicate 64 0) = Z at hbz hlz
          have hD : (D.drop 0).take 64 = D := by rw [List.drop_zero, ← hln, List.take_length]
          have HD := Lib.hid hD
          have HLN := Lib.hid hln
          have HLZ := Lib.hid hlz
          have HON := Lib.hid hone
          have HSZ := Lib.hid hsz
          have HSD := Lib.hid hSd
          have HBZ := Lib.hid hbz
          have HS := Lib.hid hS
          clear hD hln hlz hone hsz hSd hbz hS HZ
          go_wp2_with (first | (refine wpList_load_blk rfl 119 (.tmp 3) rfl _ 0 rfl HSD.out _ Tryd.underlying119 rfl 64 Tryd.size54 (by rw [HLN.out]; exact Nat.le_refl _) ?_; rw [HD.out]) | (refine wpList_store_blk rfl 119 (.tmp 2) (.tmp 88) rfl _ 0 rfl D rfl HBZ.out 64 Tryd.size54 HLN.out (by rw [HLZ.out]; exact Nat.le_refl _) HON.out ?_; intro w1 hst1; rw [List.take_zero, List.nil_append, List.drop_of_length_le (by rw [HLZ.out]; omega), List.append_nil] at hst1; have HST := Lib.hid hst1; clear hst1))
          refine ret_blk rfl _ rfl HST.out.1 _ Tryd.underlying119 rfl HSZ.out rfl ⟨by rw [HDE.out], HST.out.below HS.out.2.2 (by omega)⟩
end Go.Proofs.YtkaaejfochdjcaaDoor
