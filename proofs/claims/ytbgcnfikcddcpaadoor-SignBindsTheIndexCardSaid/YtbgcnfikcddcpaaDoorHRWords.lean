/-
  The reference's schedule of a block (words), walked.
-/
import Derived.Test.YtbgcnfikcddcpaaDoorHRPad
namespace Go.Proofs.YtbgcnfikcddcpaaDoor
open Go.RowKit
open Sha
set_option linter.unusedVariables false
theorem or_add (m n i a : Nat) (hm : m = 2 ^ i * a) (hn : n < 2 ^ i) (h : m + n < 4294967296) : bits .or .u32 (m : Int) (n : Int) = ((m + n : Nat) : Int) := by
  rw [or_nat m n (by omega) (by omega), hm, ← Nat.two_pow_add_eq_or_of_lt hn, ofNat_w _ (by omega)]
theorem pw_step (a : U) (c : UInt8) (h : a.toNat < 16777216) : (UInt32.ofNat ((a.toNat * 256 % 2 ^ 32) ||| c.toNat)).toNat = a.toNat * 256 + c.toNat := by
  have := c.toNat_lt
  rw [Nat.mod_eq_of_lt (by omega), show a.toNat * 256 = 2 ^ 8 * a.toNat from by omega, ← Nat.two_pow_add_eq_or_of_lt (by omega), ofNat_w _ (by omega)]
theorem pw4 (c0 c1 c2 c3 : UInt8) : (pw [c0, c1, c2, c3]).toNat = c0.toNat * 16777216 + c1.toNat * 65536 + c2.toNat * 256 + c3.toNat := by
  have h0 := c0.toNat_lt
  have h1 := c1.toNat_lt
  have h2 := c2.toNat_lt
  have h3 := c3.toNat_lt
  have e0 : (pw [c0]).toNat = c0.toNat := by
    simp [pw]
  have e1 : (pw [c0, c1]).toNat = c0.toNat * 256 + c1.toNat := by
    have := pw_step (pw [c0]) c1 (by omega)
    rw [e0] at this
    rw [← this, show [c0, c1] = [c0] ++ [c1] from rfl, pw_snoc, e0]
  have e2 : (pw [c0, c1, c2]).toNat = (c0.toNat * 256 + c1.toNat) * 256 + c2.toNat := by
    have := pw_step (pw [c0, c1]) c2 (by omega)
    rw [e1] at this
    rw [← this, show [c0, c1, c2] = [c0, c1] ++ [c2] from rfl, pw_snoc, e1]
  have e3 : (pw [c0, c1, c2, c3]).toNat = ((c0.toNat * 256 + c1.toNat) * 256 + c2.toNat) * 256 + c3.toNat := by
    have := pw_step (pw [c0, c1, c2]) c3 (by omega)
    rw [e2] at this
    rw [← this, show [c0, c1, c2, c3] = [c0, c1, c2] ++ [c3] from rfl, pw_snoc, e2]
  rw [e3]
  clear e0 e1 e2 e3
  generalize c0.toNat = a0
  generalize c1.toNat = a1
  generalize c2.toNat = a2
  generalize c3.toNat = a3
  omega
theorem or4n (m0 m1 m2 m3 a0 a1 a2 : Nat) (h0 : m0 = 2 ^ 24 * a0) (h1 : m1 = 2 ^ 16 * a1) (h2 : m2 = 2 ^ 8 * a2) (b0 : a0 < 256) (b1 : a1 < 256) (b2 : a2 < 256) (b3 : m3 < 256) :
    bits .or .u32 (bits .or .u32 (bits .or .u32 (m0 : Int) (m1 : Int)) (m2 : Int)) (m3 : Int) = ((m0 + m1 + m2 + m3 : Nat) : Int) := by
  rw [or_add m0 m1 24 a0 h0 (by omega) (by omega), or_add (m0 + m1) m2 16 (a0 * 256 + a1) (by omega) (by omega) (by omega), or_add (m0 + m1 + m2) m3 8 (a0 * 65536 + a1 * 256 + a2) (by omega) (by omega) (by omega)]
theorem or4 (c0 c1 c2 c3 : UInt8) : bits .or .u32 (bits .or .u32 (bits .or .u32 ((c0.toNat : Int) * 16777216) ((c1.toNat : Int) * 65536)) ((c2.toNat : Int) * 256)) (c3.toNat : Int) = ((pw [c0, c1, c2, c3]).toNat : Int) := by
  obtain ⟨m0, h0⟩ : ∃ m, m = 2 ^ 24 * c0.toNat := ⟨_, rfl⟩
  obtain ⟨m1, h1⟩ : ∃ m, m = 2 ^ 16 * c1.toNat := ⟨_, rfl⟩
  obtain ⟨m2, h2⟩ : ∃ m, m = 2 ^ 8 * c2.toNat := ⟨_, rfl⟩
  have h := or4n m0 m1 m2 c3.toNat _ _ _ h0 h1 h2 c0.toNat_lt c1.toNat_lt c2.toNat_lt c3.toNat_lt
  have e0 : (m0 : Int) = (c0.toNat : Int) * 16777216 := by omega
  have e1 : (m1 : Int) = (c1.toNat : Int) * 65536 := by omega
  have e2 : (m2 : Int) = (c2.toNat : Int) * 256 := by omega
  have e3 : (pw [c0, c1, c2, c3]).toNat = m0 + m1 + m2 + c3.toNat := by rw [pw4]; omega
  rw [e3, ← h, e0, e1, e2]
theorem word4 (b : List UInt8) (k : Nat) (h : 4 * k + 3 < b.length) : word b k = pw [b.getD (4 * k) 0, b.getD (4 * k + 1) 0, b.getD (4 * k + 2) 0, b.getD (4 * k + 3) 0] := by
  unfold word
  congr 1
  rw [List.drop_eq_getElem_cons (by omega : 4 * k < b.length), List.drop_eq_getElem_cons (by omega : 4 * k + 1 < b.length), List.drop_eq_getElem_cons (by omega : 4 * k + 1 + 1 < b.length), List.drop_eq_getElem_cons (by omega : 4 * k + 1 + 1 + 1 < b.length)]
  have e : ∀ j (hj : j < b.length), b.getD j 0 = b[j] := fun j hj => by simp [List.getD, hj]
  rw [e _ (by omega), e _ (by omega), e _ (by omega), e _ (by omega)]
  rfl

def RI (w : World) (L : List U) (wr : World) : Prop := Blk wr w.heap.size (wvs (List.replicate 64 0)) 111 ∧ Blk wr (w.heap.size + 1) (wvs L) 111 ∧ Below w.heap.size w wr
theorem RI.drewN {w wr : World} {L : List U} (h : RI w L wr) (a : Nat) : RI w L (wr.drewN a) := ⟨h.1, h.2.1, below_drewN h.2.2 a⟩
theorem RI.drew {w wr : World} {L : List U} (h : RI w L wr) : RI w L wr.drew := ⟨h.1, h.2.1, h.2.2.drew⟩
theorem RI.set {w wr : World} {L : List U} (h : RI w L wr) (t : Nat) (x : U) : RI w (L.set t x) (wr.setCell ⟨w.heap.size + 1, t, none⟩ (.int .u32 x.toNat)) := by
  refine ⟨h.1.set_other _ _ (by show w.heap.size ≠ w.heap.size + 1; omega), ?_, h.2.2.setCell (by simp) _⟩
  have := h.2.1.set t (.int .u32 x.toNat)
  rw [wvs_set] at this
  exact this

set_option maxRecDepth 100000 in
set_option maxHeartbeats 2000000 in
theorem rwords_aux (b : List UInt8) (hb : b.length = 64) (g0 o0 c : Nat) (w : World) (hr : Rd w (some ⟨g0, o0, none⟩) (bs b)) (hg0 : g0 < w.heap.size) :
    Calls Tryd.prog 75 #[.slice (some ⟨g0, o0, none⟩) 64 c] w fun e w' => e = .returned (.agg (wvs (sched b)).toArray) ∧ Below w.heap.size w w' := by
  have HB := Lib.hid (And.intro hb (And.intro hr hg0)); clear hb hr hg0
  have HI0 : Hid (RI w (W0 b 0) ((w.alloc (.cells (wvs (List.replicate 64 0)).toArray 111)).alloc (.cells (wvs (W0 b 0)).toArray 111))) := Lib.hid ⟨(Blk.new _ _ _).alloc _, by
    have := Blk.new (w.alloc (.cells (wvs (List.replicate 64 0)).toArray 111)) (wvs (W0 b 0)) 111
    simp only [World.size_alloc] at this
    exact this, ((Below.refl _ _).alloc (Nat.le_refl _) _).alloc (by simp) _⟩
  go_enter Tryd.func75, Tryd.ntmps75
  go_wp2_with fail
  go_loopg [4] 16 (fun g s4 wr => ∃ k : Nat, k + g = 16 ∧ s4 = .int .i64 k ∧ RI w (W0 b k) wr)
  case atStart => exact ⟨0, rfl, rfl, HI0.out⟩
  case round =>
    clear HI0
    obtain ⟨k, hk, rfl, hS⟩ := hrel
    by_cases hlt : k < 16
    · obtain ⟨g, rfl⟩ : ∃ g, gk = g + 1 := ⟨gk - 1, by omega⟩
      have hbl := HB.out.1
      have hcs : ∀ j : Nat, j < 64 → wr.cell? ⟨g0, o0 + j, none⟩ = some (.int .u8 (b.getD j 0).toNat) := fun j hj => by
        obtain ⟨b', o', he, hc⟩ := (HB.out.2.1.below hS.2.2).open (by intro e; have := congrArg List.length e; rw [bs_length, hbl] at this; simp at this)
        obtain ⟨rfl, rfl⟩ : g0 = b' ∧ o0 = o' := by simpa using he
        exact hc j _ (bs_getD b j (by omega))
      have hc0 := hcs (4 * k) (by omega)
      have hc1 := hcs (4 * k + 1) (by omega)
      have hc2 := hcs (4 * k + 2) (by omega)
      have hc3 := hcs (4 * k + 3) (by omega)
      have hW := word4 b k (by omega)
      have hWl := W0_length b k (by omega)
      obtain ⟨x0, hx0⟩ : ∃ x, x = b.getD (4 * k) 0 := ⟨_, rfl⟩
      obtain ⟨x1, hx1⟩ : ∃ x, x = b.getD (4 * k + 1) 0 := ⟨_, rfl⟩
      obtain ⟨x2, hx2⟩ : ∃ x, x = b.getD (4 * k + 2) 0 := ⟨_, rfl⟩
      obtain ⟨x3, hx3⟩ : ∃ x, x = b.getD (4 * k + 3) 0 := ⟨_, rfl⟩
      rw [← hx0] at hc0 hW
      rw [← hx1] at hc1 hW
      rw [← hx2] at hc2 hW
      rw [← hx3] at hc3 hW
      obtain ⟨X, hX⟩ : ∃ X, X = word b k := ⟨_, rfl⟩
      have hor := or4 x0 x1 x2 x3
      rw [← hW, ← hX] at hor
      have HX := Lib.hid (And.intro hX hWl); clear hX hW hWl hx0 hx1 hx2 hx3 hcs hbl
      have hct := hS.2.1.cell (wvs_get _ k (by rw [HX.out.2]; omega))
      have hf := hS.2.1.frozen k
      have HS := Lib.hid hS; clear hS
      have i0 : IntKind.i64.wrap (4 * (k : Int)) = 4 * (k : Int) := IntWalk.i64_in _ (by omega)
      have i1 : IntKind.i64.wrap (4 * (k : Int) + 1) = 4 * (k : Int) + 1 := IntWalk.i64_in _ (by omega)
      have i2 : IntKind.i64.wrap (4 * (k : Int) + 2) = 4 * (k : Int) + 2 := IntWalk.i64_in _ (by omega)
      have i3 : IntKind.i64.wrap (4 * (k : Int) + 3) = 4 * (k : Int) + 3 := IntWalk.i64_in _ (by omega)
      have n0 : (4 * (k : Int)).toNat = 4 * k := by omega
      have n1 : (4 * (k : Int) + 1).toNat = 4 * k + 1 := by omega
      have n2 : (4 * (k : Int) + 2).toNat = 4 * k + 2 := by omega
      have n3 : (4 * (k : Int) + 3).toNat = 4 * k + 3 := by omega
      have p0 : 0 ≤ 4 * (k : Int) ∧ 4 * (k : Int) < 64 := by omega
      have p1 : 0 ≤ 4 * (k : Int) + 1 ∧ 4 * (k : Int) + 1 < 64 := by omega
      have p2 : 0 ≤ 4 * (k : Int) + 2 ∧ 4 * (k : Int) + 2 < 64 := by omega
      have p3 : 0 ≤ 4 * (k : Int) + 3 ∧ 4 * (k : Int) + 3 < 64 := by omega
      have y0 := x0.toNat_lt
      have y1 := x1.toNat_lt
      have y2 := x2.toNat_lt
      have y3 := x3.toNat_lt
      have u0 : IntKind.u32.wrap (x0.toNat : Int) = (x0.toNat : Int) := by rw [IntKind.wrap_u32]; omega
      have u1 : IntKind.u32.wrap (x1.toNat : Int) = (x1.toNat : Int) := by rw [IntKind.wrap_u32]; omega
      have u2 : IntKind.u32.wrap (x2.toNat : Int) = (x2.toNat : Int) := by rw [IntKind.wrap_u32]; omega
      have u3 : IntKind.u32.wrap (x3.toNat : Int) = (x3.toNat : Int) := by rw [IntKind.wrap_u32]; omega
      have v0 : IntKind.u32.wrap ((x0.toNat : Int) * 16777216) = (x0.toNat : Int) * 16777216 := by rw [IntKind.wrap_u32]; omega
      have v1 : IntKind.u32.wrap ((x1.toNat : Int) * 65536) = (x1.toNat : Int) * 65536 := by rw [IntKind.wrap_u32]; omega
      have v2 : IntKind.u32.wrap ((x2.toNat : Int) * 256) = (x2.toNat : Int) * 256 := by rw [IntKind.wrap_u32]; omega
      clear y0 y1 y2 y3
      have pk : 0 ≤ (k : Int) ∧ (k : Int) < 64 := by omega
      have pk' : k < 64 := by omega
      go_wp2_with fail
      refine wp_region_still_tail 35 (by kernel_rfl) (by kernel_rfl) ?_
      simp only [List.take_succ_cons, List.take_zero, List.drop_succ_cons, List.drop_zero]
      show wpStill _ _ wr.drew _ _ _
      repeat still_step
      refine wpStill_nil ?_
      show wpList _ _ _ _ _ wr.drew
      clear hc0 hc1 hc2 hc3
      go_wp2_with fail
      have HN : Hid (RI w (W0 b (k + 1)) (wr.setCell ⟨w.heap.size + 1, k, none⟩ (.int .u32 (X.toNat : Int)))) := Lib.hid (by
        have h := HS.out.set k X
        rw [HX.out.1, W0_set b k (by omega)] at h
        rw [HX.out.1]
        exact h)
      go_roundg g
      case rel => exact ⟨k + 1, by omega, by go_num, HN.out.drew⟩
      case measure => omega
    · obtain rfl : k = 16 := by omega
      have HS := Lib.hid hS; clear hS
      go_wp2
      go_loopg [5] 48 (fun g s5 wr => ∃ k : Nat, k + g = 48 ∧ s5 = .int .i64 ((16 + k : Nat) : Int) ∧ RI w (exts k (W0 b 16)) wr)
      case atStart => exact ⟨0, rfl, rfl, by rw [exts]; exact HS.out⟩
      case round =>
        clear HS
        obtain ⟨k, hk, rfl, hS⟩ := hrel
        by_cases hlt : k < 48
        · obtain ⟨g, rfl⟩ : ∃ g, gk = g + 1 := ⟨gk - 1, by omega⟩
          obtain ⟨L, hL⟩ : ∃ L, L = exts k (W0 b 16) := ⟨_, rfl⟩
          have hLl : L.length = 64 := by rw [hL, exts_length, W0_length _ _ (by omega)]
          rw [← hL] at hS
          obtain ⟨t, ht⟩ : ∃ t, t = 16 + k := ⟨_, rfl⟩
          rw [← ht]
          have hc2 := hS.2.1.cell (wvs_get _ (t - 2) (by omega))
          have hc7 := hS.2.1.cell (wvs_get _ (t - 7) (by omega))
          have hc15 := hS.2.1.cell (wvs_get _ (t - 15) (by omega))
          have hc16 := hS.2.1.cell (wvs_get _ (t - 16) (by omega))
          have hct := hS.2.1.cell (wvs_get _ t (by omega))
          have hf := hS.2.1.frozen t
          have ht1 : 16 ≤ t := by omega
          have ht2 : t < 64 := by omega
          have HS := Lib.hid hS; clear hS
          have HL := Lib.hid hL; clear hL
          have HT := Lib.hid ht; clear ht
          clear hLl
          have i2 : IntKind.i64.wrap ((t : Int) - 2) = (t : Int) - 2 := IntWalk.i64_in _ (by omega)
          have i7 : IntKind.i64.wrap ((t : Int) - 7) = (t : Int) - 7 := IntWalk.i64_in _ (by omega)
          have i15 : IntKind.i64.wrap ((t : Int) - 15) = (t : Int) - 15 := IntWalk.i64_in _ (by omega)
          have i16 : IntKind.i64.wrap ((t : Int) - 16) = (t : Int) - 16 := IntWalk.i64_in _ (by omega)
          have n2 : ((t : Int) - 2).toNat = t - 2 := by omega
          have n7 : ((t : Int) - 7).toNat = t - 7 := by omega
          have n15 : ((t : Int) - 15).toNat = t - 15 := by omega
          have n16 : ((t : Int) - 16).toNat = t - 16 := by omega
          have p2 : 0 ≤ (t : Int) - 2 ∧ (t : Int) - 2 < 64 := by omega
          have p7 : 0 ≤ (t : Int) - 7 ∧ (t : Int) - 7 < 64 := by omega
          have p15 : 0 ≤ (t : Int) - 15 ∧ (t : Int) - 15 < 64 := by omega
          have p16 : 0 ≤ (t : Int) - 16 ∧ (t : Int) - 16 < 64 := by omega
          obtain ⟨x2, hx2⟩ : ∃ x, x = L.getD (t - 2) 0 := ⟨_, rfl⟩
          obtain ⟨x7, hx7⟩ : ∃ x, x = L.getD (t - 7) 0 := ⟨_, rfl⟩
          obtain ⟨x15, hx15⟩ : ∃ x, x = L.getD (t - 15) 0 := ⟨_, rfl⟩
          obtain ⟨x16, hx16⟩ : ∃ x, x = L.getD (t - 16) 0 := ⟨_, rfl⟩
          rw [← hx2] at hc2
          rw [← hx7] at hc7
          rw [← hx15] at hc15
          rw [← hx16] at hc16
          have HX : Hid (x2 = L.getD (t - 2) 0 ∧ x7 = L.getD (t - 7) 0 ∧ x15 = L.getD (t - 15) 0 ∧ x16 = L.getD (t - 16) 0) := Lib.hid ⟨hx2, hx7, hx15, hx16⟩
          clear hx2 hx7 hx15 hx16
          have HW := And.intro i2 (And.intro i7 (And.intro i15 i16))
          have HWW := Lib.hid HW
          clear HW
          go_wp2
          have hs0 : bits .xor .u32 (bits .xor .u32 ((rr x15 7).toNat : Int) ((rr x15 18).toNat : Int)) ((x15.toNat : Int) / 8) = ((Sha.s0 x15).toNat : Int) := by
            rw [xor_w, show ((x15.toNat : Int) / 8) = ((sr x15 3).toNat : Int) from sr_w x15 3, xor_w]
            rfl
          have hs1 : bits .xor .u32 (bits .xor .u32 ((rr x2 17).toNat : Int) ((rr x2 19).toNat : Int)) ((x2.toNat : Int) / 1024) = ((Sha.s1 x2).toNat : Int) := by
            rw [xor_w, show ((x2.toNat : Int) / 1024) = ((sr x2 10).toNat : Int) from sr_w x2 10, xor_w]
            rfl
          go_quiet ((go_at_call 76; (first | (refine quiet_one (fun W => rrotr_i _ 7 _ ?_ (by omega) (by omega) W); rfl) | (refine quiet_one (fun W => rrotr_i _ 18 _ ?_ (by omega) (by omega) W); rfl))))
          go_wp2
          go_quiet ((go_at_call 76; (first | (refine quiet_more (fun W => rrotr_i _ 17 _ ?_ (by omega) (by omega) W); rfl) | (refine quiet_more (fun W => rrotr_i _ 19 _ ?_ (by omega) (by omega) W); rfl))))
          go_wp2
          rename_i n1
          obtain ⟨y0, hy0⟩ : ∃ y, y = Sha.s0 x15 := ⟨_, rfl⟩
          obtain ⟨y1, hy1⟩ : ∃ y, y = Sha.s1 x2 := ⟨_, rfl⟩
          rw [← hy0, ← hy1]
          obtain ⟨W, hW⟩ : ∃ W, W = ((wr.drewN n1).drewN nq).drew := ⟨_, rfl⟩
          have hSW := ((HS.out.drewN n1).drewN nq).drew
          rw [← hW] at hSW
          have HL64 : L.length = 64 := by rw [HL.out, exts_length, W0_length _ _ (by omega)]
          clear hc2 hc7 hc15 hc16 hct hf hs0 hs1
          have hc7 := hSW.2.1.cell (wvs_get _ (t - 7) (by omega))
          have hc16 := hSW.2.1.cell (wvs_get _ (t - 16) (by omega))
          have hct := hSW.2.1.cell (wvs_get _ t (by omega))
          have hf := hSW.2.1.frozen t
          rw [← HX.out.2.1] at hc7
          rw [← HX.out.2.2.2] at hc16
          have HY := Lib.hid (And.intro hy0 hy1)
          have HSW := Lib.hid hSW
          clear HL64 hy0 hy1 hSW
          obtain ⟨i2, i7, i15, i16⟩ := HWW.out
          have q16 : 16 ≤ (t : Int) := by omega
          have q16' : (t : Int) - 16 < 64 := by omega
          have q7 : 7 ≤ (t : Int) := by omega
          have q7' : (t : Int) - 7 < 64 := by omega
          refine wp_region_still_tail 15 (by kernel_rfl) (by kernel_rfl) ?_
          simp only [List.take_succ_cons, List.take_zero, List.drop_succ_cons, List.drop_zero]
          show wpStill _ _ ((wr.drewN n1).drewN nq).drew _ _ _
          rw [← hW]
          have HWd := Lib.hid hW
          clear hW
          repeat still_step
          refine wpStill_nil ?_
          show wpList _ _ _ _ _ ((wr.drewN n1).drewN nq).drew
          rw [← HWd.out]
          clear hc7 hc16
          go_wp2
          rw [sum4]
          have HN : Hid (RI w (exts (k + 1) (W0 b 16)) (W.setCell ⟨w.heap.size + 1, t, none⟩ (.int .u32 ((x16 + y0 + x7 + y1).toNat : Int)))) := by
            have h := HSW.out.set t (x16 + y0 + x7 + y1)
            have e : exts (k + 1) (W0 b 16) = L.set t (x16 + y0 + x7 + y1) := by
              rw [exts, ext, ← HL.out, ← HT.out, HY.out.1, HY.out.2, HX.out.1, HX.out.2.1, HX.out.2.2.1, HX.out.2.2.2]
            rw [e]
            exact h
          go_roundg g
          case rel => exact ⟨k + 1, by omega, by rw [HT.out]; go_num, HN.out⟩
          case measure => omega
        · obtain rfl : k = 48 := by omega
          have hSd : Blk wr (w.heap.size + 1) (wvs (sched b)) 111 := by rw [sched]; exact hS.2.1
          have hBel := hS.2.2
          have hbz := hS.1
          have hln : (wvs (sched b)).length = 64 := by rw [wvs_length, sched_length]
          have hlz : (wvs (List.replicate 64 0)).length = 64 := by rw [wvs_length, List.length_replicate]
          have hone := wvs_one (sched b)
          have hsz : (Tryd.prog.info? 111).map (·.size) = some (wvs (sched b)).length := by rw [hln]; exact Tryd.size54
          obtain ⟨D, hDe⟩ : ∃ D, D = wvs (sched b) := ⟨_, rfl⟩
          rw [← hDe] at hSd hln hone hsz
          have HDE := Lib.hid hDe
          clear hDe
          generalize wvs (List.replicate 64 0) = Z at hbz hlz
          have hD : (D.drop 0).take 64 = D := by rw [List.drop_zero, ← hln, List.take_length]
          have HD := Lib.hid hD
          have HLN := Lib.hid hln
          have HLZ := Lib.hid hlz
          have HON := Lib.hid hone
          have HSZ := Lib.hid hsz
          have HSD := Lib.hid hSd
          have HBZ := Lib.hid hbz
          have HS := Lib.hid hS
          clear hD hln hlz hone hsz hSd hbz hS
          go_wp2_with (first | (refine wpList_load_blk rfl 111 (.tmp 3) rfl _ 0 rfl HSD.out _ Tryd.underlying111 rfl 64 Tryd.size54 (by rw [HLN.out]; exact Nat.le_refl _) ?_; rw [HD.out]) | (refine wpList_store_blk rfl 111 (.tmp 2) (.tmp 100) rfl _ 0 rfl D rfl HBZ.out 64 Tryd.size54 HLN.out (by rw [HLZ.out]; exact Nat.le_refl _) HON.out ?_; intro w1 hst1; rw [List.take_zero, List.nil_append, List.drop_of_length_le (by rw [HLZ.out]; omega), List.append_nil] at hst1; have HST := Lib.hid hst1; clear hst1))
          refine ret_blk rfl _ rfl HST.out.1 _ Tryd.underlying111 rfl HSZ.out rfl ⟨by rw [HDE.out], HST.out.below HS.out.2.2 (by omega)⟩
theorem rwords_any (b : List UInt8) (hb : b.length = 64) (g0 o0 n c : Nat) (hn : n = 64) (w : World) (hr : Rd w (some ⟨g0, o0, none⟩) (bs b)) (hg0 : g0 < w.heap.size) :
    Calls Tryd.prog 75 #[.slice (some ⟨g0, o0, none⟩) n c] w fun e w' => e = .returned (.agg (wvs (sched b)).toArray) ∧ Below w.heap.size w w' := by
  subst hn
  exact rwords_aux b hb g0 o0 c w hr hg0
end Go.Proofs.YtbgcnfikcddcpaaDoor
