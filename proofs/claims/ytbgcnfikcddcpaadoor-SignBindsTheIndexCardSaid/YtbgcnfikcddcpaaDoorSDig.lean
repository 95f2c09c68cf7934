/-
  The walks of sign's digitAt, digitsOf, Digits.
-/
import Derived.Test.YtbgcnfikcddcpaaDoorSPure
namespace Go.Proofs.YtbgcnfikcddcpaaDoor
open Go.RowKit
set_option linter.unusedVariables false
open Sha Sgn
def inat (n : Nat) : Value := .int .i64 n
def is (l : List Nat) : List Value := l.map inat
theorem is_length (l : List Nat) : (is l).length = l.length := by simp [is]
theorem is_get (l : List Nat) (k : Nat) (h : k < l.length) : (is l)[k]? = some (.int .i64 (l.getD k 0 : Nat)) := by simp [is, inat, h]
theorem is_set (l : List Nat) (k : Nat) (x : Nat) : (is l).set k (.int .i64 (x : Nat)) = is (l.set k x) := by simp [is, inat]
theorem is_one (l : List Nat) : ∀ u ∈ is l, u.oneCell' = true := fun u hu => by
  obtain ⟨_, _, rfl⟩ := List.mem_map.1 hu
  rfl
/-- The first k of a list, zeros behind. -/
def pre (k : Nat) (D : List Nat) (n : Nat) : List Nat := D.take k ++ List.replicate (n - k) 0
theorem pre_zero (D : List Nat) (n : Nat) : pre 0 D n = List.replicate n 0 := by simp [pre]
theorem pre_all (D : List Nat) : pre D.length D D.length = D := by simp [pre]
theorem pre_length (k : Nat) (D : List Nat) (n : Nat) (hD : D.length = n) (hk : k ≤ n) : (pre k D n).length = n := by simp [pre]; omega
theorem pre_set (k : Nat) (D : List Nat) (n : Nat) (hD : D.length = n) (hk : k < n) : (pre k D n).set k (D.getD k 0) = pre (k + 1) D n := by
  have e : n - k = (n - (k + 1)) + 1 := by omega
  have hl : (D.take k).length = k := by simp; omega
  have ht : D.take (k + 1) = D.take k ++ [D.getD k 0] := by
    rw [List.take_succ_eq_append_getElem (by omega)]
    simp [List.getD, show k < D.length by omega]
  unfold pre
  rw [ht, List.set_append_right _ _ (by omega), hl, e, List.replicate_succ, Nat.sub_self, List.set_cons_zero, List.append_assoc]
  rfl
theorem pre_get (k : Nat) (D : List Nat) (n : Nat) (hD : D.length = n) (j : Nat) (hj : j < k) (hk : k ≤ n) : (pre k D n).getD j 0 = D.getD j 0 := by
  have hm : min k D.length = k := by omega
  simp [pre, List.getD, List.getElem?_append, hj, hm, show j < D.length by omega]
attribute [irreducible] pre
theorem Tryd.size3 : (Tryd.prog.info? 3).map (·.size) = some 1 := by kernel_rfl
theorem Tryd.size43 : (Tryd.prog.info? 43).map (·.size) = some 68 := by kernel_rfl
theorem Tryd.zero43 : (Tryd.prog.info? 43).map (fun i => (i.zero, i.size)) = some (some (.agg (is (List.replicate 68 0)).toArray), 68) := by kernel_rfl

set_option maxHeartbeats 400000 in
theorem digitAt_any (n a : Nat) (hn : n ≤ 255) (ha : a < 4) (w : World) :
    Calls Tryd.prog 48 #[.int .i64 n, .int .i64 a] w fun e w' => e = .returned (.int .i64 ((dig4 n).getD a 0 : Nat)) ∧ w = w' := by
  have : a = 0 ∨ a = 1 ∨ a = 2 ∨ a = 3 := by omega
  rcases this with rfl | rfl | rfl | rfl
  all_goals
    go_enter Tryd.func48, Tryd.ntmps48
    go_wp2
    go_ret
    refine ⟨?_, rfl⟩
    simp [dig4]
    try omega
theorem digitAt_i (n a : Nat) (N A : Int) (hN : N = (n : Int)) (hA : A = (a : Int)) (hn : n ≤ 255) (ha : a < 4) (w : World) :
    Calls Tryd.prog 48 #[.int .i64 N, .int .i64 A] w fun e w' => e = .returned (.int .i64 ((dig4 n).getD a 0 : Nat)) ∧ w = w' := by
  subst hN hA
  exact digitAt_any n a hn ha w

theorem Blk.at (w : World) (C : List Value) (A : Array Value) (T : TypeId) (B : Nat) (hA : A = C.toArray) (hB : B = w.heap.size) : Blk (w.alloc (.cells A T)) B C T := by subst hB; exact Blk.new' w C A T hA
/-- What the loops of digitsOf keep. -/
def DG (w : World) (d : List UInt8) (D : List Nat) (k : Nat) (wr : World) : Prop := Blk wr (w.heap.size + 2) (is (pre k D 68)) 43 ∧ Blk wr (w.heap.size + 1) (is (List.replicate 68 0)) 43 ∧ Blk wr w.heap.size (bs d) 23 ∧ Below w.heap.size w wr
theorem DG.stored {w wr w1 : World} {d : List UInt8} {D : List Nat} {k : Nat} (h : DG w d D k wr) (hs : Stored wr w1 (w.heap.size + 2) (is (pre (k + 1) D 68)) 43) : DG w d D (k + 1) w1 :=
  ⟨hs.1, hs.other h.2.1 (by omega), hs.other h.2.2.1 (by omega), hs.below h.2.2.2 (by omega)⟩
theorem csum_take (d : List UInt8) (k : Nat) (h : k < 4 * d.length) : csum ((body d).take (k + 1)) = csum ((body d).take k) + (3 - (body d).getD k 0) := by
  rw [List.take_succ_eq_append_getElem (by rw [body_length]; exact h), csum_snoc]
  simp [List.getD, body_length, h]
theorem body_dig4 (d : List UInt8) (i : Nat) (h : i < 4 * d.length) : (body d).getD i 0 = (dig4 (d.getD (i / 4) 0).toNat).getD (i % 4) 0 := by
  rw [body_get d i h]
  have hc := (d.getD (i / 4) 0).toNat_lt
  generalize (d.getD (i / 4) 0).toNat = n at hc ⊢
  have : i % 4 = 0 ∨ i % 4 = 1 ∨ i % 4 = 2 ∨ i % 4 = 3 := by omega
  rcases this with e | e | e | e <;> rw [e] <;> simp [dig4] <;> omega
set_option maxRecDepth 100000 in
set_option maxHeartbeats 1000000 in
theorem digitsOf_aux (d : List UInt8) (D : List Nat) (hD : D = digs d) (hd : d.length = 16) (w : World) :
    Calls Tryd.prog 21 #[.agg (bs d).toArray] w fun e w' => e = .returned (.agg (is D).toArray) ∧ Below w.heap.size w w' := by
  have hDl : D.length = 68 := by rw [hD, digs_length d hd]
  have HD := Lib.hid (And.intro hD (And.intro hDl hd)); clear hD hDl hd
  have H0 : Hid (DG w d D 0 (((w.alloc (.cells (bs d).toArray 23)).alloc (.cells Tryd.zeroCells43 43)).alloc (.cells Tryd.zeroCells43 43))) := Lib.hid
    ⟨by rw [pre_zero]; exact Blk.at _ _ _ _ _ rfl (by simp), (Blk.at _ _ _ _ _ rfl (by simp)).alloc _, ((Blk.at w (bs d) _ _ _ rfl rfl).alloc _).alloc _, ((below_a1 _ _).alloc (by simp) _).alloc (by simp; omega) _⟩
  go_enter Tryd.func21, Tryd.ntmps21
  go_wp2_with fail
  go_loopg [4, 9] 64 (fun g s4 s9 wr => ∃ k : Nat, k + g = 64 ∧ s9 = .int .i64 k ∧ s4 = .int .i64 (csum ((body d).take k) : Nat) ∧ DG w d D k wr)
  case atStart => exact ⟨0, rfl, rfl, rfl, H0.out⟩
  case round =>
    clear H0
    obtain ⟨k, hk, rfl, rfl, hG⟩ := hrel
    obtain ⟨S, hS⟩ : ∃ S, S = csum ((body d).take k) := ⟨_, rfl⟩
    rw [← hS]
    have hS3 : S ≤ 192 := by
      have := csum_le ((body d).take k)
      rw [List.length_take, body_length, HD.out.2.2] at this
      omega
    by_cases hlt : k < 64
    · obtain ⟨g, rfl⟩ : ∃ g, gk = g + 1 := ⟨gk - 1, by omega⟩
      obtain ⟨q, hq⟩ : ∃ q, q = k / 4 := ⟨_, rfl⟩
      obtain ⟨r, hr⟩ : ∃ r, r = k % 4 := ⟨_, rfl⟩
      have hqI : (k : Int) / 4 = (q : Int) := by omega
      have hrI : (k : Int) % 4 = (r : Int) := by omega
      have hr4 : r < 4 := by omega
      have hq16 : q < 16 := by omega
      obtain ⟨c, hc⟩ : ∃ c, c = d.getD q 0 := ⟨_, rfl⟩
      have hcell := hG.2.2.1.cell (bs_getD d q (by rw [HD.out.2.2]; omega))
      rw [← hc] at hcell
      obtain ⟨x, hx⟩ : ∃ x, x = (dig4 c.toNat).getD r 0 := ⟨_, rfl⟩
      have hbx : (body d).getD k 0 = x := by rw [body_dig4 d k (by rw [HD.out.2.2]; omega), hx, hc, hq, hr]
      have hdx : D.getD k 0 = x := by rw [HD.out.1, digs_low d k (by rw [HD.out.2.2]; omega), hbx]
      have hx3 : x ≤ 3 := by rw [← hdx, HD.out.1]; exact digs_getD_le d HD.out.2.2 k
      have hSn : S + (3 - x) = csum ((body d).take (k + 1)) := by rw [csum_take d k (by rw [HD.out.2.2]; omega), hbx, hS]
      have hset : (is (pre k D 68)).set k (.int .i64 (x : Nat)) = is (pre (k + 1) D 68) := by rw [is_set, ← hdx, pre_set k D 68 HD.out.2.1 (by omega)]
      have hget : (is (pre (k + 1) D 68))[k]? = some (.int .i64 (x : Nat)) := by rw [is_get _ _ (by rw [pre_length _ _ _ HD.out.2.1 (by omega)]; omega), pre_get _ _ _ HD.out.2.1 _ (by omega) (by omega), hdx]
      have hc255 : c.toNat ≤ 255 := by have := c.toNat_lt; omega
      have HDA : Hid (∀ W, Calls Tryd.prog 48 #[.int .i64 c.toNat, .int .i64 r] W fun e w' => e = .returned (.int .i64 (x : Nat)) ∧ W = w') := Lib.hid fun W => by rw [hx]; exact digitAt_any c.toNat r hc255 hr4 W
      have HX := Lib.hid (And.intro hSn (And.intro hset hget)); clear hSn hset hget hdx hbx hx hc hq hr hS
      have HG := Lib.hid hG; clear hG
      go_wp2_with (first
        | (go_at_call 48; (with_reducible refine (HDA.out _).mono ?_); rintro e w1 ⟨rfl, rfl⟩)
        | (refine wpList_store_int rfl 3 (.tmp 21) (.tmp 20) rfl (w.heap.size + 2) k rfl .i64 (x : Nat) rfl HG.out.1 (by rw [is_length, pre_length _ _ _ HD.out.2.1 (by omega)]; omega) Tryd.size3 ?_; intro w2 hst2; rw [HX.out.2.1] at hst2; have hcell2 := hst2.1.cell HX.out.2.2; have HST2 := Lib.hid hst2; clear hst2))
      go_roundg g
      case rel => exact ⟨k + 1, by omega, by go_num, by rw [← HX.out.1]; go_num, HG.out.stored HST2.out⟩
      case measure => omega
    · obtain rfl : k = 64 := by omega
      have hSe : S = csum (body d) := by rw [hS, List.take_of_length_le (by rw [body_length, HD.out.2.2]; omega)]
      have HSE := Lib.hid hSe; clear hSe hS hk hlt
      have HG := Lib.hid hG; clear hG
      go_wp2_with fail
      go_loopg [31] 4 (fun g s31 wr => ∃ j : Nat, j + g = 4 ∧ s31 = .int .i64 j ∧ DG w d D (64 + j) wr)
      case atStart => exact ⟨0, rfl, rfl, HG.out⟩
      case round =>
        clear HG
        obtain ⟨j, hj, rfl, hG⟩ := hrel
        by_cases hlt : j < 4
        · obtain ⟨g, rfl⟩ : ∃ g, gk = g + 1 := ⟨gk - 1, by omega⟩
          obtain ⟨x, hx⟩ : ∃ x, x = (dig4 S).getD j 0 := ⟨_, rfl⟩
          have hdx : D.getD (64 + j) 0 = x := by
            have := digs_high d j
            rw [HD.out.2.2] at this
            rw [HD.out.1, show 64 + j = 4 * 16 + j from rfl, this, hx, HSE.out]
          have hset : (is (pre (64 + j) D 68)).set (64 + j) (.int .i64 (x : Nat)) = is (pre (64 + j + 1) D 68) := by rw [is_set, ← hdx, pre_set (64 + j) D 68 HD.out.2.1 (by omega)]
          have HDA : Hid (∀ W, Calls Tryd.prog 48 #[.int .i64 S, .int .i64 j] W fun e w' => e = .returned (.int .i64 (x : Nat)) ∧ W = w') := Lib.hid fun W => by rw [hx]; exact digitAt_any S j (by omega) hlt W
          have HX := Lib.hid hset; clear hset hdx hx
          have HG := Lib.hid hG; clear hG
          have htn : ((64 : Int) + (j : Int)).toNat = 64 + j := by omega
          go_wp2_with (first
            | (go_at_call 48; (with_reducible refine (HDA.out _).mono ?_); rintro e w1 ⟨rfl, rfl⟩)
            | (refine wpList_store_int rfl 3 (.tmp 39) (.tmp 38) rfl (w.heap.size + 2) (64 + j) rfl .i64 (x : Nat) rfl HG.out.1 (by rw [is_length, pre_length _ _ _ HD.out.2.1 (by omega)]; omega) Tryd.size3 ?_; intro w2 hst2; rw [HX.out] at hst2; have HST2 := Lib.hid hst2; clear hst2))
          go_roundg g
          case rel => exact ⟨j + 1, by omega, by go_num, HG.out.stored HST2.out⟩
          case measure => omega
        · obtain rfl : j = 4 := by omega
          have hpre : pre (64 + 4) D 68 = D := by have := pre_all D; rw [HD.out.2.1] at this; exact this
          have HB3 : Hid (Blk wr (w.heap.size + 2) (is D) 43) := Lib.hid (by rw [← hpre]; exact hG.1)
          have HG := Lib.hid hG; clear hG hpre
          have hDl : (is D).length = 68 := by rw [is_length]; exact HD.out.2.1
          have HDL := Lib.hid hDl; clear hDl
          go_wp2_with (first
            | (refine wpList_load_blk rfl 43 (.tmp 3) rfl (w.heap.size + 2) 0 rfl HB3.out _ Tryd.underlying43 rfl 68 Tryd.size43 (by rw [HDL.out]; omega) ?_; rw [List.drop_zero, List.take_of_length_le (by rw [HDL.out]; omega)])
            | (refine wpList_store_blk rfl 43 (.tmp 2) (.tmp 41) rfl (w.heap.size + 1) 0 rfl (is D) rfl HG.out.2.1 68 Tryd.size43 HDL.out (by rw [is_length, List.length_replicate]; omega) (is_one _) ?_; intro w3 hst3; rw [List.take_zero, List.nil_append, List.drop_of_length_le (by rw [is_length, List.length_replicate]; omega), List.append_nil] at hst3; have HST3 := Lib.hid hst3; clear hst3))
          refine ret_blk rfl _ rfl HST3.out.1 _ Tryd.underlying43 rfl (by rw [HDL.out]; exact Tryd.size43) rfl ⟨rfl, HST3.out.below HG.out.2.2.2 (by omega)⟩
theorem digitsOf_any (d : List UInt8) (hd : d.length = 16) (w : World) :
    Calls Tryd.prog 21 #[.agg (bs d).toArray] w fun e w' => e = .returned (.agg (is (digs d)).toArray) ∧ Below w.heap.size w w' := digitsOf_aux d _ rfl hd w
end Go.Proofs.YtbgcnfikcddcpaaDoor
