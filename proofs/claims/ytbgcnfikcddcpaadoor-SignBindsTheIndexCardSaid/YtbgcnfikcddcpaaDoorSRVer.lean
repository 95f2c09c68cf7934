/-
  The walk of the reference's Verify.
-/
import Derived.Test.YtbgcnfikcddcpaaDoorSRMake
import Derived.Test.YtbgcnfikcddcpaaDoorSRGet
namespace Go.Proofs.YtbgcnfikcddcpaaDoor
open Go.RowKit
set_option linter.unusedVariables false
set_option linter.unusedSimpArgs false
open Sha Sgn
section
variable (p m g : List UInt8) (w : World)
set_option maxRecDepth 100000 in
set_option maxHeartbeats 2000000 in
theorem rverify_arg (h : Int) (hh : h < 0 ∨ 6 < h) :
    Calls Tryd.prog 19 #[.agg (bs p).toArray, .int .i64 h, .string (sb m), .string (sb g)] w fun e w' => e = retI2 (0, 1) ∧ Below w.heap.size w w' := by
  have HB := Lib.hid (below_a1 w (.cells (bs p).toArray 23))
  by_cases h0 : h < 0
  · have hd1 : decide (h < 0) = true := by simpa using h0
    clear hh h0
    go_enter Tryd.func19, Tryd.ntmps19
    go_wp2_with fail
    go_ret2
    exact ⟨rfl, HB.out⟩
  · have hd1 : decide (h < 0) = false := by simpa using h0
    have hd2 : decide (6 < h) = true := by simp; omega
    clear hh h0
    go_enter Tryd.func19, Tryd.ntmps19
    go_wp2_with fail
    go_ret2
    exact ⟨rfl, HB.out⟩
set_option maxRecDepth 100000 in
set_option maxHeartbeats 2000000 in
theorem rverify_int (h : Nat) (h6 : h ≤ 6) (hm : m.length ≤ 1000000) (hg : g.length ≤ 1000000) (n : Int) (u : Nat) (er : Int) (hr : gI g = (n, u, er)) (he : er ≠ 0) :
    Calls Tryd.prog 19 #[.agg (bs p).toArray, .int .i64 (h : Int), .string (sb m), .string (sb g)] w fun e w' => e = retI2 (0, er) ∧ Below w.heap.size w w' := by
  have hsz := sb_size m
  have hd : decide ((1048576 : Int) < (m.length : Int)) = false := by simp; omega
  have hne : (er != 0) = true := by simpa using he
  obtain ⟨c, x1, hcv, hrd, hb1, hcl, hcm⟩ := conv_backc (P := Tryd.prog) (src := 9) (dst := 58) Tryd.underlying9 Tryd.underlying58 Tryd.underlying5 (w.alloc (.cells (bs p).toArray 23)) g (by omega)
  have HG : Hid (∀ G, G = (w.alloc (.cells (bs p).toArray 23)).heap.size → Calls Tryd.prog 45 #[.slice (some ⟨G, 0, none⟩) g.length c] x1 fun e w' => e = ret3 (n, u, er) ∧ Below x1.heap.size x1 w') := Lib.hid fun G hG => by rw [← hr, hG]; exact rgetInt_any g _ c x1 hcl hcm hrd
  have HB : Hid (Below w.heap.size w x1 ∧ Blk x1 w.heap.size (bs p) 23) := Lib.hid ⟨below_next (below_a1 _ _) hb1, (Blk.at w _ _ _ _ rfl rfl).below hb1 (Blk.at w (bs p) _ 23 _ rfl rfl).lt⟩
  have hw1 : (w.alloc (.cells (bs p).toArray 23)).heap.size = w.heap.size + 1 := by simp
  rw [hw1] at hcv
  have hdh0 : decide ((h : Int) < 0) = false := by simp
  have hdh6 : decide ((6 : Int) < (h : Int)) = false := by simp; omega
  have hdh7 : decide (6 < h) = false := by simp; omega
  clear hrd hb1 hcl hcm hr hg hw1 hm
  go_enter Tryd.func19, Tryd.ntmps19
  go_wp2_with (first
    | (go_at_call 45; (with_reducible refine (HG.out _ ?_).mono ?_); simp; rintro e x2 ⟨rfl, hb2⟩; unfold ret3; have HX2 : Hid (Below w.heap.size w x2 ∧ Blk x2 w.heap.size (bs p) 23) := Lib.hid ⟨below_next HB.out.1 hb2, HB.out.2.below hb2 HB.out.2.lt⟩; clear hb2))
  go_ret2
  exact ⟨rfl, HX2.out.1⟩
set_option maxRecDepth 100000 in
set_option maxHeartbeats 2000000 in
theorem rverify_index (h : Nat) (h6 : h ≤ 6) (hm : m.length ≤ 1000000) (hg : g.length ≤ 1000000) (n : Int) (u : Nat) (hr : gI g = (n, u, 0)) (hn : n < 0 ∨ ((2 ^ h : Nat) : Int) ≤ n) :
    Calls Tryd.prog 19 #[.agg (bs p).toArray, .int .i64 (h : Int), .string (sb m), .string (sb g)] w fun e w' => e = retI2 (0, 2) ∧ Below w.heap.size w w' := by
  have hsz := sb_size m
  have hd : decide ((1048576 : Int) < (m.length : Int)) = false := by simp; omega
  have hok := gI_ok (l := g) (by rw [hr])
  rw [hr] at hok
  obtain ⟨hnI, hul, hu1, hu9, _⟩ := hok
  simp only at hnI hul hu1 hu9
  obtain ⟨r, hre⟩ : ∃ r, r = g.drop u := ⟨_, rfl⟩
  have hgz := sb_size g
  have hcut : (sb g).extract u g.length = sb r := by rw [← hgz, hre]; exact sb_drop g u hul
  have hrz := sb_size r
  have hrl : r.length = g.length - u := by rw [hre, List.length_drop]
  obtain ⟨P, hP⟩ : ∃ P, P = 2 ^ h := ⟨_, rfl⟩
  obtain ⟨hshf, hP64, hP0⟩ := pow_int h P hP h6
  obtain ⟨c, x1, hcv, hrd, hb1, hcl, hcm⟩ := conv_backc (P := Tryd.prog) (src := 9) (dst := 58) Tryd.underlying9 Tryd.underlying58 Tryd.underlying5 (w.alloc (.cells (bs p).toArray 23)) g (by omega)
  have HG : Hid (∀ G, G = (w.alloc (.cells (bs p).toArray 23)).heap.size → Calls Tryd.prog 45 #[.slice (some ⟨G, 0, none⟩) g.length c] x1 fun e w' => e = ret3 (n, u, 0) ∧ Below x1.heap.size x1 w') := Lib.hid fun G hG => by rw [← hr, hG]; exact rgetInt_any g _ c x1 hcl hcm hrd
  have HB : Hid (Below w.heap.size w x1 ∧ Blk x1 w.heap.size (bs p) 23) := Lib.hid ⟨below_next (below_a1 _ _) hb1, (Blk.at w _ _ _ _ rfl rfl).below hb1 (Blk.at w (bs p) _ 23 _ rfl rfl).lt⟩
  have hw1 : (w.alloc (.cells (bs p).toArray 23)).heap.size = w.heap.size + 1 := by simp
  rw [hw1] at hcv
  have hdh0 : decide ((h : Int) < 0) = false := by simp
  have hdh6 : decide ((6 : Int) < (h : Int)) = false := by simp; omega
  have hdh7 : decide (6 < h) = false := by simp; omega
  rw [← hP] at hn
  clear hrd hb1 hcl hcm hr hg hw1 hnI hre hrl hP hm
  by_cases hn0 : n < 0
  · have hd1 : decide (n < 0) = true := by simpa using hn0
    clear hn hn0
    go_enter Tryd.func19, Tryd.ntmps19
    go_wp2_with (first
    | (go_at_call 45; (with_reducible refine (HG.out _ ?_).mono ?_); simp; rintro e x2 ⟨rfl, hb2⟩; unfold ret3; have HX2 : Hid (Below w.heap.size w x2 ∧ Blk x2 w.heap.size (bs p) 23) := Lib.hid ⟨below_next HB.out.1 hb2, HB.out.2.below hb2 HB.out.2.lt⟩; clear hb2))
    go_ret2
    exact ⟨rfl, HX2.out.1⟩
  · have hd1 : decide (n < 0) = false := by simpa using hn0
    have hd2 : decide ((P : Int) ≤ n) = true := by simp; omega
    clear hn hn0
    go_enter Tryd.func19, Tryd.ntmps19
    go_wp2_with (first
    | (go_at_call 45; (with_reducible refine (HG.out _ ?_).mono ?_); simp; rintro e x2 ⟨rfl, hb2⟩; unfold ret3; have HX2 : Hid (Below w.heap.size w x2 ∧ Blk x2 w.heap.size (bs p) 23) := Lib.hid ⟨below_next HB.out.1 hb2, HB.out.2.below hb2 HB.out.2.lt⟩; clear hb2))
    go_ret2
    exact ⟨rfl, HX2.out.1⟩
set_option maxRecDepth 100000 in
set_option maxHeartbeats 2000000 in
theorem rverify_length (h : Nat) (h6 : h ≤ 6) (hm : m.length ≤ 1000000) (hg : g.length ≤ 1000000) (n : Int) (u : Nat) (hr : gI g = (n, u, 0)) (hn0 : 0 ≤ n) (hn : n < ((2 ^ h : Nat) : Int)) (hl : g.length - u ≠ 16 * (68 + h)) :
    Calls Tryd.prog 19 #[.agg (bs p).toArray, .int .i64 (h : Int), .string (sb m), .string (sb g)] w fun e w' => e = retI2 (0, 2) ∧ Below w.heap.size w w' := by
  have hsz := sb_size m
  have hd : decide ((1048576 : Int) < (m.length : Int)) = false := by simp; omega
  have hok := gI_ok (l := g) (by rw [hr])
  rw [hr] at hok
  obtain ⟨hnI, hul, hu1, hu9, _⟩ := hok
  simp only at hnI hul hu1 hu9
  obtain ⟨r, hre⟩ : ∃ r, r = g.drop u := ⟨_, rfl⟩
  have hgz := sb_size g
  have hcut : (sb g).extract u g.length = sb r := by rw [← hgz, hre]; exact sb_drop g u hul
  have hrz := sb_size r
  have hrl : r.length = g.length - u := by rw [hre, List.length_drop]
  obtain ⟨P, hP⟩ : ∃ P, P = 2 ^ h := ⟨_, rfl⟩
  obtain ⟨hshf, hP64, hP0⟩ := pow_int h P hP h6
  obtain ⟨c, x1, hcv, hrd, hb1, hcl, hcm⟩ := conv_backc (P := Tryd.prog) (src := 9) (dst := 58) Tryd.underlying9 Tryd.underlying58 Tryd.underlying5 (w.alloc (.cells (bs p).toArray 23)) g (by omega)
  have HG : Hid (∀ G, G = (w.alloc (.cells (bs p).toArray 23)).heap.size → Calls Tryd.prog 45 #[.slice (some ⟨G, 0, none⟩) g.length c] x1 fun e w' => e = ret3 (n, u, 0) ∧ Below x1.heap.size x1 w') := Lib.hid fun G hG => by rw [← hr, hG]; exact rgetInt_any g _ c x1 hcl hcm hrd
  have HB : Hid (Below w.heap.size w x1 ∧ Blk x1 w.heap.size (bs p) 23) := Lib.hid ⟨below_next (below_a1 _ _) hb1, (Blk.at w _ _ _ _ rfl rfl).below hb1 (Blk.at w (bs p) _ 23 _ rfl rfl).lt⟩
  have hw1 : (w.alloc (.cells (bs p).toArray 23)).heap.size = w.heap.size + 1 := by simp
  rw [hw1] at hcv
  have hdh0 : decide ((h : Int) < 0) = false := by simp
  have hdh6 : decide ((6 : Int) < (h : Int)) = false := by simp; omega
  have hdh7 : decide (6 < h) = false := by simp; omega
  rw [← hP] at hn
  have hd1 : decide (n < 0) = false := by simp; omega
  have hd2 : decide ((P : Int) ≤ n) = false := by simp; omega
  have hne : ((r.length : Int) != (68 + (h : Int)) * 16) = true := by simp; omega
  clear hrd hb1 hcl hcm hr hg hw1 hnI hre hrl hP hm hn hn0 hl
  go_enter Tryd.func19, Tryd.ntmps19
  go_wp2_with (first
    | (go_at_call 45; (with_reducible refine (HG.out _ ?_).mono ?_); simp; rintro e x2 ⟨rfl, hb2⟩; unfold ret3; have HX2 : Hid (Below w.heap.size w x2 ∧ Blk x2 w.heap.size (bs p) 23) := Lib.hid ⟨below_next HB.out.1 hb2, HB.out.2.below hb2 HB.out.2.lt⟩; clear hb2))
  go_ret2
  exact ⟨rfl, HX2.out.1⟩
end
/-- What Verify keeps: the public key, the digits' cells. -/
def VD (w : World) (p : List UInt8) (D : List Nat) (B O : Nat) (W : World) : Prop := Blk W w.heap.size (bs p) 23 ∧ B < W.heap.size ∧ (∀ k v, (is D)[k]? = some v → W.cell? ⟨B, O + k, none⟩ = some v) ∧ Below w.heap.size w W
section
variable {w W W' : World} {p : List UInt8} {D : List Nat} {B O : Nat}
theorem VD.next (H : VD w p D B O W) (hb : Below W.heap.size W W') : VD w p D B O W' :=
  ⟨H.1.below hb H.1.lt, Nat.lt_of_lt_of_le H.2.1 hb.size, fun k v hv => (hb.cell (p := ⟨B, O + k, none⟩) H.2.1).trans (H.2.2.1 k v hv), below_next H.2.2.2 hb⟩
theorem VD.drew (H : VD w p D B O W) : VD w p D B O W.drew := H.next (Below.refl _ _).drew
end
/-- The public key, and the value on the way to the root, in block x. -/
def VV (w : World) (p v : List UInt8) (x : Nat) (W : World) : Prop := Blk W w.heap.size (bs p) 23 ∧ Blk W x (bs v) 23 ∧ w.heap.size < x ∧ Below w.heap.size w W
theorem VV.next {w W W' : World} {p v : List UInt8} {x : Nat} (H : VV w p v x W) (hb : Below W.heap.size W W') : VV w p v x W' := ⟨H.1.below hb H.1.lt, H.2.1.below hb H.2.1.lt, H.2.2.1, below_next H.2.2.2 hb⟩
theorem leafN_piece (i : Int) (r : List UInt8) (D : List Nat) : leafN i (valsOf r) D = dig 1 [dig 9 [piece (fun c => adv i c (D.getD c 0) (3 - D.getD c 0) (cut16 r c)) [] 68]] := by
  rw [leafN, piece_flat, List.nil_append, topsN]
  congr 4
theorem others_succ (r : List UInt8) (h l : Nat) (hl : l < h) : (othersOf r h).take (l + 1) = (othersOf r h).take l ++ [cut16 r (68 + l)] := by
  rw [List.take_succ_eq_append_getElem (by simp [othersOf]; exact hl)]
  congr 2
  simp [othersOf]
set_option maxRecDepth 100000 in
set_option maxHeartbeats 8000000 in
theorem rverify_end (p m g : List UInt8) (w : World) (h i : Nat) (n : Int) (hn : n = (i : Int)) (h6 : h ≤ 6) (hp : p.length = 16) (hm : m.length ≤ 1000000) (hg : g.length ≤ 1000000) (u : Nat) (hr : gI g = (n, u, 0)) (hi : i < 2 ^ h) (hl : g.length - u = 16 * (68 + h))
    (r Z T K N R : List UInt8) (D : List Nat) (Q : Nat → List UInt8) (hre : r = g.drop u) (hZ : Z = dgst p i m) (hD : D = digs Z) (hQ : Q = fun c => adv i c (D.getD c 0) (3 - D.getD c 0) (cut16 r c)) (hT : T = piece Q [] 68) (hK9 : K = dig 9 [T]) (hN : N = dig 1 [K]) (hR : R = rootO i 0 N (othersOf r h)) (res : Int × Int) (hres : res = if R = p then (n, 0) else (0, 10)) (hK : KR w) :
    Calls Tryd.prog 19 #[.agg (bs p).toArray, .int .i64 (h : Int), .string (sb m), .string (sb g)] w fun e w' => e = retI2 res ∧ Below w.heap.size w w' := by
  have hsz := sb_size m
  have hd : decide ((1048576 : Int) < (m.length : Int)) = false := by simp; omega
  have hok := gI_ok (l := g) (by rw [hr])
  rw [hr] at hok
  obtain ⟨hnI, hul, hu1, hu9, _⟩ := hok
  simp only at hnI hul hu1 hu9
  have hgz := sb_size g
  have hcut : (sb g).extract u g.length = sb r := by rw [← hgz, hre]; exact sb_drop g u hul
  have hrz := sb_size r
  have hrl : r.length = 16 * (68 + h) := by rw [hre, List.length_drop]; exact hl
  obtain ⟨P, hP⟩ : ∃ P, P = 2 ^ h := ⟨_, rfl⟩
  obtain ⟨hshf, hP64, hP0⟩ := pow_int h P hP h6
  obtain ⟨c, x1, hcv, hrd, hb1, hcl, hcm⟩ := conv_backc (P := Tryd.prog) (src := 9) (dst := 58) Tryd.underlying9 Tryd.underlying58 Tryd.underlying5 (w.alloc (.cells (bs p).toArray 23)) g (by omega)
  have HG : Hid (∀ G, G = (w.alloc (.cells (bs p).toArray 23)).heap.size → Calls Tryd.prog 45 #[.slice (some ⟨G, 0, none⟩) g.length c] x1 fun e w' => e = ret3 (n, u, 0) ∧ Below x1.heap.size x1 w') := Lib.hid fun G hG => by rw [← hr, hG]; exact rgetInt_any g _ c x1 hcl hcm hrd
  have HB : Hid (Below w.heap.size w x1 ∧ Blk x1 w.heap.size (bs p) 23) := Lib.hid ⟨below_next (below_a1 _ _) hb1, (Blk.at w _ _ _ _ rfl rfl).below hb1 (Blk.at w (bs p) _ 23 _ rfl rfl).lt⟩
  have hw1 : (w.alloc (.cells (bs p).toArray 23)).heap.size = w.heap.size + 1 := by simp
  rw [hw1] at hcv
  have hdh0 : decide ((h : Int) < 0) = false := by simp
  have hdh6 : decide ((6 : Int) < (h : Int)) = false := by simp; omega
  have hdh7 : decide (6 < h) = false := by simp; omega
  have hd1 : decide (n < 0) = false := by simp; omega
  have hd2 : decide ((P : Int) ≤ n) = false := by
    rw [hn]
    exact decide_eq_false (Int.not_le.2 (Int.ofNat_lt.2 (by rw [hP]; exact hi)))
  have hne : ((r.length : Int) != (68 + (h : Int)) * 16) = false := by simp; omega
  have hiP : i < P := by rw [hP]; exact hi
  have hi64 : i < 64 := Nat.lt_of_lt_of_le hiP hP64
  clear hiP
  have hZl : Z.length = 16 := by rw [hZ, dgst_length]
  have hDl : D.length = 68 := by rw [hD, digs_length Z hZl]
  have hD3 : ∀ c, D.getD c 0 ≤ 3 := fun c => by rw [hD]; exact digs_getD_le Z hZl c
  have hC16 : ∀ k, k < 68 + h → (cut16 r k).length = 16 := fun k hk => cut16_length _ _ (by omega)
  have hQl : ∀ k, k < 68 → (Q k).length = 16 := fun k hk => by rw [hQ]; exact adv_length _ _ _ _ _ (hC16 k (by omega))
  have hKl : K.length = 16 := by rw [hK9, dig_length]
  have hNl : N.length = 16 := by rw [hN, dig_length]
  have hRO : ∀ l, (rootO i 0 N ((othersOf r h).take l)).length = 16 := fun l => rootO_length _ _ _ _ hNl
  have hpl : ∀ k, k ≤ 68 → (piece Q [] k).length = 16 * k := fun k => by
    induction k with
    | zero => intro _; rw [piece_zero]; rfl
    | succ k ih => intro hk; rw [piece_succ, List.length_append, ih (by omega), hQl k (by omega)]; omega
  have HDG : Hid (∀ W, KR W → Calls Tryd.prog 17 #[.agg (bs p).toArray, .int .i64 n, .string (sb m)] W fun e w' => e = .returned (.agg (bs Z).toArray) ∧ Below W.heap.size W w') := Lib.hid fun W hk => by rw [hZ, hn]; exact rdgst_any p m i hp (by unfold inI; omega) hm W hk
  have HDI : Hid (∀ W, Calls Tryd.prog 11 #[.agg (bs Z).toArray] W fun e w' => ∃ A c, e = .returned (.slice A 68 c) ∧ Rd w' A (is D) ∧ Below W.heap.size W w') := Lib.hid fun W => by rw [hD]; exact rdigits_any Z hZl W
  have HCU : Hid (∀ (k : Nat) (S C : List UInt8), k < 68 + h → S = r.drop (16 * k) → C = cut16 r k → ∀ W, Calls Tryd.prog 46 #[.string (sb S)] W fun e w' => e = .returned (.agg (bs C).toArray) ∧ Below W.heap.size W w') := Lib.hid fun k S C hk hS hC W => rdig_any S C (by rw [hC, hS, cut16]) (by rw [hS, List.length_drop]; omega) W
  have HAD : Hid (∀ (k f : Nat) (C X : List UInt8), k < 68 → f = D.getD k 0 → C = cut16 r k → X = Q k → ∀ W, KR W → Calls Tryd.prog 38 #[.int .i64 n, .int .i64 (k : Int), .int .i64 (f : Int), .int .i64 3, .agg (bs C).toArray] W fun e w' => e = .returned (.agg (bs X).toArray) ∧ Below W.heap.size W w') := Lib.hid fun k f C X hk hf hC hX W hw => by
    have h3 := hD3 k
    rw [hX, hQ, hn, hC, hf]
    exact radv_any i (by unfold inI; omega) k (D.getD k 0) (3 - D.getD k 0) (k : Int) _ 3 rfl rfl (by omega) _ (by omega) (by omega) (hC16 k (by omega)) W hw
  have HOF9 : Hid (∀ (b : Nat) (W : World), Rd W (some ⟨b, 0, none⟩) [.string (sb T)] → KR W → Calls Tryd.prog 41 #[.int .i64 9, .slice (some ⟨b, 0, none⟩) 1 1] W fun e w' => e = .returned (.agg (bs K).toArray) ∧ Below W.heap.size W w') :=
    Lib.hid fun b W h hk => rof_at 9 [T] K hK9 b 1 rfl (by intro q hq; simp at hq; rw [hq, hT, hpl 68 (by omega)]; omega) (by simp) W h hk
  have HOF1 : Hid (∀ (b : Nat) (W : World), Rd W (some ⟨b, 0, none⟩) [.string (sb K)] → KR W → Calls Tryd.prog 41 #[.int .i64 1, .slice (some ⟨b, 0, none⟩) 1 1] W fun e w' => e = .returned (.agg (bs N).toArray) ∧ Below W.heap.size W w') :=
    Lib.hid fun b W h hk => rof_at 1 [K] N hN b 1 rfl (by intro q hq; simp at hq; rw [hq]; omega) (by simp) W h hk
  have HTX : Hid (∀ (X : List UInt8), X.length = 16 → ∀ W, Calls Tryd.prog 37 #[.agg (bs X).toArray] W fun e w' => e = .returned (.string (sb X)) ∧ Below W.heap.size W w') := Lib.hid fun X hX W => text_any X hX W
  have HTK : Hid (∀ W, Calls Tryd.prog 37 #[.agg (bs K).toArray] W fun e w' => e = .returned (.string (sb K)) ∧ Below W.heap.size W w') := Lib.hid fun W => text_any K hKl W
  have HEQ : Hid (∀ W, (Op.equalIn 10000 23 (.agg (bs R).toArray) (.agg (bs p).toArray)).run Tryd.prog W = .ok (eqB R p) W) := Lib.hid fun W => eq44 R p (by rw [hR]; exact rootO_length _ _ _ _ hNl) hp W
  have HKL : Hid ((bs K).length = 16) := Lib.hid (by rw [bs_length]; exact hKl)
  have HNL : Hid ((bs N).length = 16) := Lib.hid (by rw [bs_length]; exact hNl)
  have HPB : Hid ((bs p).length = 16) := Lib.hid (by rw [bs_length]; exact hp)
  have HL := Lib.hid (And.intro hDl (And.intro hQl (And.intro hC16 (And.intro hT (And.intro hRO (And.intro hR (And.intro hpl (And.intro hres (And.intro hp (And.intro hrl hn))))))))))
  have HK := Lib.hid hK
  clear hK hZ hD hQ hK9 hN hR hres hre hr hl hi hg hm hrd hb1 hcl hcm hw1 hnI hDl hD3 hC16 hQl hKl hNl hRO hpl hZl hT hP hp hrl hn
  go_enter Tryd.func19, Tryd.ntmps19
  go_wp2_with (first
    | (go_at_call 45; (with_reducible refine (HG.out _ ?_).mono ?_); simp; rintro e x2 ⟨rfl, hb2⟩; unfold ret3; have HX2 : Hid (Below w.heap.size w x2 ∧ Blk x2 w.heap.size (bs p) 23) := Lib.hid ⟨below_next HB.out.1 hb2, HB.out.2.below hb2 HB.out.2.lt⟩; clear hb2)
    | (refine wpList_load_blk rfl 23 (.tmp 4) rfl w.heap.size 0 rfl HX2.out.2 _ Tryd.underlying23 rfl 16 Tryd.size44 (by rw [HPB.out]; omega) ?_; rw [List.drop_zero, List.take_of_length_le (by rw [HPB.out]; omega)])
    | (go_at_call 17; (with_reducible refine (HDG.out _ ?_).mono ?_); exact (HK.out.of HX2.out.1); rintro e x3 ⟨rfl, hb3⟩; have HX3 : Hid (Below w.heap.size w x3 ∧ Blk x3 w.heap.size (bs p) 23) := Lib.hid ⟨below_next HX2.out.1 hb3, HX2.out.2.below hb3 HX2.out.2.lt⟩; clear hb3)
    | (go_at_call 11; (with_reducible refine (HDI.out _).mono ?_); rintro e x4 ⟨A4, c4, rfl, hrd4, hb4⟩; obtain ⟨B, O, rfl, hcl4⟩ := hrd4.open (by intro e; have := congrArg List.length e; rw [is_length, HL.out.1] at this; cases this); have HX4 : Hid (VD w p D B O x4) := Lib.hid ⟨HX3.out.2.below hb4 HX3.out.2.lt, World.block_lt_of_cell? x4 ⟨B, O + 0, none⟩ (hcl4 0 _ (is_get D 0 (by rw [HL.out.1]; omega))), hcl4, below_next HX3.out.1 hb4⟩; clear hb4 hcl4 hrd4))
  go_loopg [15, 16] 68 (fun g s15 s16 wr => ∃ k : Nat, k + g = 68 ∧ s16 = .int .i64 k ∧ s15 = .string (sb (piece Q [] k)) ∧ VD w p D B O wr)
  case atStart => exact ⟨0, rfl, rfl, by rw [piece_zero]; rfl, HX4.out⟩
  case round =>
    clear HX2 HX3 HX4 HG HB hcv
    obtain ⟨k, hk, rfl, rfl, hV⟩ := hrel
    by_cases hlt : k < 68
    · obtain ⟨g, rfl⟩ : ∃ g, gk = g + 1 := ⟨gk - 1, by omega⟩
      have HS := Lib.hid hV; clear hV
      have hLl := HL.out.2.2.2.2.2.2.1 k (by omega)
      have hnx := piece_succ Q [] k
      have hXl := HL.out.2.1 k hlt
      generalize piece Q [] k = L at hLl hnx ⊢
      obtain ⟨X, hX⟩ : ∃ X, X = Q k := ⟨_, rfl⟩
      obtain ⟨C, hC⟩ : ∃ C, C = cut16 r k := ⟨_, rfl⟩
      obtain ⟨S, hS⟩ : ∃ S, S = r.drop (16 * k) := ⟨_, rfl⟩
      obtain ⟨f, hf⟩ : ∃ f, f = D.getD k 0 := ⟨_, rfl⟩
      have HCU' := Lib.hid (HCU.out k S C (by omega) hS hC)
      have HAD' := Lib.hid (HAD.out k f C X hlt hf hC hX)
      rw [← hX] at hXl hnx
      have HTX' := Lib.hid (HTX.out X hXl)
      have HCL : Hid (∀ W, Below wr.heap.size wr W → W.cell? ⟨B, O + k, none⟩ = some (.int .i64 (f : Int))) := Lib.hid fun W hb => by rw [hf]; exact (HS.out.next hb).2.2.1 k _ (is_get D k (by rw [HL.out.1]; exact hlt))
      obtain ⟨o, ho⟩ : ∃ o, o = 16 * k := ⟨_, rfl⟩
      have hor : o ≤ r.length := by rw [HL.out.2.2.2.2.2.2.2.2.2.1]; omega
      have hcu : (sb r).extract o r.length = sb S := by rw [← hrz, hS, ← ho]; exact sb_drop r o hor
      have hwo : IntKind.i64.wrap (16 * (k : Int)) = (o : Int) := by rw [IntWalk.i64_in _ (by omega)]; omega
      have hwo2 : IntKind.i64.wrap (o : Int) = (o : Int) := IntWalk.i64_in _ (by omega)
      have ho0 : (0 : Int) ≤ (o : Int) := by omega
      have ho1 : (o : Int) ≤ (r.length : Int) := by omega
      have hcat := sb_append L X
      have hadd := fun (W : World) => run_cat (P := Tryd.prog) (sb L) (sb X) (by rw [sb_size, sb_size, hXl, hLl]; omega) W
      rw [hcat] at hadd
      have HNX := Lib.hid hnx
      have hb0 : (0 : Int) ≤ (k : Int) := by omega
      have hb1 : (k : Int) < 68 := by omega
      clear hcat hLl hXl hnx hX hC hS hf ho
      go_wp2_with fail
      refine wp_region_held_drew (S := fun w' => w'.cell? ⟨B, O + k, none⟩ = some (.int .i64 (f : Int))) (by kernel_rfl) (HCL.out _ (Below.refl _ _).drew) (fun hS0 => ?_)
      refine wpAnyH_take (i := 0) (oi := { dst := some 69, op := Op.move (Operand.tmp 15), type := 9, pos := "ref.go:148", after := #[], guard := none }) (v := ?_) rfl (by kernel_rfl) (by kernel_rfl) (by kernel_rfl) (fun _ _ _ h => h) (Or.inl ⟨by rfl, ?_⟩) (by assumption) ?_
      rotate_left
      · (intro w' hSw; (try dsimp only at hSw); go_simp; try with_reducible rfl)
      try simp only [Act.put, List.setIfInBounds_toArray, List.set_cons_zero, List.set_cons_succ]
      refine wpAnyH_take (i := 1) (oi := { dst := some 70, op := Op.move (Operand.tmp 10), type := 3, pos := "ref.go:148", after := #[], guard := none }) (v := ?_) rfl (by kernel_rfl) (by kernel_rfl) (by kernel_rfl) (fun _ _ _ h => h) (Or.inl ⟨by rfl, ?_⟩) (by assumption) ?_
      rotate_left
      · (intro w' hSw; (try dsimp only at hSw); go_simp; try with_reducible rfl)
      try simp only [Act.put, List.setIfInBounds_toArray, List.set_cons_zero, List.set_cons_succ]
      refine wpAnyH_take (i := 2) (oi := { dst := some 71, op := Op.move (Operand.tmp 16), type := 3, pos := "ref.go:148", after := #[], guard := none }) (v := ?_) rfl (by kernel_rfl) (by kernel_rfl) (by kernel_rfl) (fun _ _ _ h => h) (Or.inl ⟨by rfl, ?_⟩) (by assumption) ?_
      rotate_left
      · (intro w' hSw; (try dsimp only at hSw); go_simp; try with_reducible rfl)
      try simp only [Act.put, List.setIfInBounds_toArray, List.set_cons_zero, List.set_cons_succ]
      refine wpAnyH_take (i := 3) (oi := { dst := some 72, op := Op.move (Operand.tmp 14), type := 25, pos := "ref.go:148", after := #[], guard := none }) (v := ?_) rfl (by kernel_rfl) (by kernel_rfl) (by kernel_rfl) (fun _ _ _ h => h) (Or.inl ⟨by rfl, ?_⟩) (by assumption) ?_
      rotate_left
      · (intro w' hSw; (try dsimp only at hSw); go_simp; try with_reducible rfl)
      try simp only [Act.put, List.setIfInBounds_toArray, List.set_cons_zero, List.set_cons_succ]
      refine wpAnyH_take (i := 4) (oi := { dst := some 73, op := Op.move (Operand.tmp 16), type := 3, pos := "ref.go:148", after := #[], guard := none }) (v := ?_) rfl (by kernel_rfl) (by kernel_rfl) (by kernel_rfl) (fun _ _ _ h => h) (Or.inl ⟨by rfl, ?_⟩) (by assumption) ?_
      rotate_left
      · (intro w' hSw; (try dsimp only at hSw); go_simp; try with_reducible rfl)
      try simp only [Act.put, List.setIfInBounds_toArray, List.set_cons_zero, List.set_cons_succ]
      refine wpAnyH_take (i := 5) (oi := { dst := some 74, op := Op.indexAddr 25 (Operand.tmp 72) (Operand.tmp 73), type := 0, pos := "ref.go:148", after := #[{ on := 3, ground := Ground.data }, { on := 4, ground := Ground.data }], guard := none }) (v := ?_) rfl (by kernel_rfl) (by kernel_rfl) (by kernel_rfl) (fun _ _ _ h => h) (Or.inl ⟨by rfl, ?_⟩) (by assumption) ?_
      rotate_left
      · (intro w' hSw; (try dsimp only at hSw); go_simp; try with_reducible rfl)
      try simp only [Act.put, List.setIfInBounds_toArray, List.set_cons_zero, List.set_cons_succ]
      refine wpAnyH_take (i := 6) (oi := { dst := some 75, op := Op.load 3 (Operand.tmp 74), type := 3, pos := "ref.go:148", after := #[{ on := 5, ground := Ground.data }], guard := none }) (v := ?_) rfl (by kernel_rfl) (by kernel_rfl) (by kernel_rfl) (fun _ _ _ h => h) (Or.inl ⟨by rfl, ?_⟩) (by assumption) ?_
      rotate_left
      · (intro w' hSw; (try dsimp only at hSw); go_simp; try with_reducible rfl)
      try simp only [Act.put, List.setIfInBounds_toArray, List.set_cons_zero, List.set_cons_succ]
      refine wpAnyH_take (i := 7) (oi := { dst := some 76, op := Op.move (Operand.tmp 13), type := 9, pos := "ref.go:148", after := #[], guard := none }) (v := ?_) rfl (by kernel_rfl) (by kernel_rfl) (by kernel_rfl) (fun _ _ _ h => h) (Or.inl ⟨by rfl, ?_⟩) (by assumption) ?_
      rotate_left
      · (intro w' hSw; (try dsimp only at hSw); go_simp; try with_reducible rfl)
      try simp only [Act.put, List.setIfInBounds_toArray, List.set_cons_zero, List.set_cons_succ]
      refine wpAnyH_take (i := 8) (oi := { dst := some 77, op := Op.move (Operand.tmp 16), type := 3, pos := "ref.go:148", after := #[], guard := none }) (v := ?_) rfl (by kernel_rfl) (by kernel_rfl) (by kernel_rfl) (fun _ _ _ h => h) (Or.inl ⟨by rfl, ?_⟩) (by assumption) ?_
      rotate_left
      · (intro w' hSw; (try dsimp only at hSw); go_simp; try with_reducible rfl)
      try simp only [Act.put, List.setIfInBounds_toArray, List.set_cons_zero, List.set_cons_succ]
      refine wpAnyH_take (i := 9) (oi := { dst := some 78, op := Op.binOp BinOp.mul 3 (Operand.const (Value.int IntKind.i64 16)) (Operand.tmp 77) 3, type := 3, pos := "ref.go:148", after := #[{ on := 8, ground := Ground.data }], guard := none }) (v := ?_) rfl (by kernel_rfl) (by kernel_rfl) (by kernel_rfl) (fun _ _ _ h => h) (Or.inl ⟨by rfl, ?_⟩) (by assumption) ?_
      rotate_left
      · (intro w' hSw; (try dsimp only at hSw); go_simp; try with_reducible rfl)
      try simp only [Act.put, List.setIfInBounds_toArray, List.set_cons_zero, List.set_cons_succ]
      refine wpAnyH_take (i := 10) (oi := { dst := some 79, op := Op.slice 9 (Operand.tmp 76) (some (Operand.tmp 78)) none none, type := 9, pos := "ref.go:148", after := #[{ on := 7, ground := Ground.data }, { on := 9, ground := Ground.data }], guard := none }) (v := ?_) rfl (by kernel_rfl) (by kernel_rfl) (by kernel_rfl) (fun _ _ _ h => h) (Or.inl ⟨by rfl, ?_⟩) (by assumption) ?_
      rotate_left
      · (intro w' hSw; (try dsimp only at hSw); go_simp; try with_reducible rfl)
      try simp only [Act.put, List.setIfInBounds_toArray, List.set_cons_zero, List.set_cons_succ]
      refine wpAnyH_ready (rs := [11]) (by kernel_rfl) (by simp) ?_
      refine AllReadyH.cons (o := { dst := some 80, op := Op.call { callee := Callee.value (Operand.func 46), args := #[Operand.tmp 79], argTypes := #[9] }, type := 23, pos := "ref.go:148", after := #[{ on := 10, ground := Ground.data }], guard := none }) rfl (fun K hK => ?_) AllReadyH.nil
      go_simp
      go_at_call 46
      refine (HCU'.out _).mono ?_
      rintro e y1 ⟨rfl, hb⟩
      have HY1 : Hid (VD w p D B O y1) := Lib.hid (HS.out.drew.next hb)
      have HY1W : Hid (Below wr.heap.size wr y1) := Lib.hid (below_next (Below.refl _ wr).drew hb)
      clear hb
      refine hK _ _ (HCL.out _ HY1W.out) (fun hS1 => ?_)
      clear hK K
      try simp only [Act.put, List.setIfInBounds_toArray, List.set_cons_zero, List.set_cons_succ]
      refine wpAnyH_ready (rs := [12]) (by kernel_rfl) (by simp) ?_
      refine AllReadyH.cons (o := { dst := some 81, op := Op.call { callee := Callee.value (Operand.func 38), args := #[Operand.tmp 70, Operand.tmp 71, Operand.tmp 75, Operand.const (Value.int IntKind.i64 3), Operand.tmp 80], argTypes := #[3, 3, 3, 3, 23] }, type := 23, pos := "ref.go:148", after := #[{ on := 1, ground := Ground.data }, { on := 2, ground := Ground.data }, { on := 6, ground := Ground.data }, { on := 11, ground := Ground.data }, { on := 11, ground := Ground.chain }], guard := none }) rfl (fun K hK => ?_) AllReadyH.nil
      go_simp
      go_at_call 38
      refine (HAD'.out _ (HK.out.of HY1.out.2.2.2)).mono ?_
      rintro e y2 ⟨rfl, hb⟩
      have HY2 : Hid (VD w p D B O y2) := Lib.hid (HY1.out.next hb)
      have HY2W : Hid (Below wr.heap.size wr y2) := Lib.hid (below_next HY1W.out hb)
      clear hb
      refine hK _ _ (HCL.out _ HY2W.out) (fun hS2 => ?_)
      clear hK K
      try simp only [Act.put, List.setIfInBounds_toArray, List.set_cons_zero, List.set_cons_succ]
      refine wpAnyH_ready (rs := [13]) (by kernel_rfl) (by simp) ?_
      refine AllReadyH.cons (o := { dst := some 82, op := Op.call { callee := Callee.value (Operand.func 37), args := #[Operand.tmp 81], argTypes := #[23] }, type := 9, pos := "ref.go:148", after := #[{ on := 12, ground := Ground.data }, { on := 12, ground := Ground.chain }], guard := none }) rfl (fun K hK => ?_) AllReadyH.nil
      go_simp
      go_at_call 37
      refine (HTX'.out _).mono ?_
      rintro e y3 ⟨rfl, hb⟩
      have HY3 : Hid (VD w p D B O y3) := Lib.hid (HY2.out.next hb)
      have HY3W : Hid (Below wr.heap.size wr y3) := Lib.hid (below_next HY2W.out hb)
      clear hb
      refine hK _ _ (HCL.out _ HY3W.out) (fun hS3 => ?_)
      clear hK K
      try simp only [Act.put, List.setIfInBounds_toArray, List.set_cons_zero, List.set_cons_succ]
      refine wpAnyH_take (i := 14) (oi := { dst := some 83, op := Op.binOp BinOp.add 9 (Operand.tmp 69) (Operand.tmp 82) 9, type := 9, pos := "ref.go:148", after := #[{ on := 0, ground := Ground.data }, { on := 13, ground := Ground.data }], guard := none }) (v := ?_) rfl (by kernel_rfl) (by kernel_rfl) (by kernel_rfl) (fun _ _ _ h => h) (Or.inl ⟨by rfl, ?_⟩) (by assumption) ?_
      rotate_left
      · (intro w' hSw; (try dsimp only at hSw); go_simp; try with_reducible rfl)
      try simp only [Act.put, List.setIfInBounds_toArray, List.set_cons_zero, List.set_cons_succ]
      refine wpAnyH_take (i := 15) (oi := { dst := some 15, op := Op.assign (Operand.tmp 83), type := 9, pos := "ref.go:148", after := #[{ on := 14, ground := Ground.data }, { on := 13, ground := Ground.chain }, { on := 0, ground := Ground.phase }, { on := 1, ground := Ground.phase }, { on := 2, ground := Ground.phase }, { on := 3, ground := Ground.phase }, { on := 4, ground := Ground.phase }, { on := 5, ground := Ground.phase }, { on := 6, ground := Ground.phase }, { on := 7, ground := Ground.phase }, { on := 8, ground := Ground.phase }, { on := 9, ground := Ground.phase }, { on := 10, ground := Ground.phase }, { on := 11, ground := Ground.phase }, { on := 12, ground := Ground.phase }, { on := 13, ground := Ground.phase }, { on := 14, ground := Ground.phase }], guard := none }) (v := ?_) rfl (by kernel_rfl) (by kernel_rfl) (by kernel_rfl) (fun _ _ _ h => h) (Or.inl ⟨by rfl, ?_⟩) (by assumption) ?_
      rotate_left
      · (intro w' hSw; (try dsimp only at hSw); go_simp; try with_reducible rfl)
      try simp only [Act.put, List.setIfInBounds_toArray, List.set_cons_zero, List.set_cons_succ]
      refine wpAnyH_done (by kernel_rfl) ?_ _
      go_wp2_with fail
      go_roundg g
      case rel => exact ⟨k + 1, by omega, by go_num, by rw [HNX.out], HY3.out⟩
      case measure => omega
    · obtain rfl : k = 68 := by omega
      rw [← HL.out.2.2.2.1]
      have HS := Lib.hid hV; clear hV
      rw [show ((68 : Nat) : Int) = 68 from rfl]
      go_wp2_with (first
        | (go_at_call 41; (with_reducible refine (HOF9.out _ _ ?_ ?_).mono ?_); exact Rd.of_blk (Blk.at wr [.string (sb T)] _ _ _ rfl rfl); exact HK.out.of (al HS.out.2.2.2 _); rintro e z1 ⟨rfl, hb1⟩; have HZ1 : Hid (Blk z1 w.heap.size (bs p) 23 ∧ Below w.heap.size w z1) := Lib.hid ⟨(HS.out.1.alloc _).below hb1 (HS.out.1.alloc _).lt, below_next (al HS.out.2.2.2 _) hb1⟩; clear hb1)
        | (refine wpList_store_blk rfl 23 (.tmp 17) (.tmp 86) rfl z1.heap.size 0 rfl (bs K) rfl (Blk.new' z1 (bs (List.replicate 16 0)) _ 23 rfl) 16 Tryd.size44 HKL.out (by rw [bs_length, List.length_replicate]; omega) (bs_one _) ?_; intro z2 hst2; rw [List.take_zero, List.nil_append, List.drop_of_length_le (by rw [bs_length, List.length_replicate]; omega), List.append_nil] at hst2; have HZ2 : Hid (Blk z2 w.heap.size (bs p) 23 ∧ Blk z2 z1.heap.size (bs K) 23 ∧ Below w.heap.size w z2) := Lib.hid ⟨hst2.other (HZ1.out.1.alloc _) (by have := HZ1.out.1.lt; omega), hst2.1, hst2.below (al HZ1.out.2 _) HZ1.out.2.size⟩; clear hst2)
        | (refine wpList_load_blk rfl 23 (.tmp 17) rfl z1.heap.size 0 rfl HZ2.out.2.1 _ Tryd.underlying23 rfl 16 Tryd.size44 (by rw [HKL.out]; omega) ?_; rw [List.drop_zero, List.take_of_length_le (by rw [HKL.out]; omega)])
        | (go_at_call 37; (with_reducible refine (HTK.out _).mono ?_); rintro e z3 ⟨rfl, hb3⟩; have HZ3 : Hid (Blk z3 w.heap.size (bs p) 23 ∧ Below w.heap.size w z3) := Lib.hid ⟨HZ2.out.1.below hb3 HZ2.out.1.lt, below_next HZ2.out.2.2 hb3⟩; clear hb3)
        | (go_at_call 41; (with_reducible refine (HOF1.out _ _ ?_ ?_).mono ?_); exact Rd.of_blk (Blk.at z3 [.string (sb K)] _ _ _ rfl rfl); exact HK.out.of (al HZ3.out.2 _); rintro e z4 ⟨rfl, hb4⟩; have HZ4 : Hid (Blk z4 w.heap.size (bs p) 23 ∧ Below w.heap.size w z4) := Lib.hid ⟨(HZ3.out.1.alloc _).below hb4 (HZ3.out.1.alloc _).lt, below_next (al HZ3.out.2 _) hb4⟩; clear hb4)
        | (refine wpList_store_blk rfl 23 (.tmp 18) (.tmp 90) rfl z4.heap.size 0 rfl (bs N) rfl (Blk.new' z4 (bs (List.replicate 16 0)) _ 23 rfl) 16 Tryd.size44 HNL.out (by rw [bs_length, List.length_replicate]; omega) (bs_one _) ?_; intro z5 hst5; rw [List.take_zero, List.nil_append, List.drop_of_length_le (by rw [bs_length, List.length_replicate]; omega), List.append_nil] at hst5; have HZ5 : Hid (VV w p N z4.heap.size z5) := Lib.hid ⟨hst5.other (HZ4.out.1.alloc _) (by have := HZ4.out.1.lt; omega), hst5.1, HZ4.out.1.lt, hst5.below (al HZ4.out.2 _) HZ4.out.2.size⟩; clear hst5))
      obtain ⟨x, hx⟩ : ∃ x, x = z4.heap.size := ⟨_, rfl⟩
      rw [← hx] at HZ5 ⊢
      clear HZ1 HZ2 HZ3 HZ4 HS hx hshf
      go_loopg [19, 20, 21] h (fun g s19 s20 s21 wr => ∃ l : Nat, l + g = h ∧ s20 = .int .i64 l ∧ s19 = .int .i64 ((i / 2 ^ l : Nat) : Int) ∧ VV w p (rootO i 0 N ((othersOf r h).take l)) x wr)
      case atStart => exact ⟨0, by omega, rfl, by rw [HL.out.2.2.2.2.2.2.2.2.2.2]; simp, HZ5.out⟩
      case round =>
        clear HZ5
        obtain ⟨l, hl, rfl, rfl, hV⟩ := hrel
        by_cases hlt : l < h
        · obtain ⟨g, rfl⟩ : ∃ g, gk = g + 1 := ⟨gk - 1, by omega⟩
          obtain ⟨j, hj⟩ : ∃ j, j = i / 2 ^ l := ⟨_, rfl⟩
          have hj2 : i / 2 ^ (l + 1) = j / 2 := by rw [hj, Nat.pow_succ, Nat.div_div_eq_div_mul]
          obtain ⟨C, hC⟩ : ∃ C, C = cut16 r (68 + l) := ⟨_, rfl⟩
          obtain ⟨S, hS⟩ : ∃ S, S = r.drop (16 * (68 + l)) := ⟨_, rfl⟩
          have hCl : C.length = 16 := by rw [hC]; exact HL.out.2.2.1 _ (by omega)
          have HCU' := Lib.hid (HCU.out (68 + l) S C (by omega) hS hC)
          obtain ⟨v, hv⟩ : ∃ v, v = rootO i 0 N ((othersOf r h).take l) := ⟨_, rfl⟩
          have hvl : v.length = 16 := by rw [hv]; exact HL.out.2.2.2.2.1 l
          have hsn : rootO i 0 N ((othersOf r h).take (l + 1)) = if j % 2 = 0 then par v C else par C v := by
            have ht : ((othersOf r h).take l).length = l := by simp [othersOf]; omega
            rw [others_succ r h l hlt, rootO_snoc, ht, Nat.zero_add, ← hj, ← hv, ← hC]
          rw [← hv] at hV
          rw [← hj]
          obtain ⟨o, ho⟩ : ∃ o, o = 16 * (68 + l) := ⟨_, rfl⟩
          have hor : o ≤ r.length := by rw [HL.out.2.2.2.2.2.2.2.2.2.1]; omega
          have hcu : (sb r).extract o r.length = sb S := by rw [← hrz, hS, ← ho]; exact sb_drop r o hor
          have hwo : 16 * (68 + (l : Int)) = (o : Int) := by omega
          have ho0 : (0 : Int) ≤ (o : Int) := by omega
          have ho1 : (o : Int) ≤ (r.length : Int) := by omega
          have HCB : Hid ((bs C).length = 16) := Lib.hid (by rw [bs_length]; exact hCl)
          have HVB : Hid ((bs v).length = 16) := Lib.hid (by rw [bs_length]; exact hvl)
          have HJ := Lib.hid (And.intro hj hj2)
          have HS := Lib.hid hV
          have hjB : j < 64 := by have := Nat.div_le_self i (2 ^ l); omega
          by_cases hpar : j % 2 = 1
          · have hod : ((j : Int) % 2 == 1) = true := by simp; omega
            obtain ⟨E, hE⟩ : ∃ E, E = par C v := ⟨_, rfl⟩
            have HND : Hid (∀ W, KR W → Calls Tryd.prog 47 #[.agg (bs C).toArray, .agg (bs v).toArray] W fun e w' => e = .returned (.agg (bs E).toArray) ∧ Below W.heap.size W w') := Lib.hid fun W hk => by rw [hE]; exact rnode_any C v hCl hvl W hk
            have HEL : Hid ((bs E).length = 16) := Lib.hid (by rw [bs_length, hE, par_length])
            have HSN : Hid (rootO i 0 N ((othersOf r h).take (l + 1)) = E) := Lib.hid (by rw [hsn, if_neg (by omega), hE])
            clear hC hS hv hsn ho hE hCl hvl hV hj hj2 hpar
            go_wp2_with (first
              | (go_at_call 46; (with_reducible refine (HCU'.out _).mono ?_); rintro e y1 ⟨rfl, hb1⟩; have HY1 : Hid (VV w p v x y1) := Lib.hid (HS.out.next hb1); clear hb1)
              | (refine wpList_store_blk rfl 23 (.tmp 21) (.tmp 102) rfl y1.heap.size 0 rfl (bs C) rfl (Blk.new' y1 (bs (List.replicate 16 0)) _ 23 rfl) 16 Tryd.size44 HCB.out (by rw [bs_length, List.length_replicate]; omega) (bs_one _) ?_; intro y2 hst2; rw [List.take_zero, List.nil_append, List.drop_of_length_le (by rw [bs_length, List.length_replicate]; omega), List.append_nil] at hst2; have HY2 : Hid (VV w p v x y2 ∧ Blk y2 y1.heap.size (bs C) 23) := Lib.hid ⟨⟨hst2.other (HY1.out.1.alloc _) (by have := HY1.out.1.lt; omega), hst2.other (HY1.out.2.1.alloc _) (by have := HY1.out.2.1.lt; omega), HY1.out.2.2.1, hst2.below (al HY1.out.2.2.2 _) HY1.out.2.2.2.size⟩, hst2.1⟩; clear hst2)
              | (refine wpList_load_blk rfl 23 (.tmp 21) rfl y1.heap.size 0 rfl HY2.out.2 _ Tryd.underlying23 rfl 16 Tryd.size44 (by rw [HCB.out]; omega) ?_; rw [List.drop_zero, List.take_of_length_le (by rw [HCB.out]; omega)])
              | (refine wpList_load_blk rfl 23 (.tmp 18) rfl x 0 rfl HY2.out.1.2.1 _ Tryd.underlying23 rfl 16 Tryd.size44 (by rw [HVB.out]; omega) ?_; rw [List.drop_zero, List.take_of_length_le (by rw [HVB.out]; omega)])
              | (go_at_call 47; (with_reducible refine (HND.out _ ?_).mono ?_); exact (HK.out.of HY2.out.1.2.2.2); rintro e y3 ⟨rfl, hb3⟩; have HY3 : Hid (VV w p v x y3) := Lib.hid (HY2.out.1.next hb3); clear hb3)
              | (refine wpList_store_blk rfl 23 (.tmp 18) (.tmp 108) rfl x 0 rfl (bs E) rfl HY3.out.2.1 16 Tryd.size44 HEL.out (by rw [HVB.out]; omega) (bs_one _) ?_; intro y4 hst4; rw [List.take_zero, List.nil_append, List.drop_of_length_le (by rw [HVB.out]; omega), List.append_nil] at hst4; have HY4 : Hid (VV w p E x y4) := Lib.hid ⟨hst4.other HY3.out.1 (by have := HY3.out.2.2.1; omega), hst4.1, HY3.out.2.2.1, hst4.below HY3.out.2.2.2 (by have := HY3.out.2.2.1; omega)⟩; clear hst4))
            go_roundg g
            case rel => exact ⟨l + 1, by omega, by go_num, by rw [HJ.out.2]; rfl, by rw [HSN.out]; exact HY4.out⟩
            case measure => omega
          · have hod : ((j : Int) % 2 == 1) = false := by simp; omega
            obtain ⟨E, hE⟩ : ∃ E, E = par v C := ⟨_, rfl⟩
            have HND : Hid (∀ W, KR W → Calls Tryd.prog 47 #[.agg (bs v).toArray, .agg (bs C).toArray] W fun e w' => e = .returned (.agg (bs E).toArray) ∧ Below W.heap.size W w') := Lib.hid fun W hk => by rw [hE]; exact rnode_any v C hvl hCl W hk
            have HEL : Hid ((bs E).length = 16) := Lib.hid (by rw [bs_length, hE, par_length])
            have HSN : Hid (rootO i 0 N ((othersOf r h).take (l + 1)) = E) := Lib.hid (by rw [hsn, if_pos (by omega), hE])
            clear hC hS hv hsn ho hE hCl hvl hV hj hj2 hpar
            go_wp2_with (first
              | (go_at_call 46; (with_reducible refine (HCU'.out _).mono ?_); rintro e y1 ⟨rfl, hb1⟩; have HY1 : Hid (VV w p v x y1) := Lib.hid (HS.out.next hb1); clear hb1)
              | (refine wpList_store_blk rfl 23 (.tmp 21) (.tmp 102) rfl y1.heap.size 0 rfl (bs C) rfl (Blk.new' y1 (bs (List.replicate 16 0)) _ 23 rfl) 16 Tryd.size44 HCB.out (by rw [bs_length, List.length_replicate]; omega) (bs_one _) ?_; intro y2 hst2; rw [List.take_zero, List.nil_append, List.drop_of_length_le (by rw [bs_length, List.length_replicate]; omega), List.append_nil] at hst2; have HY2 : Hid (VV w p v x y2 ∧ Blk y2 y1.heap.size (bs C) 23) := Lib.hid ⟨⟨hst2.other (HY1.out.1.alloc _) (by have := HY1.out.1.lt; omega), hst2.other (HY1.out.2.1.alloc _) (by have := HY1.out.2.1.lt; omega), HY1.out.2.2.1, hst2.below (al HY1.out.2.2.2 _) HY1.out.2.2.2.size⟩, hst2.1⟩; clear hst2)
              | (refine wpList_load_blk rfl 23 (.tmp 21) rfl y1.heap.size 0 rfl HY2.out.2 _ Tryd.underlying23 rfl 16 Tryd.size44 (by rw [HCB.out]; omega) ?_; rw [List.drop_zero, List.take_of_length_le (by rw [HCB.out]; omega)])
              | (refine wpList_load_blk rfl 23 (.tmp 18) rfl x 0 rfl HY2.out.1.2.1 _ Tryd.underlying23 rfl 16 Tryd.size44 (by rw [HVB.out]; omega) ?_; rw [List.drop_zero, List.take_of_length_le (by rw [HVB.out]; omega)])
              | (go_at_call 47; (with_reducible refine (HND.out _ ?_).mono ?_); exact (HK.out.of HY2.out.1.2.2.2); rintro e y3 ⟨rfl, hb3⟩; have HY3 : Hid (VV w p v x y3) := Lib.hid (HY2.out.1.next hb3); clear hb3)
              | (refine wpList_store_blk rfl 23 (.tmp 18) (.tmp 111) rfl x 0 rfl (bs E) rfl HY3.out.2.1 16 Tryd.size44 HEL.out (by rw [HVB.out]; omega) (bs_one _) ?_; intro y4 hst4; rw [List.take_zero, List.nil_append, List.drop_of_length_le (by rw [HVB.out]; omega), List.append_nil] at hst4; have HY4 : Hid (VV w p E x y4) := Lib.hid ⟨hst4.other HY3.out.1 (by have := HY3.out.2.2.1; omega), hst4.1, HY3.out.2.2.1, hst4.below HY3.out.2.2.2 (by have := HY3.out.2.2.1; omega)⟩; clear hst4))
            go_roundg g
            case rel => exact ⟨l + 1, by omega, by go_num, by rw [HJ.out.2]; rfl, by rw [HSN.out]; exact HY4.out⟩
            case measure => omega
        · obtain rfl : l = h := by omega
          have hall : (othersOf r l).take l = othersOf r l := List.take_of_length_le (by simp [othersOf])
          rw [hall, ← HL.out.2.2.2.2.2.1] at hV
          have hRl : (bs R).length = 16 := by rw [bs_length, HL.out.2.2.2.2.2.1]; have := HL.out.2.2.2.2.1 l; rw [hall] at this; exact this
          have HRL := Lib.hid hRl
          have HS := Lib.hid hV
          have heq := HEQ.out
          clear hV hall hRl
          by_cases hq : R = p
          · have hqb : eqB R p = true := (eqB_iff R p).2 hq
            have HQ : Hid (res = (n, 0)) := Lib.hid (by rw [HL.out.2.2.2.2.2.2.2.1, if_pos hq])
            rw [hqb] at heq
            clear hq hqb
            go_wp2_with (first
              | (refine wpList_load_blk rfl 23 (.tmp 18) rfl x 0 rfl HS.out.2.1 _ Tryd.underlying23 rfl 16 Tryd.size44 (by rw [HRL.out]; omega) ?_; rw [List.drop_zero, List.take_of_length_le (by rw [HRL.out]; omega)])
              | (refine wpList_load_blk rfl 23 (.tmp 4) rfl w.heap.size 0 rfl HS.out.1 _ Tryd.underlying23 rfl 16 Tryd.size44 (by rw [HPB.out]; omega) ?_; rw [List.drop_zero, List.take_of_length_le (by rw [HPB.out]; omega)]))
            go_ret2
            exact ⟨by rw [HQ.out]; rfl, HS.out.2.2.2⟩
          · have hqb : eqB R p = false := by rw [← Bool.not_eq_true, eqB_iff]; exact hq
            have HQ : Hid (res = (0, 10)) := Lib.hid (by rw [HL.out.2.2.2.2.2.2.2.1, if_neg hq])
            rw [hqb] at heq
            clear hq hqb
            go_wp2_with (first
              | (refine wpList_load_blk rfl 23 (.tmp 18) rfl x 0 rfl HS.out.2.1 _ Tryd.underlying23 rfl 16 Tryd.size44 (by rw [HRL.out]; omega) ?_; rw [List.drop_zero, List.take_of_length_le (by rw [HRL.out]; omega)])
              | (refine wpList_load_blk rfl 23 (.tmp 4) rfl w.heap.size 0 rfl HS.out.1 _ Tryd.underlying23 rfl 16 Tryd.size44 (by rw [HPB.out]; omega) ?_; rw [List.drop_zero, List.take_of_length_le (by rw [HPB.out]; omega)]))
            go_ret2
            exact ⟨by rw [HQ.out]; rfl, HS.out.2.2.2⟩
theorem rverify_any (p m g : List UInt8) (w : World) (h : Int) (hp : p.length = 16) (hm : m.length ≤ 1000000) (hg : g.length ≤ 1000000) (hK : KR w) :
    Calls Tryd.prog 19 #[.agg (bs p).toArray, .int .i64 h, .string (sb m), .string (sb g)] w fun e w' => e = retI2 (ver p h m g) ∧ Below w.heap.size w w' := by
  by_cases h1 : h < 0 ∨ 6 < h
  · have e : ver p h m g = (0, 1) := by rw [ver, if_pos h1]
    rw [e]
    exact rverify_arg p m g w h h1
  · obtain ⟨k, hk⟩ : ∃ k : Nat, h = (k : Int) := ⟨h.toNat, by omega⟩
    have hkt : h.toNat = k := by omega
    have h2 : ¬ 1048576 < m.length := by omega
    obtain ⟨n, u, er, hr⟩ : ∃ n u er, gI g = (n, u, er) := ⟨_, _, _, rfl⟩
    by_cases h3 : er ≠ 0
    · have e : ver p h m g = (0, er) := by rw [ver, if_neg h1, if_neg h2, hr, if_pos h3]
      rw [e, hk]
      exact rverify_int p m g w k (by omega) hm hg n u er hr h3
    · obtain rfl : er = 0 := by omega
      by_cases h4 : n < 0 ∨ ((2 ^ k : Nat) : Int) ≤ n ∨ g.length - u ≠ 16 * (68 + k)
      · have e : ver p h m g = (0, 2) := by rw [ver, if_neg h1, if_neg h2, hr, if_neg (by simp), hkt, if_pos h4]
        rw [e, hk]
        by_cases h5 : n < 0 ∨ ((2 ^ k : Nat) : Int) ≤ n
        · exact rverify_index p m g w k (by omega) hm hg n u hr h5
        · exact rverify_length p m g w k (by omega) hm hg n u hr (by omega) (by omega) (by omega)
      · have e : ver p h m g = if way p k n.toNat m (g.drop u) = p then (n, 0) else (0, 10) := by rw [ver, if_neg h1, if_neg h2, hr, if_neg (by simp), hkt, if_neg h4]
        obtain ⟨i, hi⟩ : ∃ i : Nat, n = (i : Int) := ⟨n.toNat, by omega⟩
        have hit : n.toNat = i := by omega
        rw [hit, way, leafN_piece] at e
        rw [hk] at e ⊢
        exact rverify_end p m g w k i n hi (by omega) hp hm hg u hr (by omega) (by omega) _ _ _ _ _ _ _ _ rfl rfl rfl rfl rfl rfl rfl rfl _ e hK
end Go.Proofs.YtbgcnfikcddcpaaDoor
