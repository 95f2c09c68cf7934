/-
  The walk of sign's Verify.
-/
import Derived.Test.YtbgcnfikcddcpaaDoorSMake
import Derived.Test.YtbgcnfikcddcpaaDoorSGet
import Derived.Stop.BytesEq
import Derived.Deep.RegionHeld3
namespace Go.Proofs.YtbgcnfikcddcpaaDoor
open Go.RowKit
set_option linter.unusedVariables false
set_option linter.unusedSimpArgs false
open Sha Sgn
namespace Sgn
/-- What Verify answers: the index, the error. -/
def ver (p : B) (h : Int) (m g : B) : Int × Int :=
  if h < 0 ∨ 6 < h then (0, 1) else if 1048576 < m.length then (0, 4) else if (gI g).2.2 ≠ 0 then (0, (gI g).2.2)
  else if (gI g).1 < 0 ∨ ((2 ^ h.toNat : Nat) : Int) ≤ (gI g).1 ∨ g.length - (gI g).2.1 ≠ 16 * (68 + h.toNat) then (0, 2)
  else if way p h.toNat (gI g).1.toNat m (g.drop (gI g).2.1) = p then ((gI g).1, 0) else (0, 10)
attribute [irreducible] ver
end Sgn
def retI2 (r : Int × Int) : Ending := .returned (.tuple #[.int .i64 r.1, .int .i64 r.2])
theorem conv_backc {P : Program} {src dst e : TypeId} (hs : P.underlying src = some .string) (hd : P.underlying dst = some (.slice e)) (he : P.underlying e = some (.int .u8)) (w : World) (l : List UInt8) (hl : l.length ≤ 1000000000) :
    ∃ c w', (convert src dst (.string (sb l))).run P w = .ok (.slice (some ⟨w.heap.size, 0, none⟩) l.length c) w' ∧ Rd w' (some ⟨w.heap.size, 0, none⟩) (bs l) ∧ Below w.heap.size w w' ∧ l.length ≤ c ∧ c ≤ maxLen := by
  have hz := sb_size l
  have h1 := run_bytes_of_string w src dst e (sb l) hs hd he
  obtain ⟨c, w', h2, h3, h4⟩ := conv_back hs hd he w (sb l)
  have e1 := h2.symm.trans h1
  simp only [Result.ok.injEq, Value.slice.injEq] at e1
  rw [sb_list] at h3
  rw [hz] at h2 e1
  refine ⟨c, w', h2, h3, h4, ?_, ?_⟩
  · rw [e1.1.2.2]; exact grownCap_ge _ _ _ _
  · rw [e1.1.2.2]; exact grownCap_le_maxLen _ _ _ _ (by unfold maxLen; omega)
theorem eq44 (a b : List UInt8) (ha : a.length = 16) (hb : b.length = 16) (W : World) : (Op.equalIn 10000 23 (.agg (bs a).toArray) (.agg (bs b).toArray)).run Tryd.prog W = .ok (eqB a b) W := by
  have h := run_equalIn_bytes (P := Tryd.prog) W 9998 23 5 16 Tryd.underlying23 Tryd.underlying5 (fun W => by kernel_rfl) a b ha hb
  rw [eqB]
  exact h
theorem blk_range {w : World} {B : Nat} {C : List Value} {T : TypeId} (h : Blk w B C T) : w.rangeAt B 0 C := fun j v hv => by rw [Nat.zero_add]; exact h.cell hv
section
variable (p m g : List UInt8) (w : World)
set_option maxRecDepth 100000 in
set_option maxHeartbeats 1000000 in
theorem verify_arg (h : Int) (hh : h < 0 ∨ 6 < h) :
    Calls Tryd.prog 18 #[.agg (bs p).toArray, .int .i64 h, .string (sb m), .string (sb g)] w fun e w' => e = retI2 (0, 1) ∧ Below w.heap.size w w' := by
  have hb0 := below_a1 w (.cells (bs p).toArray 23)
  have HB := Lib.hid hb0; clear hb0
  go_enter Tryd.func18, Tryd.ntmps18
  go_wp2_with ((with_reducible refine (vh_no h hh _).mono ?_); rintro e w' ⟨rfl, rfl⟩)
  go_ret2
  exact ⟨rfl, HB.out⟩
set_option maxRecDepth 100000 in
set_option maxHeartbeats 1000000 in
theorem verify_limit (h : Int) (h0 : 0 ≤ h) (h6 : h ≤ 6) (hm : 1048576 < m.length) :
    Calls Tryd.prog 18 #[.agg (bs p).toArray, .int .i64 h, .string (sb m), .string (sb g)] w fun e w' => e = retI2 (0, 4) ∧ Below w.heap.size w w' := by
  have hsz := sb_size m
  have hd : decide ((1048576 : Int) < (m.length : Int)) = true := by simp; omega
  have hb0 := below_a1 w (.cells (bs p).toArray 23)
  have HB := Lib.hid hb0; clear hb0
  go_enter Tryd.func18, Tryd.ntmps18
  go_wp2_with ((with_reducible refine (vh_yes h h0 h6 _).mono ?_); rintro e w' ⟨rfl, rfl⟩)
  go_ret2
  exact ⟨rfl, HB.out⟩
set_option maxRecDepth 100000 in
set_option maxHeartbeats 1000000 in
theorem verify_int (h : Int) (h0 : 0 ≤ h) (h6 : h ≤ 6) (hm : m.length ≤ 1048576) (hg : g.length ≤ 1000000) (n : Int) (u : Nat) (er : Int) (hr : gI g = (n, u, er)) (he : er ≠ 0) :
    Calls Tryd.prog 18 #[.agg (bs p).toArray, .int .i64 h, .string (sb m), .string (sb g)] w fun e w' => e = retI2 (0, er) ∧ Below w.heap.size w w' := by
  have hsz := sb_size m
  have hd : decide ((1048576 : Int) < (m.length : Int)) = false := by simp; omega
  have hne : (er != 0) = true := by simpa using he
  obtain ⟨c, x1, hcv, hrd, hb1, hcl, hcm⟩ := conv_backc (P := Tryd.prog) (src := 9) (dst := 58) Tryd.underlying9 Tryd.underlying58 Tryd.underlying5 (w.alloc (.cells (bs p).toArray 23)) g (by omega)
  have HG : Hid (∀ G, G = (w.alloc (.cells (bs p).toArray 23)).heap.size → Calls Tryd.prog 43 #[.slice (some ⟨G, 0, none⟩) g.length c] x1 fun e w' => e = ret3 (n, u, er) ∧ x1 = w') := Lib.hid fun G hG => by rw [← hr, hG]; exact getInt_any g _ c x1 hcl hcm hrd
  have HB : Hid (Below w.heap.size w x1) := Lib.hid (below_next (below_a1 _ _) hb1)
  have hw1 : (w.alloc (.cells (bs p).toArray 23)).heap.size = w.heap.size + 1 := by simp
  rw [hw1] at hcv
  clear hrd hb1 hcl hcm hr hg hw1
  go_enter Tryd.func18, Tryd.ntmps18
  go_wp2_with (first
    | ((with_reducible refine (vh_yes h h0 h6 _).mono ?_); rintro e w' ⟨rfl, rfl⟩)
    | ((with_reducible refine (HG.out _ ?_).mono ?_); simp; rintro e w' ⟨rfl, rfl⟩; unfold ret3))
  go_ret2
  exact ⟨rfl, HB.out⟩
set_option maxRecDepth 100000 in
set_option maxHeartbeats 1000000 in
theorem verify_index (h : Nat) (H : Int) (hH : H = (h : Int)) (h6 : h ≤ 6) (hm : m.length ≤ 1048576) (hg : g.length ≤ 1000000) (n : Int) (u : Nat) (hr : gI g = (n, u, 0)) (hn : n < 0 ∨ ((2 ^ h : Nat) : Int) ≤ n) :
    Calls Tryd.prog 18 #[.agg (bs p).toArray, .int .i64 H, .string (sb m), .string (sb g)] w fun e w' => e = retI2 (0, 2) ∧ Below w.heap.size w w' := by
  have hsz := sb_size m
  have hgz := sb_size g
  have hd : decide ((1048576 : Int) < (m.length : Int)) = false := by simp; omega
  have hok := gI_ok (l := g) (by rw [hr])
  rw [hr] at hok
  obtain ⟨hnI, hul, hu1, hu9, _⟩ := hok
  simp only at hnI hul hu1 hu9
  obtain ⟨c, x1, hcv, hrd, hb1, hcl, hcm⟩ := conv_backc (P := Tryd.prog) (src := 9) (dst := 58) Tryd.underlying9 Tryd.underlying58 Tryd.underlying5 (w.alloc (.cells (bs p).toArray 23)) g (by omega)
  have HG : Hid (∀ G, G = (w.alloc (.cells (bs p).toArray 23)).heap.size → Calls Tryd.prog 43 #[.slice (some ⟨G, 0, none⟩) g.length c] x1 fun e w' => e = ret3 (n, u, 0) ∧ x1 = w') := Lib.hid fun G hG => by rw [← hr, hG]; exact getInt_any g _ c x1 hcl hcm hrd
  have HB : Hid (Below w.heap.size w x1 ∧ Blk x1 w.heap.size (bs p) 23) := Lib.hid ⟨below_next (below_a1 _ _) hb1, (Blk.at w _ _ _ _ rfl rfl).below hb1 (Blk.at w (bs p) _ 23 _ rfl rfl).lt⟩
  have hw1 : (w.alloc (.cells (bs p).toArray 23)).heap.size = w.heap.size + 1 := by simp
  rw [hw1] at hcv
  obtain ⟨r, hre⟩ : ∃ r, r = g.drop u := ⟨_, rfl⟩
  have hcut : (sb g).extract u g.length = sb r := by rw [← hgz, hre]; exact sb_drop g u hul
  have hrz := sb_size r
  have hrl : r.length = g.length - u := by rw [hre, List.length_drop]
  clear hrd hb1 hcl hcm hr hg hw1 hnI
  have HVH := Lib.hid (fun W => vh_yes H (by omega) (by omega) W)
  have HVI := Lib.hid (fun W => vi_no n h H hH h6 hn W)
  clear hre hrl hH hn
  go_enter Tryd.func18, Tryd.ntmps18
  go_wp2_with (first
    | ((with_reducible refine (HVH.out _).mono ?_); rintro e w' ⟨rfl, rfl⟩)
    | ((with_reducible refine (HG.out _ ?_).mono ?_); simp; rintro e w' ⟨rfl, rfl⟩; unfold ret3)
    | ((with_reducible refine (HVI.out _).mono ?_); rintro e w' ⟨rfl, rfl⟩))
  go_ret2
  exact ⟨rfl, HB.out.1⟩
set_option maxRecDepth 100000 in
set_option maxHeartbeats 1000000 in
theorem verify_length (h : Nat) (H : Int) (hH : H = (h : Int)) (h6 : h ≤ 6) (hm : m.length ≤ 1048576) (hg : g.length ≤ 1000000) (n : Int) (u : Nat) (hr : gI g = (n, u, 0)) (hn0 : 0 ≤ n) (hn : n < ((2 ^ h : Nat) : Int)) (hl : g.length - u ≠ 16 * (68 + h)) :
    Calls Tryd.prog 18 #[.agg (bs p).toArray, .int .i64 H, .string (sb m), .string (sb g)] w fun e w' => e = retI2 (0, 2) ∧ Below w.heap.size w w' := by
  have hsz := sb_size m
  have hgz := sb_size g
  have hd : decide ((1048576 : Int) < (m.length : Int)) = false := by simp; omega
  have hok := gI_ok (l := g) (by rw [hr])
  rw [hr] at hok
  obtain ⟨hnI, hul, hu1, hu9, _⟩ := hok
  simp only at hnI hul hu1 hu9
  obtain ⟨c, x1, hcv, hrd, hb1, hcl, hcm⟩ := conv_backc (P := Tryd.prog) (src := 9) (dst := 58) Tryd.underlying9 Tryd.underlying58 Tryd.underlying5 (w.alloc (.cells (bs p).toArray 23)) g (by omega)
  have HG : Hid (∀ G, G = (w.alloc (.cells (bs p).toArray 23)).heap.size → Calls Tryd.prog 43 #[.slice (some ⟨G, 0, none⟩) g.length c] x1 fun e w' => e = ret3 (n, u, 0) ∧ x1 = w') := Lib.hid fun G hG => by rw [← hr, hG]; exact getInt_any g _ c x1 hcl hcm hrd
  have HB : Hid (Below w.heap.size w x1 ∧ Blk x1 w.heap.size (bs p) 23) := Lib.hid ⟨below_next (below_a1 _ _) hb1, (Blk.at w _ _ _ _ rfl rfl).below hb1 (Blk.at w (bs p) _ 23 _ rfl rfl).lt⟩
  have hw1 : (w.alloc (.cells (bs p).toArray 23)).heap.size = w.heap.size + 1 := by simp
  rw [hw1] at hcv
  obtain ⟨r, hre⟩ : ∃ r, r = g.drop u := ⟨_, rfl⟩
  have hcut : (sb g).extract u g.length = sb r := by rw [← hgz, hre]; exact sb_drop g u hul
  have hrz := sb_size r
  have hrl : r.length = g.length - u := by rw [hre, List.length_drop]
  clear hrd hb1 hcl hcm hr hg hw1 hnI
  have HVH := Lib.hid (fun W => vh_yes H (by omega) (by omega) W)
  have HVI := Lib.hid (fun W => vi_yes n h H hH h6 hn0 hn W)
  have hne : ((r.length : Int) != (68 + H) * 16) = true := by simp; omega
  have hH0 : 0 ≤ H := by omega
  have hH6 : H ≤ 6 := by omega
  clear hre hrl hH hn hn0 hl
  go_enter Tryd.func18, Tryd.ntmps18
  go_wp2_with (first
    | ((with_reducible refine (HVH.out _).mono ?_); rintro e w' ⟨rfl, rfl⟩)
    | ((with_reducible refine (HG.out _ ?_).mono ?_); simp; rintro e w' ⟨rfl, rfl⟩; unfold ret3)
    | ((with_reducible refine (HVI.out _).mono ?_); rintro e w' ⟨rfl, rfl⟩))
  go_ret2
  exact ⟨rfl, HB.out.1⟩
set_option maxRecDepth 100000 in
set_option maxHeartbeats 4000000 in
theorem verify_end (h i : Nat) (H I : Int) (hH : H = (h : Int)) (hI : I = (i : Int)) (h6 : h ≤ 6) (hp : p.length = 16) (hm : m.length ≤ 1048576) (hg : g.length ≤ 1000000) (u : Nat) (hr : gI g = (I, u, 0)) (hn : i < 2 ^ h) (hl : g.length - u = 16 * (68 + h)) (V O : List (List UInt8)) (D : List Nat) (N R Q : List UInt8)
    (hV : V = valsOf (g.drop u)) (hO : O = othersOf (g.drop u) h) (hQ : Q = dgst p i m) (hD : D = digs Q) (hN : N = leafN i V D) (hR : R = rootO i 0 N O) (res : Int × Int) (hres : res = if R = p then (I, 0) else (0, 10)) (hK : KH w) :
    Calls Tryd.prog 18 #[.agg (bs p).toArray, .int .i64 H, .string (sb m), .string (sb g)] w fun e w' => e = retI2 res ∧ Below w.heap.size w w' := by
  obtain ⟨n, hnI'⟩ : ∃ n, n = I := ⟨_, rfl⟩
  rw [← hnI'] at hr
  have hsz := sb_size m
  have hgz := sb_size g
  have hd : decide ((1048576 : Int) < (m.length : Int)) = false := by simp; omega
  have hok := gI_ok (l := g) (by rw [hr])
  rw [hr] at hok
  obtain ⟨hnI, hul, hu1, hu9, _⟩ := hok
  simp only at hnI hul hu1 hu9
  obtain ⟨c, x1, hcv, hrd, hb1, hcl, hcm⟩ := conv_backc (P := Tryd.prog) (src := 9) (dst := 58) Tryd.underlying9 Tryd.underlying58 Tryd.underlying5 (w.alloc (.cells (bs p).toArray 23)) g (by omega)
  have HG : Hid (∀ G, G = (w.alloc (.cells (bs p).toArray 23)).heap.size → Calls Tryd.prog 43 #[.slice (some ⟨G, 0, none⟩) g.length c] x1 fun e w' => e = ret3 (n, u, 0) ∧ x1 = w') := Lib.hid fun G hG => by rw [← hr, hG]; exact getInt_any g _ c x1 hcl hcm hrd
  have HB : Hid (Below w.heap.size w x1 ∧ Blk x1 w.heap.size (bs p) 23) := Lib.hid ⟨below_next (below_a1 _ _) hb1, (Blk.at w _ _ _ _ rfl rfl).below hb1 (Blk.at w (bs p) _ 23 _ rfl rfl).lt⟩
  have hw1 : (w.alloc (.cells (bs p).toArray 23)).heap.size = w.heap.size + 1 := by simp
  rw [hw1] at hcv
  obtain ⟨r, hre⟩ : ∃ r, r = g.drop u := ⟨_, rfl⟩
  have hcut : (sb g).extract u g.length = sb r := by rw [← hgz, hre]; exact sb_drop g u hul
  have hrz := sb_size r
  have hrl : r.length = g.length - u := by rw [hre, List.length_drop]
  clear hrd hb1 hcl hcm hr hg hw1 hnI
  have hi64 : i < 64 := by have : 2 ^ h ≤ 2 ^ 6 := Nat.pow_le_pow_right (by omega) h6; omega
  have hIn : ((i : Nat) : Int) = n := by omega
  have hII : inI n := by unfold inI; omega
  have hrl2 : r.length = 16 * (68 + h) := by omega
  have hVl : V.length = 68 := by rw [hV, valsOf_length]
  have hVg : ∀ c, c < 68 → (V.getD c []).length = 16 := fun c hc => by rw [hV, valsOf_get _ _ hc, ← hre]; exact cut16_length _ _ (by omega)
  have hOl : O.length = h := by rw [hO]; simp [othersOf]
  have hO16 : ∀ d ∈ O, d.length = 16 := by
    intro d hd
    rw [hO, othersOf] at hd
    obtain ⟨l, hl', rfl⟩ := List.mem_map.1 hd
    have : l < h := by simpa using hl'
    rw [← hre]
    exact cut16_length _ _ (by omega)
  have hQl : Q.length = 16 := by rw [hQ, dgst_length]
  have hDl : D.length = 68 := by rw [hD, digs_length Q hQl]
  have hD3 : ∀ c, c < 68 → D.getD c 0 ≤ 3 := fun c _ => by rw [hD]; exact digs_getD_le Q hQl c
  have hNl : N.length = 16 := by rw [hN, leafN_length]
  have hRl : R.length = 16 := by rw [hR]; exact rootO_length _ _ _ _ hNl
  have HVH := Lib.hid (fun W => vh_yes H (by omega) (by omega) W)
  have HVI := Lib.hid (fun W => vi_yes n h H hH h6 (by omega) (by omega) W)
  have HPT : Hid (∀ W, Calls Tryd.prog 44 #[.string (sb r)] W fun e w' => ∃ A c, e = .returned (.tuple #[.agg (ss V).toArray, .slice A h c]) ∧ Rd w' A (O.flatMap bs) ∧ Below W.heap.size W w') := Lib.hid fun W => by rw [hV, hO, ← hre]; exact parts_any r h hrl2 h6 W
  have HDG : Hid (∀ W, KH W → Calls Tryd.prog 16 #[.agg (bs p).toArray, .int .i64 n, .string (sb m)] W fun e w' => e = .returned (.agg (bs Q).toArray) ∧ Below W.heap.size W w') := Lib.hid fun W hk => by rw [hQ, hIn]; exact dgst_any p m n hp hII hm W hk
  have HDO : Hid (∀ W, Calls Tryd.prog 21 #[.agg (bs Q).toArray] W fun e w' => e = .returned (.agg (is D).toArray) ∧ Below W.heap.size W w') := Lib.hid fun W => by rw [hD]; exact digitsOf_any Q hQl W
  have HLF : Hid (∀ W, KH W → Calls Tryd.prog 30 #[.int .i64 n, .agg (ss V).toArray, .agg (is D).toArray] W fun e w' => e = .returned (.agg (bs N).toArray) ∧ Below W.heap.size W w') := Lib.hid fun W hk => by rw [hN, hIn]; exact leaf_any n hII V D hVl hDl hVg hD3 W hk
  have HRT : Hid (∀ (A : Option Addr) (c : Nat) W, Rd W A (O.flatMap bs) → KH W → Calls Tryd.prog 29 #[.agg (bs N).toArray, .int .i64 n, .slice A h c] W fun e w' => e = .returned (.agg (bs R).toArray) ∧ Below W.heap.size W w') := Lib.hid fun A c W hr' hk => by rw [hR]; exact root_any N i n hIn.symm O A h c hOl.symm hNl hi64 hO16 (by omega) W hr' hk
  have hne : ((r.length : Int) != (68 + H) * 16) = false := by simp; omega
  have hH0 : 0 ≤ H := by omega
  have hH6 : H ≤ 6 := by omega
  have HEQ : Hid (∀ W, (Op.equalIn 10000 23 (.agg (bs R).toArray) (.agg (bs p).toArray)).run Tryd.prog W = .ok (eqB R p) W) := Lib.hid fun W => eq44 R p hRl hp W
  have HRES : Hid (res = if R = p then (n, 0) else (0, 10)) := Lib.hid (by rw [hres, hnI'])
  have HPB : Hid ((bs p).length = 16) := Lib.hid (by rw [bs_length]; exact hp)
  have HVB : Hid ((ss V).length = 68) := Lib.hid (by rw [ss_length]; exact hVl)
  have HDB : Hid ((is D).length = 68) := Lib.hid (by rw [is_length]; exact hDl)
  have HK := Lib.hid hK
  clear hK hre hrl hH hn hl hV hO hQ hD hN hR hVl hVg hOl hO16 hQl hDl hD3 hNl hRl hi64 hIn hII hrl2 hI hres hp hnI'
  go_enter Tryd.func18, Tryd.ntmps18
  go_wp2_with (first
    | ((with_reducible refine (HVH.out _).mono ?_); rintro e w' ⟨rfl, rfl⟩)
    | ((with_reducible refine (HG.out _ ?_).mono ?_); simp; rintro e w' ⟨rfl, rfl⟩; unfold ret3)
    | ((with_reducible refine (HVI.out _).mono ?_); rintro e w' ⟨rfl, rfl⟩)
    | ((with_reducible refine (HPT.out _).mono ?_); rintro e x2 ⟨A, ca, rfl, hrd2, hb2⟩; have HX2 : Hid (Below w.heap.size w x2 ∧ Blk x2 w.heap.size (bs p) 23 ∧ Rd x2 A (O.flatMap bs)) := Lib.hid ⟨below_next HB.out.1 hb2, HB.out.2.below hb2 HB.out.2.lt, hrd2⟩; clear hrd2 hb2)
    | (refine wpList_store_blk rfl 52 (.tmp 14) (.tmp 53) rfl x2.heap.size 0 rfl (ss V) rfl (Blk.new' x2 (ss (List.replicate 68 [])) _ 52 Tryd.zero52) 68 Tryd.size52 HVB.out (by rw [ss_length, List.length_replicate]; omega) (ss_one _) ?_; intro x3 hst3; rw [List.take_zero, List.nil_append, List.drop_of_length_le (by rw [ss_length, List.length_replicate]; omega), List.append_nil] at hst3; have HX3 : Hid (Blk x3 x2.heap.size (ss V) 52 ∧ Blk x3 w.heap.size (bs p) 23 ∧ Rd x3 A (O.flatMap bs) ∧ Below w.heap.size w x3) := Lib.hid ⟨hst3.1, HX2.out.2.1.below (hst3.below (below_a1 _ _) (Nat.le_refl _)) HX2.out.2.1.lt, HX2.out.2.2.below (hst3.below (below_a1 _ _) (Nat.le_refl _)), hst3.below (al HX2.out.1 _) HX2.out.1.size⟩; clear hst3)
    | (refine wpList_load_blk rfl 23 (.tmp 4) rfl w.heap.size 0 rfl HX3.out.2.1 _ Tryd.underlying23 rfl 16 Tryd.size44 (by rw [HPB.out]; omega) ?_; rw [List.drop_zero, List.take_of_length_le (by rw [HPB.out]; omega)])
    | ((with_reducible refine (HDG.out _ ?_).mono ?_); exact (HK.out.of HX3.out.2.2.2); rintro e x4 ⟨rfl, hb4⟩; have HX4 : Hid (Blk x4 x2.heap.size (ss V) 52 ∧ Blk x4 w.heap.size (bs p) 23 ∧ Rd x4 A (O.flatMap bs) ∧ Below w.heap.size w x4) := Lib.hid ⟨HX3.out.1.below hb4 HX3.out.1.lt, HX3.out.2.1.below hb4 HX3.out.2.1.lt, HX3.out.2.2.1.below hb4, below_next HX3.out.2.2.2 hb4⟩; clear hb4)
    | ((with_reducible refine (HDO.out _).mono ?_); rintro e x5 ⟨rfl, hb5⟩; have HX5 : Hid (Blk x5 x2.heap.size (ss V) 52 ∧ Blk x5 w.heap.size (bs p) 23 ∧ Rd x5 A (O.flatMap bs) ∧ Below w.heap.size w x5) := Lib.hid ⟨HX4.out.1.below hb5 HX4.out.1.lt, HX4.out.2.1.below hb5 HX4.out.2.1.lt, HX4.out.2.2.1.below hb5, below_next HX4.out.2.2.2 hb5⟩; clear hb5)
    | (refine wpList_store_blk rfl 43 (.tmp 16) (.tmp 59) rfl x5.heap.size 0 rfl (is D) rfl (Blk.new' x5 (is (List.replicate 68 0)) _ 43 rfl) 68 Tryd.size43 HDB.out (by rw [is_length, List.length_replicate]; omega) (is_one _) ?_; intro x6 hst6; rw [List.take_zero, List.nil_append, List.drop_of_length_le (by rw [is_length, List.length_replicate]; omega), List.append_nil] at hst6; have HX6 : Hid (Blk x6 x2.heap.size (ss V) 52 ∧ Blk x6 x5.heap.size (is D) 43 ∧ Blk x6 w.heap.size (bs p) 23 ∧ Rd x6 A (O.flatMap bs) ∧ Below w.heap.size w x6) := Lib.hid ⟨HX5.out.1.below (hst6.below (below_a1 _ _) (Nat.le_refl _)) HX5.out.1.lt, hst6.1, HX5.out.2.1.below (hst6.below (below_a1 _ _) (Nat.le_refl _)) HX5.out.2.1.lt, HX5.out.2.2.1.below (hst6.below (below_a1 _ _) (Nat.le_refl _)), hst6.below (al HX5.out.2.2.2 _) HX5.out.2.2.2.size⟩; clear hst6))
  have HRG : Hid (∀ W, Below x6.heap.size x6 W → (W.rangeAt x2.heap.size 0 (ss V) ∧ W.rangeAt x5.heap.size 0 (is D) ∧ W.rangeAt w.heap.size 0 (bs p))) := Lib.hid fun W h => ⟨blk_range (HX6.out.1.below h HX6.out.1.lt), blk_range (HX6.out.2.1.below h HX6.out.2.1.lt), blk_range (HX6.out.2.2.1.below h HX6.out.2.2.1.lt)⟩
  have hun52 := Tryd.underlying52
  have hsz52 : (Tryd.prog.info? 52).map (·.size) = some (ss V).length := by rw [HVB.out]; exact Tryd.size52
  have hun43 := Tryd.underlying43
  have hsz43 : (Tryd.prog.info? 43).map (·.size) = some (is D).length := by rw [HDB.out]; exact Tryd.size43
  have hun23 := Tryd.underlying23
  have hsz23 : (Tryd.prog.info? 23).map (·.size) = some (bs p).length := by rw [HPB.out]; exact Tryd.size44
  -- REGION
  refine wp_region_held_drew (S := fun w' => w'.rangeAt x2.heap.size 0 (ss V) ∧ w'.rangeAt x5.heap.size 0 (is D) ∧ w'.rangeAt w.heap.size 0 (bs p)) (by kernel_rfl) (HRG.out _ (Below.refl _ _).drew) (fun hS0 => ?_)
  refine wpAnyH_take (i := 0) (oi := { dst := some 60, op := Op.move (Operand.tmp 10), type := 3, pos := "sign.go:187", after := #[], guard := none }) (v := ?_) rfl (by kernel_rfl) (by kernel_rfl) (by kernel_rfl) (fun _ _ _ h => h) (Or.inl ⟨by rfl, ?_⟩) (by assumption) ?_
  rotate_left
  · (intro w' hSw; (try dsimp only at hSw); go_simp; try with_reducible rfl)
  try simp only [Act.put, List.setIfInBounds_toArray, List.set_cons_zero, List.set_cons_succ]
  refine wpAnyH_take (i := 4) (oi := { dst := some 64, op := Op.move (Operand.tmp 10), type := 3, pos := "sign.go:187", after := #[], guard := none }) (v := ?_) rfl (by kernel_rfl) (by kernel_rfl) (by kernel_rfl) (fun _ _ _ h => h) (Or.inl ⟨by rfl, ?_⟩) (by assumption) ?_
  rotate_left
  · (intro w' hSw; (try dsimp only at hSw); go_simp; try with_reducible rfl)
  try simp only [Act.put, List.setIfInBounds_toArray, List.set_cons_zero, List.set_cons_succ]
  refine wpAnyH_take (i := 5) (oi := { dst := some 65, op := Op.move (Operand.tmp 15), type := 48, pos := "sign.go:187", after := #[], guard := none }) (v := ?_) rfl (by kernel_rfl) (by kernel_rfl) (by kernel_rfl) (fun _ _ _ h => h) (Or.inl ⟨by rfl, ?_⟩) (by assumption) ?_
  rotate_left
  · (intro w' hSw; (try dsimp only at hSw); go_simp; try with_reducible rfl)
  try simp only [Act.put, List.setIfInBounds_toArray, List.set_cons_zero, List.set_cons_succ]
  refine wpAnyH_take (i := 1) (oi := { dst := some 61, op := Op.load 52 (Operand.tmp 14), type := 52, pos := "sign.go:187", after := #[], guard := none }) (v := _) rfl (by kernel_rfl) (by kernel_rfl) (by kernel_rfl) (fun _ _ _ h => h) (yieldsIf_load_mid (by rfl) _ _ rfl _ _ rfl _ _ (fun w h => h.1) hun52 rfl hsz52) (by assumption) ?_
  try simp only [Act.put, List.setIfInBounds_toArray, List.set_cons_zero, List.set_cons_succ]
  refine wpAnyH_take (i := 2) (oi := { dst := some 62, op := Op.load 43 (Operand.tmp 16), type := 43, pos := "sign.go:187", after := #[], guard := none }) (v := _) rfl (by kernel_rfl) (by kernel_rfl) (by kernel_rfl) (fun _ _ _ h => h) (yieldsIf_load_mid (by rfl) _ _ rfl _ _ rfl _ _ (fun w h => h.2.1) hun43 rfl hsz43) (by assumption) ?_
  try simp only [Act.put, List.setIfInBounds_toArray, List.set_cons_zero, List.set_cons_succ]
  refine wpAnyH_take (i := 7) (oi := { dst := some 67, op := Op.load 23 (Operand.tmp 4), type := 23, pos := "sign.go:187", after := #[], guard := none }) (v := _) rfl (by kernel_rfl) (by kernel_rfl) (by kernel_rfl) (fun _ _ _ h => h) (yieldsIf_load_mid (by rfl) _ _ rfl _ _ rfl _ _ (fun w h => h.2.2) hun23 rfl hsz23) (by assumption) ?_
  try simp only [Act.put, List.setIfInBounds_toArray, List.set_cons_zero, List.set_cons_succ]
  refine wpAnyH_ready (rs := [3]) (by kernel_rfl) (by simp) ?_
  refine AllReadyH.cons (o := { dst := some 63, op := Op.call { callee := Callee.value (Operand.func 30), args := #[Operand.tmp 60, Operand.tmp 61, Operand.tmp 62], argTypes := #[3, 52, 43] }, type := 23, pos := "sign.go:187", after := #[{ on := 0, ground := Ground.data }, { on := 1, ground := Ground.data }, { on := 2, ground := Ground.data }], guard := none }) rfl (fun K hK => ?_) AllReadyH.nil
  go_simp
  go_at_call 30
  refine (HLF.out _ (HK.out.of HX6.out.2.2.2.2.drew)).mono ?_
  rintro e y1 ⟨rfl, hb1⟩
  have HY1 : Hid (Rd y1 A (O.flatMap bs) ∧ Below w.heap.size w y1 ∧ Below x6.heap.size x6 y1) := Lib.hid ⟨Rd.below (w := x6.drew) HX6.out.2.2.2.1 hb1, below_next HX6.out.2.2.2.2.drew hb1, below_next (w := x6.drew) (Below.refl _ _).drew hb1⟩
  clear hb1
  refine hK _ _ (HRG.out _ HY1.out.2.2) (fun hS1 => ?_)
  clear hK K hS0
  try simp only [Act.put, List.setIfInBounds_toArray, List.set_cons_zero, List.set_cons_succ]
  refine wpAnyH_ready (rs := [6]) (by kernel_rfl) (by simp) ?_
  refine AllReadyH.cons (o := { dst := some 66, op := Op.call { callee := Callee.value (Operand.func 29), args := #[Operand.tmp 63, Operand.tmp 64, Operand.tmp 65], argTypes := #[23, 3, 48] }, type := 23, pos := "sign.go:187", after := #[{ on := 3, ground := Ground.data }, { on := 4, ground := Ground.data }, { on := 5, ground := Ground.data }, { on := 3, ground := Ground.chain }], guard := none }) rfl (fun K hK => ?_) AllReadyH.nil
  go_simp
  go_at_call 29
  refine (HRT.out _ _ _ HY1.out.1 (HK.out.of HY1.out.2.1)).mono ?_
  rintro e y2 ⟨rfl, hb2⟩
  have HY2 : Hid (Below w.heap.size w y2 ∧ Below x6.heap.size x6 y2) := Lib.hid ⟨below_next HY1.out.2.1 hb2, below_next HY1.out.2.2 hb2⟩
  clear hb2
  refine hK _ _ (HRG.out _ HY2.out.2) (fun hS2 => ?_)
  clear hK K hS1
  try simp only [Act.put, List.setIfInBounds_toArray, List.set_cons_zero, List.set_cons_succ]
  have heq := HEQ.out
  refine wpAnyH_take (i := 8) (oi := { dst := some 68, op := Op.binOp BinOp.neq 23 (Operand.tmp 66) (Operand.tmp 67) 23, type := 4, pos := "sign.go:187", after := #[{ on := 6, ground := Ground.data }, { on := 7, ground := Ground.data }], guard := none }) (v := ?_) rfl (by kernel_rfl) (by kernel_rfl) (by kernel_rfl) (fun _ _ _ h => h) (Or.inl ⟨by rfl, ?_⟩) (by assumption) ?_
  rotate_left
  · (intro w' hSw; (try dsimp only at hSw); go_simp; try with_reducible rfl)
  try simp only [Act.put, List.setIfInBounds_toArray, List.set_cons_zero, List.set_cons_succ]
  refine wpAnyH_done (by kernel_rfl) ?_ _
  by_cases hq : R = p
  · have hqb : eqB R p = true := (eqB_iff R p).2 hq
    have HQ : Hid (res = (n, 0)) := Lib.hid (by rw [HRES.out, if_pos hq])
    rw [hqb]
    clear hq hqb
    go_wp2_with fail
    go_ret2
    exact ⟨by rw [HQ.out]; rfl, HY2.out.1⟩
  · have hqb : eqB R p = false := by rw [← Bool.not_eq_true, eqB_iff]; exact hq
    have HQ : Hid (res = (0, 10)) := Lib.hid (by rw [HRES.out, if_neg hq])
    rw [hqb]
    clear hq hqb
    go_wp2_with fail
    go_ret2
    exact ⟨by rw [HQ.out]; rfl, HY2.out.1⟩
theorem verify_any (h : Int) (hp : p.length = 16) (hg : g.length ≤ 1000000) (hK : KH w) :
    Calls Tryd.prog 18 #[.agg (bs p).toArray, .int .i64 h, .string (sb m), .string (sb g)] w fun e w' => e = retI2 (ver p h m g) ∧ Below w.heap.size w w' := by
  by_cases h1 : h < 0 ∨ 6 < h
  · have e : ver p h m g = (0, 1) := by rw [ver, if_pos h1]
    rw [e]
    exact verify_arg p m g w h h1
  · by_cases h2 : 1048576 < m.length
    · have e : ver p h m g = (0, 4) := by rw [ver, if_neg h1, if_pos h2]
      rw [e]
      exact verify_limit p m g w h (by omega) (by omega) h2
    · obtain ⟨n, u, er, hr⟩ : ∃ n u er, gI g = (n, u, er) := ⟨_, _, _, rfl⟩
      by_cases h3 : er ≠ 0
      · have e : ver p h m g = (0, er) := by rw [ver, if_neg h1, if_neg h2, hr, if_pos h3]
        rw [e]
        exact verify_int p m g w h (by omega) (by omega) (by omega) hg n u er hr h3
      · obtain rfl : er = 0 := by omega
        obtain ⟨k, hk⟩ : ∃ k : Nat, h = (k : Int) := ⟨h.toNat, by omega⟩
        have hkt : h.toNat = k := by omega
        by_cases h4 : n < 0 ∨ ((2 ^ k : Nat) : Int) ≤ n ∨ g.length - u ≠ 16 * (68 + k)
        · have e : ver p h m g = (0, 2) := by rw [ver, if_neg h1, if_neg h2, hr, if_neg (by simp), hkt, if_pos h4]
          rw [e]
          by_cases h5 : n < 0 ∨ ((2 ^ k : Nat) : Int) ≤ n
          · exact verify_index p m g w k h hk (by omega) (by omega) hg n u hr h5
          · exact verify_length p m g w k h hk (by omega) (by omega) hg n u hr (by omega) (by omega) (by omega)
        · have e : ver p h m g = if way p k n.toNat m (g.drop u) = p then (n, 0) else (0, 10) := by rw [ver, if_neg h1, if_neg h2, hr, if_neg (by simp), hkt, if_neg h4]
          obtain ⟨i, hi⟩ : ∃ i : Nat, n = (i : Int) := ⟨n.toNat, by omega⟩
          have hit : n.toNat = i := by omega
          rw [hit] at e
          exact verify_end p m g w k i h n hk hi (by omega) hp (by omega) hg u hr (by omega) (by omega) _ _ _ _ _ _ rfl rfl rfl rfl rfl rfl _ e hK
end
end Go.Proofs.YtbgcnfikcddcpaaDoor
