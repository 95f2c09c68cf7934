/-
  The walks of the reference's Digest, fits, Public, Sign.
-/
import Derived.Test.YtbgcnfikcddcpaaDoorSRLev2
namespace Go.Proofs.YtbgcnfikcddcpaaDoor
open Go.RowKit
set_option linter.unusedVariables false
set_option linter.unusedSimpArgs false
open Sha Sgn
theorem rint_at (n : Int) (E : List UInt8) (hE : E = en n) (hi : inI n) (W : World) :
    Calls Tryd.prog 36 #[.int .i64 n] W fun e w' => ∃ A c, e = .returned (.slice A E.length c) ∧ (convert 58 9 (.slice A E.length c)).run Tryd.prog w' = .ok (.string (sb E)) w' ∧ Below W.heap.size W w' := by
  subst hE
  exact (rint_any n hi W).mono fun e w' ⟨v, he, hown, hb⟩ => by
    obtain ⟨A, c, rfl, hrd, _, _⟩ := Rd.of_own hown
    exact ⟨A, c, he, conv_sb c rfl hrd, hb⟩
set_option maxRecDepth 100000 in
set_option maxHeartbeats 2000000 in
theorem rdgst_aux (p D m : List UInt8) (n : Int) (hD : D = dgst p n m) (hp : p.length = 16) (hn : inI n) (hm : m.length ≤ 1000000) (w : World) (hK : KR w) :
    Calls Tryd.prog 17 #[.agg (bs p).toArray, .int .i64 n, .string (sb m)] w fun e w' => e = .returned (.agg (bs D).toArray) ∧ Below w.heap.size w w' := by
  have hDl : (bs D).length = 16 := by rw [bs_length, hD, dgst_length]
  obtain ⟨E, hE⟩ : ∃ E, E = en n := ⟨_, rfl⟩
  have hE9 : E.length ≤ 9 := by rw [hE]; exact en_len9 n
  have HIN : Hid (∀ W, Calls Tryd.prog 36 #[.int .i64 n] W fun e w' => ∃ A c, e = .returned (.slice A E.length c) ∧ (convert 58 9 (.slice A E.length c)).run Tryd.prog w' = .ok (.string (sb E)) w' ∧ Below W.heap.size W w') := Lib.hid fun W => rint_at n E hE hn W
  have HTX : Hid (∀ W, Calls Tryd.prog 37 #[.agg (bs p).toArray] W fun e w' => e = .returned (.string (sb p)) ∧ Below W.heap.size W w') := Lib.hid fun W => text_any p hp W
  have HOF : Hid (∀ (g : Nat) (W : World), Rd W (some ⟨g, 0, none⟩) [.string (sb p), .string (sb E), .string (sb m)] → KR W → Calls Tryd.prog 41 #[.int .i64 3, .slice (some ⟨g, 0, none⟩) 3 3] W fun e w' => e = .returned (.agg (bs D).toArray) ∧ Below W.heap.size W w') :=
    Lib.hid fun g W h hk => rof_at 3 [p, E, m] D (by rw [hD, dgst, hE]) g 3 rfl (by intro q hq; simp at hq; rcases hq with rfl | rfl | rfl <;> omega) (by simp) W h hk
  have HK := Lib.hid hK; clear hK
  have HPL : Hid ((bs p).length = 16) := Lib.hid (by rw [bs_length]; exact hp)
  have HDL := Lib.hid hDl; clear hD hDl hE hE9 hn hp
  have HA : Hid (Blk ((w.alloc (.cells (bs p).toArray 23)).alloc (.cells #[.int .u8 0, .int .u8 0, .int .u8 0, .int .u8 0, .int .u8 0, .int .u8 0, .int .u8 0, .int .u8 0, .int .u8 0, .int .u8 0, .int .u8 0, .int .u8 0, .int .u8 0, .int .u8 0, .int .u8 0, .int .u8 0] 23)) w.heap.size (bs p) 23 ∧ Blk ((w.alloc (.cells (bs p).toArray 23)).alloc (.cells #[.int .u8 0, .int .u8 0, .int .u8 0, .int .u8 0, .int .u8 0, .int .u8 0, .int .u8 0, .int .u8 0, .int .u8 0, .int .u8 0, .int .u8 0, .int .u8 0, .int .u8 0, .int .u8 0, .int .u8 0, .int .u8 0] 23)) (w.heap.size + 1) (bs (List.replicate 16 0)) 23 ∧ Below w.heap.size w ((w.alloc (.cells (bs p).toArray 23)).alloc (.cells #[.int .u8 0, .int .u8 0, .int .u8 0, .int .u8 0, .int .u8 0, .int .u8 0, .int .u8 0, .int .u8 0, .int .u8 0, .int .u8 0, .int .u8 0, .int .u8 0, .int .u8 0, .int .u8 0, .int .u8 0, .int .u8 0] 23))) :=
    Lib.hid ⟨(Blk.at w _ _ _ _ rfl rfl).alloc _, Blk.at _ _ _ _ _ rfl (by simp), (below_a1 _ _).alloc (by simp) _⟩
  go_enter Tryd.func17, Tryd.ntmps17
  go_wp2_with (first
    | (refine wpList_load_blk rfl 23 (.tmp 3) rfl w.heap.size 0 rfl HA.out.1 _ Tryd.underlying23 rfl 16 Tryd.size44 (by rw [HPL.out]; omega) ?_; rw [List.drop_zero, List.take_of_length_le (by rw [HPL.out]; omega)])
    | ((with_reducible refine (HTX.out _).mono ?_); rintro e x1 ⟨rfl, hb1⟩; have HX1 : Hid (Blk x1 (w.heap.size + 1) (bs (List.replicate 16 0)) 23 ∧ Below w.heap.size w x1) := Lib.hid ⟨HA.out.2.1.below hb1 HA.out.2.1.lt, below_next HA.out.2.2 hb1⟩; clear hb1)
    | ((with_reducible refine (HIN.out _).mono ?_); rintro e x2 ⟨A1, c1, rfl, hcv1, hb2⟩; have HX2 : Hid (Blk x2 (w.heap.size + 1) (bs (List.replicate 16 0)) 23 ∧ Below w.heap.size w x2) := Lib.hid ⟨HX1.out.1.below hb2 HX1.out.1.lt, below_next HX1.out.2 hb2⟩; clear hb2)
    | ((with_reducible refine (HOF.out _ _ ?_ ?_).mono ?_); exact Rd.of_blk (Blk.at x2 [.string (sb p), .string (sb E), .string (sb m)] _ _ _ rfl rfl); exact HK.out.of (al HX2.out.2 _); rintro e x3 ⟨rfl, hb3⟩; have HX3 : Hid (Blk x3 (w.heap.size + 1) (bs (List.replicate 16 0)) 23 ∧ Below w.heap.size w x3) := Lib.hid ⟨(HX2.out.1.alloc _).below hb3 (HX2.out.1.alloc _).lt, below_next (al HX2.out.2 _) hb3⟩; clear hb3)
    | (refine wpList_store_blk rfl 23 (.tmp 6) (.tmp 14) rfl (w.heap.size + 1) 0 rfl (bs D) rfl HX3.out.1 16 Tryd.size44 HDL.out (by rw [bs_length, List.length_replicate]; omega) (bs_one _) ?_; intro x4 hst4; rw [List.take_zero, List.nil_append, List.drop_of_length_le (by rw [bs_length, List.length_replicate]; omega), List.append_nil] at hst4; have HX4 := Lib.hid hst4; clear hst4))
  refine ret_blk rfl _ rfl HX4.out.1 _ Tryd.underlying23 rfl (by rw [HDL.out]; exact Tryd.size44) rfl ⟨rfl, HX4.out.below HX3.out.2 (by omega)⟩
theorem rdgst_any (p m : List UInt8) (n : Int) (hp : p.length = 16) (hn : inI n) (hm : m.length ≤ 1000000) (w : World) (hK : KR w) :
    Calls Tryd.prog 17 #[.agg (bs p).toArray, .int .i64 n, .string (sb m)] w fun e w' => e = .returned (.agg (bs (dgst p n m)).toArray) ∧ Below w.heap.size w w' := rdgst_aux p _ m n rfl hp hn hm w hK
set_option maxHeartbeats 400000 in
theorem rfits_yes (s : List UInt8) (h : Int) (hs : s.length = 32) (h0 : 0 ≤ h) (h6 : h ≤ 6) (w : World) : Calls Tryd.prog 24 #[.string (sb s), .int .i64 h] w fun e w' => e = .returned (.bool true) ∧ w = w' := by
  have hsz : (sb s).size = 32 := by rw [sb_size, hs]
  have d1 : decide (0 ≤ h) = true := by simpa using h0
  have d2 : decide (h ≤ 6) = true := by simpa using h6
  go_enter Tryd.func24, Tryd.ntmps24
  go_wp2_with fail
  go_ret
  exact ⟨rfl, rfl⟩
set_option maxHeartbeats 400000 in
theorem rfits_no (s : List UInt8) (h : Int) (hh : s.length ≠ 32 ∨ h < 0 ∨ 6 < h) (w : World) : Calls Tryd.prog 24 #[.string (sb s), .int .i64 h] w fun e w' => e = .returned (.bool false) ∧ w = w' := by
  by_cases hs : s.length = 32
  · have hsz : (sb s).size = 32 := by rw [sb_size, hs]
    have h2 : h < 0 ∨ 6 < h := by omega
    rcases h2 with h2 | h2
    · have d1 : decide (0 ≤ h) = false := by simp; omega
      go_enter Tryd.func24, Tryd.ntmps24
      go_wp2_with fail
      go_ret
      exact ⟨rfl, rfl⟩
    · have d1 : decide (0 ≤ h) = true := by simp; omega
      have d2 : decide (h ≤ 6) = false := by simp; omega
      go_enter Tryd.func24, Tryd.ntmps24
      go_wp2_with fail
      go_ret
      exact ⟨rfl, rfl⟩
  · have hsz := sb_size s
    have hb : ((s.length : Int) == 32) = false := by simp; omega
    go_enter Tryd.func24, Tryd.ntmps24
    go_wp2_with fail
    go_ret
    exact ⟨rfl, rfl⟩
set_option maxRecDepth 100000 in
set_option maxHeartbeats 1000000 in
theorem rpublic_no (s : List UInt8) (h : Int) (hh : s.length ≠ 32 ∨ h < 0 ∨ 6 < h) (w : World) :
    Calls Tryd.prog 13 #[.string (sb s), .int .i64 h] w fun e w' => e = retD (List.replicate 16 0) 1 ∧ Below w.heap.size w w' := by
  have HB0 : Hid (Blk (w.alloc (.cells #[.int .u8 0, .int .u8 0, .int .u8 0, .int .u8 0, .int .u8 0, .int .u8 0, .int .u8 0, .int .u8 0, .int .u8 0, .int .u8 0, .int .u8 0, .int .u8 0, .int .u8 0, .int .u8 0, .int .u8 0, .int .u8 0] 23)) w.heap.size (bs (List.replicate 16 0)) 23 ∧ Below w.heap.size w (w.alloc (.cells #[.int .u8 0, .int .u8 0, .int .u8 0, .int .u8 0, .int .u8 0, .int .u8 0, .int .u8 0, .int .u8 0, .int .u8 0, .int .u8 0, .int .u8 0, .int .u8 0, .int .u8 0, .int .u8 0, .int .u8 0, .int .u8 0] 23))) := Lib.hid ⟨Blk.new' w (bs (List.replicate 16 0)) _ _ rfl, below_a1 _ _⟩
  go_enter Tryd.func13, Tryd.ntmps13
  go_wp2_with (first
    | (refine (rfits_no s h hh _).mono ?_; rintro e w' ⟨rfl, rfl⟩)
    | (refine wpList_store_blk rfl 23 (.tmp 4) (.tmp 12) rfl w.heap.size 0 rfl [.int .u8 0, .int .u8 0, .int .u8 0, .int .u8 0, .int .u8 0, .int .u8 0, .int .u8 0, .int .u8 0, .int .u8 0, .int .u8 0, .int .u8 0, .int .u8 0, .int .u8 0, .int .u8 0, .int .u8 0, .int .u8 0] rfl HB0.out.1 16 Tryd.size44 rfl (by rw [bs_length, List.length_replicate]; omega) (bs_one (List.replicate 16 0)) ?_; intro x1 hst1; rw [List.take_zero, List.nil_append, List.drop_of_length_le (by rw [bs_length, List.length_replicate]; omega), List.append_nil] at hst1; have HST : Hid (Stored _ x1 w.heap.size (bs (List.replicate 16 0)) 23) := Lib.hid hst1; clear hst1))
  exact ret_blk2 rfl _ rfl HST.out.1 _ Tryd.underlying23 rfl (by rw [bs_length, List.length_replicate]; exact Tryd.size44) rfl _ rfl ⟨rfl, HST.out.below HB0.out.2 (Nat.le_refl _)⟩
set_option maxRecDepth 100000 in
set_option maxHeartbeats 1000000 in
theorem rpublic_yes (s D : List UInt8) (h : Nat) (H : Int) (hH : H = (h : Int)) (hs : s.length = 32) (h6 : h ≤ 6) (hD : D = node s h 0) (w : World) (hK : KR w) :
    Calls Tryd.prog 13 #[.string (sb s), .int .i64 H] w fun e w' => e = retD D 0 ∧ Below w.heap.size w w' := by
  have hDl : (bs D).length = 16 := by rw [bs_length, hD, node_length]
  have HLV : Hid (∀ W, KR W → Calls Tryd.prog 25 #[.string (sb s), .int .i64 H] W fun e w' => ∃ g c b cp, e = .returned (.slice (some ⟨g, 0, none⟩) (h + 1) c) ∧ w'.cell? ⟨g, h, none⟩ = some (.slice (some ⟨b, 0, none⟩) 1 cp) ∧ w'.rangeAt b 0 (bs D) ∧ Below W.heap.size W w') := Lib.hid fun W hk =>
    (rlevels_any s (by omega) h H hH h6 W hk).mono fun e w' ⟨g, c, he, hO⟩ => by
      obtain ⟨b, cp, hc, hr⟩ := hO.row h (by omega)
      rw [Nat.sub_self, Nat.pow_zero] at hc hr
      obtain ⟨R, _, _, h3⟩ := hO
      exact ⟨g, c, b, cp, he, hc, by rw [hD]; exact hr.range 0 (by omega) _ rfl, h3⟩
  have hh0 : 0 ≤ H := by omega
  have hh6 : H ≤ 6 := by omega
  have hlt : H < (h : Int) + 1 := by omega
  have HK := Lib.hid hK; clear hK
  have HB0 : Hid (Blk (w.alloc (.cells #[.int .u8 0, .int .u8 0, .int .u8 0, .int .u8 0, .int .u8 0, .int .u8 0, .int .u8 0, .int .u8 0, .int .u8 0, .int .u8 0, .int .u8 0, .int .u8 0, .int .u8 0, .int .u8 0, .int .u8 0, .int .u8 0] 23)) w.heap.size (bs (List.replicate 16 0)) 23 ∧ Below w.heap.size w (w.alloc (.cells #[.int .u8 0, .int .u8 0, .int .u8 0, .int .u8 0, .int .u8 0, .int .u8 0, .int .u8 0, .int .u8 0, .int .u8 0, .int .u8 0, .int .u8 0, .int .u8 0, .int .u8 0, .int .u8 0, .int .u8 0, .int .u8 0] 23))) := Lib.hid ⟨Blk.new' w (bs (List.replicate 16 0)) _ _ rfl, below_a1 _ _⟩
  have HDL := Lib.hid hDl; clear hDl hD
  subst hH
  go_enter Tryd.func13, Tryd.ntmps13
  go_wp2_with (first
    | (refine (rfits_yes s (h : Int) hs hh0 hh6 _).mono ?_; rintro e w' ⟨rfl, rfl⟩)
    | ((with_reducible refine (HLV.out _ ?_).mono ?_); exact (HK.out.of HB0.out.2); rintro e x1 ⟨g, c, b, cp, rfl, hcell, hrg, hb1⟩; have HX1 : Hid (x1.rangeAt b 0 (bs D) ∧ Blk x1 w.heap.size (bs (List.replicate 16 0)) 23 ∧ Below w.heap.size w x1) := Lib.hid ⟨hrg, HB0.out.1.below hb1 HB0.out.1.lt, below_next HB0.out.2 hb1⟩; clear hrg hb1)
    | (refine wpList_load_mid rfl 23 (.tmp 19) rfl b 0 rfl (bs D) _ HX1.out.1 Tryd.underlying23 rfl (by rw [HDL.out]; exact Tryd.size44) ?_)
    | (refine wpList_store_blk rfl 23 (.tmp 4) (.tmp 20) rfl w.heap.size 0 rfl (bs D) rfl HX1.out.2.1 16 Tryd.size44 HDL.out (by rw [bs_length, List.length_replicate]; omega) (bs_one _) ?_; intro x3 hst3; rw [List.take_zero, List.nil_append, List.drop_of_length_le (by rw [bs_length, List.length_replicate]; omega), List.append_nil] at hst3; have HST := Lib.hid hst3; clear hst3))
  exact ret_blk2 rfl _ rfl HST.out.1 _ Tryd.underlying23 rfl (by rw [HDL.out]; exact Tryd.size44) rfl _ rfl ⟨rfl, HST.out.below HX1.out.2.2 (Nat.le_refl _)⟩

set_option maxRecDepth 100000 in
set_option maxHeartbeats 1000000 in
theorem rsign_arg (s m : List UInt8) (h i : Int) (hh : s.length ≠ 32 ∨ h < 0 ∨ 6 < h) (w : World) :
    Calls Tryd.prog 15 #[.string (sb s), .int .i64 h, .int .i64 i, .string (sb m)] w fun e w' => e = retS2 [] 1 ∧ Below w.heap.size w w' := by
  have hb0 := Below.refl w.heap.size w
  go_enter Tryd.func15, Tryd.ntmps15
  go_wp2_with ((with_reducible refine (rfits_no s h hh _).mono ?_); rintro e w' ⟨rfl, rfl⟩)
  go_ret2
  exact ⟨rfl, hb0⟩
theorem pow_int (h P : Nat) (hP : P = 2 ^ h) (h6 : h ≤ 6) : wrap64 (2 ^ h) = (P : Int) ∧ P ≤ 64 ∧ 0 < P := by
  have h64 : 2 ^ h ≤ 2 ^ 6 := Nat.pow_le_pow_right (by omega) h6
  have h64 : P ≤ 64 := by rw [hP]; exact h64
  refine ⟨?_, h64, by rw [hP]; exact Nat.two_pow_pos h⟩
  rw [show (2 : Int) ^ h = (P : Int) from by rw [hP]; simp]
  exact IntWalk.wrap64_in _ (by omega)
set_option maxRecDepth 100000 in
set_option maxHeartbeats 1000000 in
theorem rsign_spent (s m : List UInt8) (h : Nat) (H i : Int) (hH : H = (h : Int)) (hs : s.length = 32) (h6 : h ≤ 6) (hi : i < 0 ∨ ((2 ^ h : Nat) : Int) ≤ i) (w : World) :
    Calls Tryd.prog 15 #[.string (sb s), .int .i64 H, .int .i64 i, .string (sb m)] w fun e w' => e = retS2 [] 23 ∧ Below w.heap.size w w' := by
  subst hH
  have hb0 := Below.refl w.heap.size w
  obtain ⟨P, hP⟩ : ∃ P, P = 2 ^ h := ⟨_, rfl⟩
  obtain ⟨hshf, hP64, hP0⟩ := pow_int h P hP h6
  have HS := Lib.hid (fun W => rfits_yes s (h : Int) hs (by omega) (by omega) W)
  rw [← hP] at hi
  clear hP
  by_cases hi0 : i < 0
  · have hd1 : decide (i < 0) = true := by simpa using hi0
    clear hi hshf hs
    go_enter Tryd.func15, Tryd.ntmps15
    go_wp2_with ((with_reducible refine (HS.out _).mono ?_); rintro e w' ⟨rfl, rfl⟩)
    go_ret2
    exact ⟨rfl, hb0⟩
  · have hd1 : decide (i < 0) = false := by simp; omega
    have hd2 : decide ((P : Int) ≤ i) = true := by simp; omega
    clear hi hs
    go_enter Tryd.func15, Tryd.ntmps15
    go_wp2_with ((with_reducible refine (HS.out _).mono ?_); rintro e w' ⟨rfl, rfl⟩)
    go_ret2
    exact ⟨rfl, hb0⟩
/-- What the reference's Sign keeps of the tree while it makes the text. -/
def TR (w : World) (s : List UInt8) (h G c : Nat) (W : World) : Prop := OutI w W s h (h + 1) G c
theorem TR.next {w W W' : World} {s : List UInt8} {h G c : Nat} (H : TR w s h G c W) (hb : Below W.heap.size W W') : TR w s h G c W' := OutI.next H hb
theorem TR.below {w W : World} {s : List UInt8} {h G c : Nat} (H : TR w s h G c W) : Below w.heap.size w W := by obtain ⟨R, _, _, h3⟩ := H; exact h3
/-- The tree, and the digits' cells. -/
def TD (w : World) (s : List UInt8) (h G c : Nat) (D : List Nat) (B O : Nat) (W : World) : Prop := TR w s h G c W ∧ B < W.heap.size ∧ ∀ k v, (is D)[k]? = some v → W.cell? ⟨B, O + k, none⟩ = some v
theorem TD.next {w W W' : World} {s : List UInt8} {h G c : Nat} {D : List Nat} {B O : Nat} (H : TD w s h G c D B O W) (hb : Below W.heap.size W W') : TD w s h G c D B O W' :=
  ⟨H.1.next hb, Nat.lt_of_lt_of_le H.2.1 hb.size, fun k v hv => (hb.cell (p := ⟨B, O + k, none⟩) H.2.1).trans (H.2.2 k v hv)⟩
theorem TD.drew {w W : World} {s : List UInt8} {h G c : Nat} {D : List Nat} {B O : Nat} (H : TD w s h G c D B O W) : TD w s h G c D B O W.drew := H.next (Below.refl _ _).drew
set_option maxRecDepth 100000 in
set_option maxHeartbeats 4000000 in
theorem rsign_ok (s m G P E : List UInt8) (D : List Nat) (Q1 Q2 : Nat → List UInt8) (h i : Nat) (hs : s.length = 32) (h6 : h ≤ 6) (hi : i < 2 ^ h) (hm : m.length ≤ 1000000)
    (hP : P = node s h 0) (hD : D = digs (dgst P i m)) (hE : E = en i) (hQ1 : Q1 = fun c => adv i c 0 (D.getD c 0) (bot s i c)) (hQ2 : Q2 = fun l => node s l (sib (i / 2 ^ l))) (hG : G = piece Q2 (piece Q1 E 68) h) (w : World) (hK : KR w) :
    Calls Tryd.prog 15 #[.string (sb s), .int .i64 (h : Int), .int .i64 (i : Int), .string (sb m)] w fun e w' => e = retS2 G 0 ∧ Below w.heap.size w w' := by
  have hi64 : i < 64 := by have : 2 ^ h ≤ 2 ^ 6 := Nat.pow_le_pow_right (by omega) h6; omega
  have hPl : P.length = 16 := by rw [hP, node_length]
  obtain ⟨Z, hZ⟩ : ∃ Z, Z = dgst P i m := ⟨_, rfl⟩
  have hZl : Z.length = 16 := by rw [hZ, dgst_length]
  rw [← hZ] at hD
  have hDl : D.length = 68 := by rw [hD, digs_length Z hZl]
  have hD3 : ∀ c, D.getD c 0 ≤ 3 := fun c => by rw [hD]; exact digs_getD_le Z hZl c
  have hQ1l : ∀ k, (Q1 k).length = 16 := fun k => by rw [hQ1]; exact adv_length _ _ _ _ _ (bot_length _ _ _)
  have hQ2l : ∀ k, (Q2 k).length = 16 := fun k => by rw [hQ2]; exact node_length _ _ _
  have hEl : E.length ≤ 9 := by rw [hE]; exact en_len9 _
  have HLV : Hid (∀ W, KR W → Calls Tryd.prog 25 #[.string (sb s), .int .i64 (h : Int)] W fun e w' => ∃ g c, e = .returned (.slice (some ⟨g, 0, none⟩) (h + 1) c) ∧ OutI W w' s h (h + 1) g c) := Lib.hid fun W hk => rlevels_any s (by omega) h _ rfl h6 W hk
  have HDG : Hid (∀ W, KR W → Calls Tryd.prog 17 #[.agg (bs P).toArray, .int .i64 (i : Int), .string (sb m)] W fun e w' => e = .returned (.agg (bs Z).toArray) ∧ Below W.heap.size W w') := Lib.hid fun W hk => by rw [hZ]; exact rdgst_any P m i hPl (by unfold inI; omega) hm W hk
  have HDI : Hid (∀ W, Calls Tryd.prog 11 #[.agg (bs Z).toArray] W fun e w' => ∃ A c, e = .returned (.slice A 68 c) ∧ Rd w' A (is D) ∧ Below W.heap.size W w') := Lib.hid fun W => by rw [hD]; exact rdigits_any Z hZl W
  have HIN : Hid (∀ W, Calls Tryd.prog 36 #[.int .i64 (i : Int)] W fun e w' => ∃ A c, e = .returned (.slice A E.length c) ∧ (convert 58 9 (.slice A E.length c)).run Tryd.prog w' = .ok (.string (sb E)) w' ∧ Below W.heap.size W w') := Lib.hid fun W => rint_at _ E hE (by unfold inI; omega) W
  have HST : Hid (∀ (k : Nat), k < 68 → ∀ W, KR W → Calls Tryd.prog 39 #[.string (sb s), .int .i64 (i : Int), .int .i64 (k : Int)] W fun e w' => e = .returned (.agg (bs (bot s i k)).toArray) ∧ Below W.heap.size W w') := Lib.hid fun k hk W hw => rstart_any s i (by unfold inI; omega) (by omega) k (by omega) W hw
  have HAD : Hid (∀ (k : Nat), k < 68 → ∀ W, KR W → Calls Tryd.prog 38 #[.int .i64 (i : Int), .int .i64 (k : Int), .int .i64 0, .int .i64 ((D.getD k 0 : Nat) : Int), .agg (bs (bot s i k)).toArray] W fun e w' => e = .returned (.agg (bs (Q1 k)).toArray) ∧ Below W.heap.size W w') := Lib.hid fun k hk W hw => by
    rw [hQ1]
    exact radv_any i (by unfold inI; omega) k 0 (D.getD k 0) (k : Int) 0 _ rfl rfl (by omega) _ (by omega) (by have := hD3 k; omega) (bot_length _ _ _) W hw
  have HTX1 : Hid (∀ (k : Nat), ∀ W, Calls Tryd.prog 37 #[.agg (bs (Q1 k)).toArray] W fun e w' => e = .returned (.string (sb (Q1 k))) ∧ Below W.heap.size W w') := Lib.hid fun k W => text_any _ (hQ1l k) W
  have HTX2 : Hid (∀ (k : Nat), ∀ W, Calls Tryd.prog 37 #[.agg (bs (Q2 k)).toArray] W fun e w' => e = .returned (.string (sb (Q2 k))) ∧ Below W.heap.size W w') := Lib.hid fun k W => text_any _ (hQ2l k) W
  have hsz := sb_size m
  have hdm : decide ((1048576 : Int) < (m.length : Int)) = false := by simp; omega
  obtain ⟨Pw, hPw⟩ : ∃ P, P = 2 ^ h := ⟨_, rfl⟩
  obtain ⟨hshf, hPw64, hPw0⟩ := pow_int h Pw hPw h6
  have hdi : decide ((Pw : Int) ≤ (i : Int)) = false := decide_eq_false (Int.not_le.2 (Int.ofNat_lt.2 (by rw [hPw]; exact hi)))
  have hdi1 : decide (Pw ≤ i) = false := decide_eq_false (Nat.not_le.2 (by rw [hPw]; exact hi))
  have hdi0 : decide ((i : Int) < 0) = false := by simp
  have hFY := fun W => rfits_yes s (h : Int) hs (by omega) (by omega) W
  have HFY := Lib.hid hFY
  have hll : (h : Int) < (h : Int) + 1 := by omega
  have hl0 : (0 : Int) ≤ (h : Int) := by omega
  have HL := Lib.hid (And.intro hDl (And.intro hQ1l (And.intro hQ2l (And.intro hEl (And.intro hG (And.intro hQ2 (And.intro hP hi)))))))
  have HPL : Hid ((bs P).length = 16) := Lib.hid (by rw [bs_length]; exact hPl)
  have HK := Lib.hid hK
  clear hK hDl hQ1l hQ2l hEl hG hQ2 hP hi hQ1 hE hD hD3 hZl hPl hPw hZ hFY hs
  go_enter Tryd.func15, Tryd.ntmps15
  go_wp2_with (first
    | ((with_reducible refine (HFY.out _).mono ?_); rintro e w' ⟨rfl, rfl⟩)
    | (go_at_call 25; (with_reducible refine (HLV.out _ ?_).mono ?_); exact HK.out; rintro e x1 ⟨G0, c0, rfl, hO⟩; obtain ⟨b0, cp0, hcell, hrow⟩ := hO.row h (by omega); rw [Nat.sub_self, Nat.pow_zero] at hcell hrow; have HX1 : Hid (TR w s h G0 c0 x1) := Lib.hid hO; have HR1 : Hid (x1.rangeAt b0 0 (bs P)) := Lib.hid (by rw [HL.out.2.2.2.2.2.2.1]; exact hrow.range 0 (by omega) _ rfl); clear hO hrow)
    | (refine wpList_load_mid rfl 23 (.tmp 41) rfl b0 0 rfl (bs P) _ HR1.out Tryd.underlying23 rfl (by rw [HPL.out]; exact Tryd.size44) ?_)
    | (go_at_call 17; (with_reducible refine (HDG.out _ ?_).mono ?_); exact (HK.out.of HX1.out.below); rintro e x2 ⟨rfl, hb2⟩; have HX2 : Hid (TR w s h G0 c0 x2) := Lib.hid (OutI.next HX1.out hb2); clear hb2 hcell)
    | (go_at_call 11; (with_reducible refine (HDI.out _).mono ?_); rintro e x3 ⟨A3, c3, rfl, hrd3, hb3⟩; obtain ⟨B, O, rfl, hcl3⟩ := hrd3.open (by intro e; have := congrArg List.length e; rw [is_length, HL.out.1] at this; cases this); have HX3 : Hid (TD w s h G0 c0 D B O x3) := Lib.hid ⟨OutI.next HX2.out hb3, World.block_lt_of_cell? x3 ⟨B, O + 0, none⟩ (hcl3 0 _ (is_get D 0 (by rw [HL.out.1]; omega))), hcl3⟩; clear hb3 hcl3 hrd3)
    | (go_at_call 36; (with_reducible refine (HIN.out _).mono ?_); rintro e x4 ⟨A4, c4, rfl, hcv4, hb4⟩; have HX4 : Hid (TD w s h G0 c0 D B O x4) := Lib.hid (HX3.out.next hb4); clear hb4))
  go_loopg [13, 14] 68 (fun g s13 s14 wr => ∃ k : Nat, k + g = 68 ∧ s14 = .int .i64 k ∧ s13 = .string (sb (piece Q1 E k)) ∧ TD w s h G0 c0 D B O wr)
  case atStart => exact ⟨0, rfl, rfl, by rw [piece_zero], HX4.out⟩
  case round =>
    clear HX1 HX2 HX3 HX4 HR1 hcv4
    obtain ⟨k, hk, rfl, rfl, hT⟩ := hrel
    by_cases hlt : k < 68
    · obtain ⟨g, rfl⟩ : ∃ g, gk = g + 1 := ⟨gk - 1, by omega⟩
      have HS := Lib.hid hT; clear hT
      have hLl := piece_length Q1 E HL.out.2.1 k
      have hEl := HL.out.2.2.2.1
      have hnx := piece_succ Q1 E k
      have HST' := Lib.hid (HST.out k hlt)
      have HAD' := Lib.hid (HAD.out k hlt)
      have HTX' := Lib.hid (HTX1.out k)
      have hXl := HL.out.2.1 k
      generalize piece Q1 E k = L at hLl hnx ⊢
      obtain ⟨X, hX⟩ : ∃ X, X = Q1 k := ⟨_, rfl⟩
      rw [← hX] at HAD' HTX' hXl hnx
      obtain ⟨V, hV⟩ : ∃ V, V = bot s i k := ⟨_, rfl⟩
      rw [← hV] at HAD' HST'
      obtain ⟨f, hf⟩ : ∃ f, f = D.getD k 0 := ⟨_, rfl⟩
      rw [← hf] at HAD'
      have HCL : Hid (∀ W, Below wr.heap.size wr W → W.cell? ⟨B, O + k, none⟩ = some (.int .i64 (f : Int))) := Lib.hid fun W hb => by rw [hf]; exact (HS.out.next hb).2.2 k _ (is_get D k (by rw [HL.out.1]; exact hlt))
      have hcat := sb_append L X
      have hadd := fun (W : World) => run_cat (P := Tryd.prog) (sb L) (sb X) (by rw [sb_size, sb_size, hXl, hLl]; omega) W
      rw [hcat] at hadd
      have HNX := Lib.hid hnx
      have hb0 : (0 : Int) ≤ (k : Int) := by omega
      have hb1 : (k : Int) < 68 := by omega
      clear hcat hLl hXl hnx hX hV hf hEl
      go_wp2_with fail
      refine wp_region_held_drew (S := fun w' => w'.cell? ⟨B, O + k, none⟩ = some (.int .i64 (f : Int))) (by kernel_rfl) (HCL.out _ (Below.refl _ _).drew) (fun hS0 => ?_)
      refine wpAnyH_take (i := 0) (oi := { dst := some 54, op := Op.move (Operand.tmp 13), type := 9, pos := "ref.go:115", after := #[], guard := none }) (v := ?_) rfl (by kernel_rfl) (by kernel_rfl) (by kernel_rfl) (fun _ _ _ h => h) (Or.inl ⟨by rfl, ?_⟩) (by assumption) ?_
      rotate_left
      · (intro w' hSw; (try dsimp only at hSw); go_simp; try with_reducible rfl)
      try simp only [Act.put, List.setIfInBounds_toArray, List.set_cons_zero, List.set_cons_succ]
      refine wpAnyH_take (i := 1) (oi := { dst := some 55, op := Op.move (Operand.tmp 2), type := 3, pos := "ref.go:115", after := #[], guard := none }) (v := ?_) rfl (by kernel_rfl) (by kernel_rfl) (by kernel_rfl) (fun _ _ _ h => h) (Or.inl ⟨by rfl, ?_⟩) (by assumption) ?_
      rotate_left
      · (intro w' hSw; (try dsimp only at hSw); go_simp; try with_reducible rfl)
      try simp only [Act.put, List.setIfInBounds_toArray, List.set_cons_zero, List.set_cons_succ]
      refine wpAnyH_take (i := 2) (oi := { dst := some 56, op := Op.move (Operand.tmp 14), type := 3, pos := "ref.go:115", after := #[], guard := none }) (v := ?_) rfl (by kernel_rfl) (by kernel_rfl) (by kernel_rfl) (fun _ _ _ h => h) (Or.inl ⟨by rfl, ?_⟩) (by assumption) ?_
      rotate_left
      · (intro w' hSw; (try dsimp only at hSw); go_simp; try with_reducible rfl)
      try simp only [Act.put, List.setIfInBounds_toArray, List.set_cons_zero, List.set_cons_succ]
      refine wpAnyH_take (i := 3) (oi := { dst := some 57, op := Op.move (Operand.tmp 12), type := 25, pos := "ref.go:115", after := #[], guard := none }) (v := ?_) rfl (by kernel_rfl) (by kernel_rfl) (by kernel_rfl) (fun _ _ _ h => h) (Or.inl ⟨by rfl, ?_⟩) (by assumption) ?_
      rotate_left
      · (intro w' hSw; (try dsimp only at hSw); go_simp; try with_reducible rfl)
      try simp only [Act.put, List.setIfInBounds_toArray, List.set_cons_zero, List.set_cons_succ]
      refine wpAnyH_take (i := 4) (oi := { dst := some 58, op := Op.move (Operand.tmp 14), type := 3, pos := "ref.go:115", after := #[], guard := none }) (v := ?_) rfl (by kernel_rfl) (by kernel_rfl) (by kernel_rfl) (fun _ _ _ h => h) (Or.inl ⟨by rfl, ?_⟩) (by assumption) ?_
      rotate_left
      · (intro w' hSw; (try dsimp only at hSw); go_simp; try with_reducible rfl)
      try simp only [Act.put, List.setIfInBounds_toArray, List.set_cons_zero, List.set_cons_succ]
      refine wpAnyH_take (i := 5) (oi := { dst := some 59, op := Op.indexAddr 25 (Operand.tmp 57) (Operand.tmp 58), type := 0, pos := "ref.go:115", after := #[{ on := 3, ground := Ground.data }, { on := 4, ground := Ground.data }], guard := none }) (v := ?_) rfl (by kernel_rfl) (by kernel_rfl) (by kernel_rfl) (fun _ _ _ h => h) (Or.inl ⟨by rfl, ?_⟩) (by assumption) ?_
      rotate_left
      · (intro w' hSw; (try dsimp only at hSw); go_simp; try with_reducible rfl)
      try simp only [Act.put, List.setIfInBounds_toArray, List.set_cons_zero, List.set_cons_succ]
      refine wpAnyH_take (i := 6) (oi := { dst := some 60, op := Op.load 3 (Operand.tmp 59), type := 3, pos := "ref.go:115", after := #[{ on := 5, ground := Ground.data }], guard := none }) (v := ?_) rfl (by kernel_rfl) (by kernel_rfl) (by kernel_rfl) (fun _ _ _ h => h) (Or.inl ⟨by rfl, ?_⟩) (by assumption) ?_
      rotate_left
      · (intro w' hSw; (try dsimp only at hSw); go_simp; try with_reducible rfl)
      try simp only [Act.put, List.setIfInBounds_toArray, List.set_cons_zero, List.set_cons_succ]
      refine wpAnyH_take (i := 7) (oi := { dst := some 61, op := Op.move (Operand.tmp 0), type := 9, pos := "ref.go:115", after := #[], guard := none }) (v := ?_) rfl (by kernel_rfl) (by kernel_rfl) (by kernel_rfl) (fun _ _ _ h => h) (Or.inl ⟨by rfl, ?_⟩) (by assumption) ?_
      rotate_left
      · (intro w' hSw; (try dsimp only at hSw); go_simp; try with_reducible rfl)
      try simp only [Act.put, List.setIfInBounds_toArray, List.set_cons_zero, List.set_cons_succ]
      refine wpAnyH_take (i := 8) (oi := { dst := some 62, op := Op.move (Operand.tmp 2), type := 3, pos := "ref.go:115", after := #[], guard := none }) (v := ?_) rfl (by kernel_rfl) (by kernel_rfl) (by kernel_rfl) (fun _ _ _ h => h) (Or.inl ⟨by rfl, ?_⟩) (by assumption) ?_
      rotate_left
      · (intro w' hSw; (try dsimp only at hSw); go_simp; try with_reducible rfl)
      try simp only [Act.put, List.setIfInBounds_toArray, List.set_cons_zero, List.set_cons_succ]
      refine wpAnyH_take (i := 9) (oi := { dst := some 63, op := Op.move (Operand.tmp 14), type := 3, pos := "ref.go:115", after := #[], guard := none }) (v := ?_) rfl (by kernel_rfl) (by kernel_rfl) (by kernel_rfl) (fun _ _ _ h => h) (Or.inl ⟨by rfl, ?_⟩) (by assumption) ?_
      rotate_left
      · (intro w' hSw; (try dsimp only at hSw); go_simp; try with_reducible rfl)
      try simp only [Act.put, List.setIfInBounds_toArray, List.set_cons_zero, List.set_cons_succ]
      refine wpAnyH_ready (rs := [10]) (by kernel_rfl) (by simp) ?_
      refine AllReadyH.cons (o := { dst := some 64, op := Op.call { callee := Callee.value (Operand.func 39), args := #[Operand.tmp 61, Operand.tmp 62, Operand.tmp 63], argTypes := #[9, 3, 3] }, type := 23, pos := "ref.go:115", after := #[{ on := 7, ground := Ground.data }, { on := 8, ground := Ground.data }, { on := 9, ground := Ground.data }], guard := none }) rfl (fun K hK => ?_) AllReadyH.nil
      go_simp
      go_at_call 39
      refine (HST'.out _ (HK.out.of HS.out.1.below.drew)).mono ?_
      rintro e y1 ⟨rfl, hb⟩
      have HY1 : Hid (TD w s h G0 c0 D B O y1) := Lib.hid (HS.out.drew.next hb)
      have HY1W : Hid (Below wr.heap.size wr y1) := Lib.hid (below_next (Below.refl _ wr).drew hb)
      clear hb
      refine hK _ _ (HCL.out _ HY1W.out) (fun hS1 => ?_)
      clear hK K
      try simp only [Act.put, List.setIfInBounds_toArray, List.set_cons_zero, List.set_cons_succ]
      refine wpAnyH_ready (rs := [11]) (by kernel_rfl) (by simp) ?_
      refine AllReadyH.cons (o := { dst := some 65, op := Op.call { callee := Callee.value (Operand.func 38), args := #[Operand.tmp 55, Operand.tmp 56, Operand.const (Value.int IntKind.i64 0), Operand.tmp 60, Operand.tmp 64], argTypes := #[3, 3, 3, 3, 23] }, type := 23, pos := "ref.go:115", after := #[{ on := 1, ground := Ground.data }, { on := 2, ground := Ground.data }, { on := 6, ground := Ground.data }, { on := 10, ground := Ground.data }, { on := 10, ground := Ground.chain }], guard := none }) rfl (fun K hK => ?_) AllReadyH.nil
      go_simp
      go_at_call 38
      refine (HAD'.out _ (HK.out.of HY1.out.1.below)).mono ?_
      rintro e y2 ⟨rfl, hb⟩
      have HY2 : Hid (TD w s h G0 c0 D B O y2) := Lib.hid (HY1.out.next hb)
      have HY2W : Hid (Below wr.heap.size wr y2) := Lib.hid (below_next HY1W.out hb)
      clear hb
      refine hK _ _ (HCL.out _ HY2W.out) (fun hS2 => ?_)
      clear hK K
      try simp only [Act.put, List.setIfInBounds_toArray, List.set_cons_zero, List.set_cons_succ]
      refine wpAnyH_ready (rs := [12]) (by kernel_rfl) (by simp) ?_
      refine AllReadyH.cons (o := { dst := some 66, op := Op.call { callee := Callee.value (Operand.func 37), args := #[Operand.tmp 65], argTypes := #[23] }, type := 9, pos := "ref.go:115", after := #[{ on := 11, ground := Ground.data }, { on := 11, ground := Ground.chain }], guard := none }) rfl (fun K hK => ?_) AllReadyH.nil
      go_simp
      go_at_call 37
      refine (HTX'.out _).mono ?_
      rintro e y3 ⟨rfl, hb⟩
      have HY3 : Hid (TD w s h G0 c0 D B O y3) := Lib.hid (HY2.out.next hb)
      have HY3W : Hid (Below wr.heap.size wr y3) := Lib.hid (below_next HY2W.out hb)
      clear hb
      refine hK _ _ (HCL.out _ HY3W.out) (fun hS3 => ?_)
      clear hK K
      try simp only [Act.put, List.setIfInBounds_toArray, List.set_cons_zero, List.set_cons_succ]
      refine wpAnyH_take (i := 13) (oi := { dst := some 67, op := Op.binOp BinOp.add 9 (Operand.tmp 54) (Operand.tmp 66) 9, type := 9, pos := "ref.go:115", after := #[{ on := 0, ground := Ground.data }, { on := 12, ground := Ground.data }], guard := none }) (v := ?_) rfl (by kernel_rfl) (by kernel_rfl) (by kernel_rfl) (fun _ _ _ h => h) (Or.inl ⟨by rfl, ?_⟩) (by assumption) ?_
      rotate_left
      · (intro w' hSw; (try dsimp only at hSw); go_simp; try with_reducible rfl)
      try simp only [Act.put, List.setIfInBounds_toArray, List.set_cons_zero, List.set_cons_succ]
      refine wpAnyH_take (i := 14) (oi := { dst := some 13, op := Op.assign (Operand.tmp 67), type := 9, pos := "ref.go:115", after := #[{ on := 13, ground := Ground.data }, { on := 12, ground := Ground.chain }, { on := 0, ground := Ground.phase }, { on := 1, ground := Ground.phase }, { on := 2, ground := Ground.phase }, { on := 3, ground := Ground.phase }, { on := 4, ground := Ground.phase }, { on := 5, ground := Ground.phase }, { on := 6, ground := Ground.phase }, { on := 7, ground := Ground.phase }, { on := 8, ground := Ground.phase }, { on := 9, ground := Ground.phase }, { on := 10, ground := Ground.phase }, { on := 11, ground := Ground.phase }, { on := 12, ground := Ground.phase }, { on := 13, ground := Ground.phase }], guard := none }) (v := ?_) rfl (by kernel_rfl) (by kernel_rfl) (by kernel_rfl) (fun _ _ _ h => h) (Or.inl ⟨by rfl, ?_⟩) (by assumption) ?_
      rotate_left
      · (intro w' hSw; (try dsimp only at hSw); go_simp; try with_reducible rfl)
      try simp only [Act.put, List.setIfInBounds_toArray, List.set_cons_zero, List.set_cons_succ]
      refine wpAnyH_done (by kernel_rfl) ?_ _
      go_wp2_with fail
      go_roundg g
      case rel => exact ⟨k + 1, by omega, by go_num, by rw [HNX.out], HY3.out⟩
      case measure => omega
    · obtain rfl : k = 68 := by omega
      have HS := Lib.hid hT; clear hT
      go_wp2_with fail
      clear HST HAD hshf
      rw [show ((68 : Nat) : Int) = 68 from rfl]
      obtain ⟨T, hT⟩ : ∃ T, T = piece Q1 E 68 := ⟨_, rfl⟩
      have hTl : T.length ≤ 1100 := by rw [hT, piece_length Q1 E HL.out.2.1]; have := HL.out.2.2.2.1; omega
      rw [← hT]
      have HT := Lib.hid (And.intro hT hTl); clear hT hTl
      go_loopg [13, 15, 16, 17] h (fun g s13 s15 s16 s17 wr => ∃ l : Nat, l + g = h ∧ s16 = .int .i64 l ∧ s15 = .int .i64 ((i / 2 ^ l : Nat) : Int) ∧ s13 = .string (sb (piece Q2 T l)) ∧ TD w s h G0 c0 D B O wr)
      case atStart => exact ⟨0, by omega, rfl, by simp, by rw [piece_zero], HS.out⟩
      case round =>
        clear HS
        obtain ⟨l, hl, rfl, rfl, rfl, hT⟩ := hrel
        by_cases hlt : l < h
        · obtain ⟨g, rfl⟩ : ∃ g, gk = g + 1 := ⟨gk - 1, by omega⟩
          obtain ⟨b, cp, hcell, hrow⟩ := OutI.row hT.1 l (by omega)
          obtain ⟨half, hhalf⟩ : ∃ q, q = 2 ^ (h - (l + 1)) := ⟨_, rfl⟩
          have h2 : 2 ^ (h - l) = 2 * half := by rw [hhalf, show h - l = h - (l + 1) + 1 from by omega, Nat.pow_succ]; omega
          obtain ⟨M, hM⟩ : ∃ M, M = 2 ^ (h - l) := ⟨_, rfl⟩
          obtain ⟨j, hj⟩ : ∃ j, j = i / 2 ^ l := ⟨_, rfl⟩
          have hjM : j < M := by
            rw [hj, hM]
            refine Nat.div_lt_of_lt_mul ?_
            rw [← Nat.pow_add, show l + (h - l) = h from by omega]
            exact HL.out.2.2.2.2.2.2.2
          have hj2 : i / 2 ^ (l + 1) = j / 2 := by rw [hj, Nat.pow_succ, Nat.div_div_eq_div_mul]
          rw [← hM] at hcell hrow h2
          obtain ⟨sj, hsj⟩ : ∃ sj, sj = sib j := ⟨_, rfl⟩
          have hsM : sj < M := by rw [hsj, sib]; split <;> omega
          have hXr := hrow.range sj hsM (sj * 16) (Nat.mul_comm _ _)
          have hQX : Q2 l = node s l sj := by rw [HL.out.2.2.2.2.2.1, hsj, hj]
          rw [← hQX] at hXr
          have hLl := piece_length Q2 T HL.out.2.2.1 l
          have hTl := HT.out.2
          have hnx := piece_succ Q2 T l
          have HTX' := Lib.hid (HTX2.out l)
          have hXl := HL.out.2.2.1 l
          generalize piece Q2 T l = L at hLl hnx ⊢
          obtain ⟨X, hX⟩ : ∃ X, X = Q2 l := ⟨_, rfl⟩
          rw [← hX] at HTX' hXl hnx hXr
          have HR := Lib.hid hXr
          have HXB : Hid ((bs X).length = 16) := Lib.hid (by rw [bs_length]; exact hXl)
          have hcat := sb_append L X
          have hadd := fun (W : World) => run_cat (P := Tryd.prog) (sb L) (sb X) (by rw [sb_size, sb_size, hXl, hLl]; omega) W
          rw [hcat] at hadd
          rw [← hj]
          have HNX := Lib.hid hnx
          have HJ := Lib.hid (And.intro hj hj2)
          have HS := Lib.hid hT
          have hM64 : M ≤ 64 := by
            have : 2 ^ (h - l) ≤ 2 ^ 6 := Nat.pow_le_pow_right (by omega) (by omega)
            rw [hM]; exact this
          have hb0 : (0 : Int) ≤ (l : Int) := by omega
          have hb1 : (l : Int) < (h : Int) := by omega
          have hb2 : (0 : Int) ≤ (sj : Int) := by omega
          have hb3 : (sj : Int) < (M : Int) := by omega
          clear hcat hLl hXl hnx hX hXr hrow hQX hT hj hj2 h2 hhalf hM hTl
          by_cases hpar : j % 2 = 1
          · have hod : ((j : Int) % 2 == 1) = true := by simp; omega
            have hs1 : (j : Int) - 1 = (sj : Int) := by rw [hsj, sib, if_neg (by omega)]; omega
            have HSJ := Lib.hid hsj
            clear hsj
            go_wp2_with (first
              | (refine wpList_load_mid rfl 23 (.tmp 87) rfl b (sj * 16) rfl (bs X) _ HR.out Tryd.underlying23 rfl (by rw [HXB.out]; exact Tryd.size44) ?_)
              | (go_at_call 37; (with_reducible refine (HTX'.out _).mono ?_); rintro e y1 ⟨rfl, hb1⟩; have HY1 : Hid (TD w s h G0 c0 D B O y1) := Lib.hid (HS.out.next hb1); clear hb1))
            go_roundg g
            case rel => exact ⟨l + 1, by omega, by go_num, by rw [HJ.out.2]; rfl, by rw [HNX.out], HY1.out⟩
            case measure => omega
          · have hod : ((j : Int) % 2 == 1) = false := by simp; omega
            have hs1 : (j : Int) + 1 = (sj : Int) := by rw [hsj, sib, if_pos (by omega)]; omega
            have HSJ := Lib.hid hsj
            clear hsj
            go_wp2_with (first
              | (refine wpList_load_mid rfl 23 (.tmp 87) rfl b (sj * 16) rfl (bs X) _ HR.out Tryd.underlying23 rfl (by rw [HXB.out]; exact Tryd.size44) ?_)
              | (go_at_call 37; (with_reducible refine (HTX'.out _).mono ?_); rintro e y1 ⟨rfl, hb1⟩; have HY1 : Hid (TD w s h G0 c0 D B O y1) := Lib.hid (HS.out.next hb1); clear hb1))
            go_roundg g
            case rel => exact ⟨l + 1, by omega, by go_num, by rw [HJ.out.2]; rfl, by rw [HNX.out], HY1.out⟩
            case measure => omega
        · obtain rfl : l = h := by omega
          have HS := Lib.hid hT; clear hT
          go_wp2_with fail
          go_ret2
          exact ⟨by rw [HL.out.2.2.2.2.1, HT.out.1]; rfl, HS.out.1.below⟩
theorem rsign_any (s m : List UInt8) (h i : Nat) (H I : Int) (hH : H = (h : Int)) (hI : I = (i : Int)) (hs : s.length = 32) (h6 : h ≤ 6) (hi : i < 2 ^ h) (hm : m.length ≤ 1000000) (w : World) (hK : KR w) :
    Calls Tryd.prog 15 #[.string (sb s), .int .i64 H, .int .i64 I, .string (sb m)] w fun e w' => e = retS2 (sgn s h i m) 0 ∧ Below w.heap.size w w' := by
  subst hH hI
  have h1 := rsign_ok s m _ _ _ _ _ _ h i hs h6 hi hm rfl rfl rfl rfl rfl rfl w hK
  rw [piece_flat, piece_flat, List.append_assoc] at h1
  exact h1
end Go.Proofs.YtbgcnfikcddcpaaDoor
