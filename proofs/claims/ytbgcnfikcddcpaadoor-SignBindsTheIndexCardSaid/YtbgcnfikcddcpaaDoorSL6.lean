/-
  SignBindsTheIndex: for every byte of a seed, height, index, other index and message the law returns true; the two tables of constants are as the program's text lays them (the card ties them).
-/
import Derived.Test.YtbgcnfikcddcpaaDoorSLaw
import Derived.Test.YtbgcnfikcddcpaaDoorSRVer
namespace Go.Proofs.YtbgcnfikcddcpaaDoor
open Go.ChangeShapes Go.WideShapes Go.ChangeAt Go.RowKit Go.ChangeMaps
open Sha Sgn
set_option linter.unusedVariables false
set_option linter.unusedSimpArgs false
namespace SL6
set_option maxRecDepth 100000 in
set_option maxHeartbeats 1000000 in
theorem walk_big (c ht ix ot : UInt8) (m : List UInt8) (hm : 200 < m.length) (w : World) (hK : KH w) :
    Calls Tryd.prog 8 #[.int .u8 c.toNat, .int .u8 ht.toNat, .int .u8 ix.toNat, .int .u8 ot.toNat, .string (sb m)] w fun e w' => e = .returned (.bool true) ∧ Below w.heap.size w w' := by
  have hsz := sb_size m
  have hd : decide ((200 : Int) < (m.length : Int)) = true := by simp; omega
  clear hm
  have HK := Lib.hid hK
  clear hK
  go_enter Tryd.func8, Tryd.ntmps8
  go_wp2_with (go_at_call 9; (with_reducible refine (sanity_any _ ?_).mono ?_); exact HK.out; rintro e x1 ⟨rfl, hb1⟩; have HX1 := Lib.hid hb1; clear hb1)
  go_ret
  exact ⟨rfl, HX1.out⟩
set_option maxRecDepth 100000 in
set_option maxHeartbeats 4000000 in
theorem walk_aux (h i k : Nat) (H I K : Int) (hH : H = (h : Int)) (hI : I = (i : Int)) (hK' : K = (k : Int)) (h2 : h ≤ 2) (hi : i < 2 ^ h) (hk : k < 2 ^ h) (c ht ix ot : UInt8) (S P G G2 E2 RR M m : List UInt8) (hS : S = seedB c) (hP : P = node S h 0) (hG : G = sgn S h i m) (hG2 : G2 = sgn S h k m)
    (hE2 : E2 = en (k : Int)) (hRR : RR = G.drop (en (i : Int)).length) (hM : M = E2 ++ RR) (hm : m.length ≤ 200)
    (hrem : (wrap64 (ht.toNat : Int)).tmod 3 = H) (P2 : Int) (hshf : ∀ W, Sem.run Tryd.prog (Op.shift BinOp.shl IntKind.i64 1 IntKind.i64 H) W = .ok (.int .i64 P2) W) (hshf2 : wrap64 (2 ^ H.toNat) = P2) (hP2 : P2 ≠ 0) (hrem2 : (wrap64 (ix.toNat : Int)).tmod P2 = I) (hrem3 : (wrap64 (ot.toNat : Int)).tmod P2 = K)
    (r1 r2 : Int) (hver : ver P H m M = (r1, r2)) (bo : Bool) (hbo : (I != K) = bo) (hor : bo = true ∨ r2 = 0) (w : World) (hK : KH w) (hR : KR w) :
    Calls Tryd.prog 8 #[.int .u8 c.toNat, .int .u8 ht.toNat, .int .u8 ix.toNat, .int .u8 ot.toNat, .string (sb m)] w fun e w' => e = .returned (.bool true) ∧ Below w.heap.size w w' := by
  have hsz := sb_size m
  have hd : decide ((200 : Int) < (m.length : Int)) = false := by simp; omega
  have hSl : S.length = 32 := by rw [hS, seedB_length]
  have hPl : P.length = 16 := by rw [hP, node_length]
  obtain ⟨e1, he1⟩ : ∃ e1, e1 = (en (i : Int)).length := ⟨_, rfl⟩
  obtain ⟨e2, he2⟩ : ∃ e2, e2 = (en (k : Int)).length := ⟨_, rfl⟩
  have h91 : e1 ≤ 9 := by rw [he1]; exact en_len9 _
  have h92 : e2 ≤ 9 := by rw [he2]; exact en_len9 _
  obtain ⟨n, hn⟩ : ∃ n, n = 1088 + 16 * h := ⟨_, rfl⟩
  have hGl : G.length = e1 + n := by rw [hG, sgn_length, hn, he1]
  have hG2l : G2.length = e2 + n := by rw [hG2, sgn_length, hn, he2]
  have hHn : (68 + H) * 16 = (n : Int) := by omega
  have hH0 : 0 ≤ H := by omega
  have hH2 : H ≤ 2 := by omega
  have hMl : M.length ≤ 2000 := by rw [hM, List.length_append, hE2, hRR, List.length_drop, ← he1, ← he2]; omega
  have HSD : Hid (∀ W, Calls Tryd.prog 20 #[.int .u8 c.toNat] W fun e w' => e = .returned (.string (sb S)) ∧ Below W.heap.size W w') := Lib.hid fun W => by rw [hS]; exact seed_any c W
  have HPU : Hid (∀ W, KH W → Calls Tryd.prog 12 #[.string (sb S), .int .i64 H] W fun e w' => e = .returned (.tuple #[.agg (bs P).toArray, .int .i64 0]) ∧ Below W.heap.size W w') := Lib.hid fun W hk => public_yes S P h H hH hSl (by omega) hP W hk
  have HSG : Hid (∀ W, KH W → Calls Tryd.prog 14 #[.string (sb S), .int .i64 H, .int .i64 I, .string (sb m)] W fun e w' => e = .returned (.tuple #[.string (sb G), .int .i64 0]) ∧ Below W.heap.size W w') := Lib.hid fun W hk => by rw [hG]; exact sign_any S m h i H I hH hI hSl (by omega) hi (by omega) W hk
  have HSG2 : Hid (∀ W, KH W → Calls Tryd.prog 14 #[.string (sb S), .int .i64 H, .int .i64 K, .string (sb m)] W fun e w' => e = .returned (.tuple #[.string (sb G2), .int .i64 0]) ∧ Below W.heap.size W w') := Lib.hid fun W hw => by rw [hG2]; exact sign_any S m h k H K hH hK' hSl (by omega) hk (by omega) W hw
  have HV1 : Hid (∀ W, KH W → Calls Tryd.prog 18 #[.agg (bs P).toArray, .int .i64 H, .string (sb m), .string (sb M)] W fun e w' => e = .returned (.tuple #[.int .i64 r1, .int .i64 r2]) ∧ Below W.heap.size W w') := Lib.hid fun W hw => by
    have h1 := verify_any P m M W H hPl (by omega) hw
    rw [hver] at h1
    exact h1
  have HV2 : Hid (∀ W, KR W → Calls Tryd.prog 19 #[.agg (bs P).toArray, .int .i64 H, .string (sb m), .string (sb M)] W fun e w' => e = .returned (.tuple #[.int .i64 r1, .int .i64 r2]) ∧ Below W.heap.size W w') := Lib.hid fun W hw => by
    have h1 := rverify_any P m M W H hPl (by omega) (by omega) hw
    rw [hver] at h1
    exact h1
  obtain ⟨gl, hgl⟩ : ∃ gl, gl = G.length := ⟨_, rfl⟩
  obtain ⟨gl2, hgl2⟩ : ∃ gl, gl = G2.length := ⟨_, rfl⟩
  have hGz : (sb G).size = gl := by rw [sb_size, hgl]
  have hGz2 : (sb G2).size = gl2 := by rw [sb_size, hgl2]
  have hd1 : decide ((gl : Int) < 1088) = false := by simp; omega
  have hd2 : decide ((gl : Int) < (n : Int)) = false := by simp; omega
  have hd3 : decide ((gl2 : Int) < (n : Int)) = false := by simp; omega
  have hd4 : decide (gl < 1088) = false := by simp; omega
  have hd5 : decide (gl < n) = false := by simp; omega
  have hd6 : decide (gl2 < n) = false := by simp; omega
  have hw1 : IntKind.i64.wrap ((gl : Int) - (n : Int)) = (e1 : Int) := by rw [IntWalk.i64_in _ (by omega)]; omega
  have hw2 : IntKind.i64.wrap ((gl2 : Int) - (n : Int)) = (e2 : Int) := by rw [IntWalk.i64_in _ (by omega)]; omega
  have hz1 : (0 : Int) ≤ (e1 : Int) := by omega
  have hz2 : (0 : Int) ≤ (e2 : Int) := by omega
  have hl1 : (e1 : Int) ≤ (gl : Int) := by omega
  have hl2 : (e2 : Int) ≤ (gl2 : Int) := by omega
  have hc2 : (sb G2).extract 0 e2 = sb E2 := by rw [sb_take, hE2, hG2, sgn, he2, List.take_left]
  have hc1 : (sb G).extract e1 gl = sb RR := by rw [← hGz, hRR, ← he1]; exact sb_drop G e1 (by omega)
  have hcat := sb_append E2 RR
  have hadd := fun (W : World) => run_cat (P := Tryd.prog) (sb E2) (sb RR) (by rw [sb_size, sb_size, hE2, hRR, List.length_drop, ← he2]; omega) W
  rw [hcat, ← hM] at hadd
  have HPB : Hid ((bs P).length = 16) := Lib.hid (by rw [bs_length]; exact hPl)
  have HK := Lib.hid (And.intro hK hR)
  clear hK hR hS hP hG hG2 hE2 hRR hM hSl hPl he1 he2 hGl hG2l hMl hcat hH hI hK' hi hk hver hgl hgl2 hn
  rcases hor with rfl | rfl
  · go_enter Tryd.func8, Tryd.ntmps8
    go_wp2_with (first
      | (go_at_call 9; (with_reducible refine (sanity_any _ ?_).mono ?_); exact HK.out.1; rintro e x1 ⟨rfl, hb1⟩; have HX1 := Lib.hid hb1; clear hb1)
      | (go_at_call 20; (with_reducible refine (HSD.out _).mono ?_); rintro e x2 ⟨rfl, hb2⟩; have HX2 : Hid (Below w.heap.size w x2) := Lib.hid (below_next HX1.out hb2); clear hb2)
      | (go_at_call 12; (with_reducible refine (HPU.out _ ?_).mono ?_); exact (HK.out.1.of HX2.out); rintro e x3 ⟨rfl, hb3⟩; have HX3 : Hid (Below w.heap.size w x3) := Lib.hid (below_next HX2.out hb3); clear hb3)
      | (refine wpList_store_blk rfl 23 (.tmp 15) (.tmp 50) rfl x3.heap.size 0 rfl (bs P) rfl (Blk.new' x3 (bs (List.replicate 16 0)) _ 23 rfl) 16 Tryd.size44 HPB.out (by rw [bs_length, List.length_replicate]; omega) (bs_one _) ?_; intro x4 hst4; rw [List.take_zero, List.nil_append, List.drop_of_length_le (by rw [bs_length, List.length_replicate]; omega), List.append_nil] at hst4; have HX4 : Hid (Blk x4 x3.heap.size (bs P) 23 ∧ Below w.heap.size w x4) := Lib.hid ⟨hst4.1, hst4.below (al HX3.out _) HX3.out.size⟩; clear hst4)
      | (go_at_call 20; (with_reducible refine (HSD.out _ ).mono ?_); rintro e x5 ⟨rfl, hb5⟩; have HX5 : Hid (Blk x5 x3.heap.size (bs P) 23 ∧ Below w.heap.size w x5) := Lib.hid ⟨HX4.out.1.below hb5 HX4.out.1.lt, below_next HX4.out.2 hb5⟩; clear hb5)
      | (go_at_call 14; (with_reducible refine (HSG.out _ ?_).mono ?_); exact (HK.out.1.of HX5.out.2); rintro e x6 ⟨rfl, hb6⟩; have HX6 : Hid (Blk x6 x3.heap.size (bs P) 23 ∧ Below w.heap.size w x6) := Lib.hid ⟨HX5.out.1.below hb6 HX5.out.1.lt, below_next HX5.out.2 hb6⟩; clear hb6)
      | (go_at_call 20; (with_reducible refine (HSD.out _ ).mono ?_); rintro e x7 ⟨rfl, hb7⟩; have HX7 : Hid (Blk x7 x3.heap.size (bs P) 23 ∧ Below w.heap.size w x7) := Lib.hid ⟨HX6.out.1.below hb7 HX6.out.1.lt, below_next HX6.out.2 hb7⟩; clear hb7)
      | (go_at_call 14; (with_reducible refine (HSG2.out _ ?_).mono ?_); exact (HK.out.1.of HX7.out.2); rintro e x8 ⟨rfl, hb8⟩; have HX8 : Hid (Blk x8 x3.heap.size (bs P) 23 ∧ Below w.heap.size w x8) := Lib.hid ⟨HX7.out.1.below hb8 HX7.out.1.lt, below_next HX7.out.2 hb8⟩; clear hb8)
      | fail)
    go_quiet (fail)
    go_wp2_with (first
      | (refine wpList_load_blk rfl 23 (.tmp 15) rfl x3.heap.size 0 rfl HX8.out.1 _ Tryd.underlying23 rfl 16 Tryd.size44 (by rw [HPB.out]; omega) ?_; rw [List.drop_zero, List.take_of_length_le (by rw [HPB.out]; omega)])
      | (go_at_call 18; (with_reducible refine (HV1.out _ ?_).mono ?_); exact (HK.out.1.of (below_drewN HX8.out.2 _)); rintro e x9 ⟨rfl, hb9⟩; have HX9 : Hid (Blk x9 x3.heap.size (bs P) 23 ∧ Below w.heap.size w x9) := Lib.hid ⟨(HX8.out.1.drewN _).below hb9 HX8.out.1.lt, below_next (below_drewN HX8.out.2 _) hb9⟩; clear hb9)
      | (refine wpList_load_blk rfl 23 (.tmp 15) rfl x3.heap.size 0 rfl HX9.out.1 _ Tryd.underlying23 rfl 16 Tryd.size44 (by rw [HPB.out]; omega) ?_; rw [List.drop_zero, List.take_of_length_le (by rw [HPB.out]; omega)])
      | (go_at_call 19; (with_reducible refine (HV2.out _ ?_).mono ?_); exact (HK.out.2.of HX9.out.2); rintro e x10 ⟨rfl, hb10⟩; have HX10 : Hid (Below w.heap.size w x10) := Lib.hid (below_next HX9.out.2 hb10); clear hb10))
    all_goals (go_ret; exact ⟨rfl, HX10.out⟩)
  · go_enter Tryd.func8, Tryd.ntmps8
    go_wp2_with (first
      | (go_at_call 9; (with_reducible refine (sanity_any _ ?_).mono ?_); exact HK.out.1; rintro e x1 ⟨rfl, hb1⟩; have HX1 := Lib.hid hb1; clear hb1)
      | (go_at_call 20; (with_reducible refine (HSD.out _).mono ?_); rintro e x2 ⟨rfl, hb2⟩; have HX2 : Hid (Below w.heap.size w x2) := Lib.hid (below_next HX1.out hb2); clear hb2)
      | (go_at_call 12; (with_reducible refine (HPU.out _ ?_).mono ?_); exact (HK.out.1.of HX2.out); rintro e x3 ⟨rfl, hb3⟩; have HX3 : Hid (Below w.heap.size w x3) := Lib.hid (below_next HX2.out hb3); clear hb3)
      | (refine wpList_store_blk rfl 23 (.tmp 15) (.tmp 50) rfl x3.heap.size 0 rfl (bs P) rfl (Blk.new' x3 (bs (List.replicate 16 0)) _ 23 rfl) 16 Tryd.size44 HPB.out (by rw [bs_length, List.length_replicate]; omega) (bs_one _) ?_; intro x4 hst4; rw [List.take_zero, List.nil_append, List.drop_of_length_le (by rw [bs_length, List.length_replicate]; omega), List.append_nil] at hst4; have HX4 : Hid (Blk x4 x3.heap.size (bs P) 23 ∧ Below w.heap.size w x4) := Lib.hid ⟨hst4.1, hst4.below (al HX3.out _) HX3.out.size⟩; clear hst4)
      | (go_at_call 20; (with_reducible refine (HSD.out _ ).mono ?_); rintro e x5 ⟨rfl, hb5⟩; have HX5 : Hid (Blk x5 x3.heap.size (bs P) 23 ∧ Below w.heap.size w x5) := Lib.hid ⟨HX4.out.1.below hb5 HX4.out.1.lt, below_next HX4.out.2 hb5⟩; clear hb5)
      | (go_at_call 14; (with_reducible refine (HSG.out _ ?_).mono ?_); exact (HK.out.1.of HX5.out.2); rintro e x6 ⟨rfl, hb6⟩; have HX6 : Hid (Blk x6 x3.heap.size (bs P) 23 ∧ Below w.heap.size w x6) := Lib.hid ⟨HX5.out.1.below hb6 HX5.out.1.lt, below_next HX5.out.2 hb6⟩; clear hb6)
      | (go_at_call 20; (with_reducible refine (HSD.out _ ).mono ?_); rintro e x7 ⟨rfl, hb7⟩; have HX7 : Hid (Blk x7 x3.heap.size (bs P) 23 ∧ Below w.heap.size w x7) := Lib.hid ⟨HX6.out.1.below hb7 HX6.out.1.lt, below_next HX6.out.2 hb7⟩; clear hb7)
      | (go_at_call 14; (with_reducible refine (HSG2.out _ ?_).mono ?_); exact (HK.out.1.of HX7.out.2); rintro e x8 ⟨rfl, hb8⟩; have HX8 : Hid (Blk x8 x3.heap.size (bs P) 23 ∧ Below w.heap.size w x8) := Lib.hid ⟨HX7.out.1.below hb8 HX7.out.1.lt, below_next HX7.out.2 hb8⟩; clear hb8)
      | fail)
    go_quiet (fail)
    go_wp2_with (first
      | (refine wpList_load_blk rfl 23 (.tmp 15) rfl x3.heap.size 0 rfl HX8.out.1 _ Tryd.underlying23 rfl 16 Tryd.size44 (by rw [HPB.out]; omega) ?_; rw [List.drop_zero, List.take_of_length_le (by rw [HPB.out]; omega)])
      | (go_at_call 18; (with_reducible refine (HV1.out _ ?_).mono ?_); exact (HK.out.1.of (below_drewN HX8.out.2 _)); rintro e x9 ⟨rfl, hb9⟩; have HX9 : Hid (Blk x9 x3.heap.size (bs P) 23 ∧ Below w.heap.size w x9) := Lib.hid ⟨(HX8.out.1.drewN _).below hb9 HX8.out.1.lt, below_next (below_drewN HX8.out.2 _) hb9⟩; clear hb9)
      | (refine wpList_load_blk rfl 23 (.tmp 15) rfl x3.heap.size 0 rfl HX9.out.1 _ Tryd.underlying23 rfl 16 Tryd.size44 (by rw [HPB.out]; omega) ?_; rw [List.drop_zero, List.take_of_length_le (by rw [HPB.out]; omega)])
      | (go_at_call 19; (with_reducible refine (HV2.out _ ?_).mono ?_); exact (HK.out.2.of HX9.out.2); rintro e x10 ⟨rfl, hb10⟩; have HX10 : Hid (Below w.heap.size w x10) := Lib.hid (below_next HX9.out.2 hb10); clear hb10))
    all_goals (go_ret; exact ⟨rfl, HX10.out⟩)
theorem shift_lit (h : Nat) (h2 : h ≤ 2) : ∀ W, Sem.run Tryd.prog (Op.shift BinOp.shl IntKind.i64 1 IntKind.i64 (h : Int)) W = .ok (.int .i64 ((2 ^ h : Nat) : Int)) W := by
  have : h = 0 ∨ h = 1 ∨ h = 2 := by omega
  rcases this with rfl | rfl | rfl <;> intro W <;> kernel_rfl
theorem wrapSmall (n : Nat) (h : n < 256) : wrap64 (n : Int) = (n : Int) := by
  exact IntWalk.wrap64_in _ (by omega)
theorem walk (c ht ix ot : UInt8) (m : List UInt8) (w : World) (hK : KH w ∧ KR w) :
    Calls Tryd.prog 8 #[.int .u8 c.toNat, .int .u8 ht.toNat, .int .u8 ix.toNat, .int .u8 ot.toNat, .string (sb m)] w fun e w' => e = .returned (.bool true) ∧ Below w.heap.size w w' := by
  by_cases hm : 200 < m.length
  · exact walk_big c ht ix ot m hm w hK.1
  · have h1 : ht.toNat < 256 := UInt8.toNat_lt ht
    have h3 : ix.toNat < 256 := UInt8.toNat_lt ix
    have h4 : ot.toNat < 256 := UInt8.toNat_lt ot
    have h2 : ht.toNat % 3 ≤ 2 := by omega
    have hpos : 0 < 2 ^ (ht.toNat % 3) := Nat.pow_pos (by omega)
    obtain ⟨h, hh⟩ : ∃ h, h = ht.toNat % 3 := ⟨_, rfl⟩
    rw [← hh] at h2 hpos
    obtain ⟨i, hi⟩ : ∃ i, i = ix.toNat % 2 ^ h := ⟨_, rfl⟩
    obtain ⟨k, hk⟩ : ∃ k, k = ot.toNat % 2 ^ h := ⟨_, rfl⟩
    have hip : i < 2 ^ h := by rw [hi]; exact Nat.mod_lt _ hpos
    have hkp : k < 2 ^ h := by rw [hk]; exact Nat.mod_lt _ hpos
    obtain ⟨M, hM⟩ : ∃ M, M = en (k : Int) ++ (sgn (seedB c) h i m).drop (en (i : Int)).length := ⟨_, rfl⟩
    obtain ⟨r1, r2, hver⟩ : ∃ r1 r2, ver (node (seedB c) h 0) (h : Int) m M = (r1, r2) := ⟨_, _, rfl⟩
    refine walk_aux h i k _ _ _ rfl rfl rfl h2 hip hkp c ht ix ot _ _ _ _ _ _ M m rfl rfl rfl rfl rfl rfl hM (by omega) ?_ _ (shift_lit _ h2) (pow_int h _ rfl (by omega)).1 (by omega) ?_ ?_ r1 r2 hver ((i : Int) != (k : Int)) rfl ?_ w hK.1 hK.2
    · rw [wrapSmall _ h1, hh]; rfl
    · rw [wrapSmall _ h3, hi]; rfl
    · rw [wrapSmall _ h4, hk]; rfl
    · by_cases e : i = k
      · right
        have hMG : M = sgn (seedB c) h i m := by rw [hM, ← e, sgn, List.drop_left]
        rw [hMG, ver_sgn _ m h i (by omega) hip (by omega)] at hver
        exact (Prod.mk.inj hver).2.symm
      · left
        simp
        omega

set_option maxRecDepth 100000 in
theorem contract (H : Type) (enc : TypeId × Value → H) (W : World) (base : Nat) (args : Array Value) (ds gs : List (DataW H)) (before : List MemPlace)
    (hval : ∀ (j : Nat) t v, Tryd.f8.params[j]? = some t → args[j]? = some v → Value.okWide Tryd.prog W .any base t v)
    (hW : DataW.Whole enc Tryd.prog Tryd.f8.params.toList Rows.signBindsTheIndexSpec.vars false W args.toList ds gs before)
    (hsz : (DataW.weightsEach Tryd.prog (Tryd.f8.params.toList ++ Rows.signBindsTheIndexSpec.plain.varTypes Tryd.prog) (ds ++ gs)).all (· ≤ reachBytes) = true) (hK : KH W ∧ KR W) :
    Calls Tryd.prog 8 args W fun e W' => ∃ v, e = .returned v ∧ Rows.signBindsTheIndexSpec.post enc Tryd.prog Tryd.f8 false true false false W args v W' := by
  have hW' := hW
  obtain ⟨p, q, hA0, hV, rfl, hfz, hnd⟩ := hW
  have hA : DataW.TrodAll enc Tryd.prog W 0 (fun _ => true) true Tryd.f8.params.toList args.toList ds p := hA0
  rw [Tryd.params8] at hA hval hsz
  obtain ⟨v0, v1, v2, v3, v4, d0, d1, d2, d3, d4, p0, p1, p2, p3, p4, rfl, rfl, rfl, h0, h1, h2, h3, h4⟩ := trodAll_five hA
  obtain ⟨rfl, rfl⟩ := trodVars_none hV
  obtain ⟨cn, rfl, rfl, rfl, cw⟩ := open_int Tryd.underlying5 (hval 0 5 v0 rfl rfl) h0
  obtain ⟨c, ce⟩ := u8_wf cw
  obtain ⟨htn, rfl, rfl, rfl, htw⟩ := open_int Tryd.underlying5 (hval 1 5 v1 rfl rfl) h1
  obtain ⟨ht, hte⟩ := u8_wf htw
  obtain ⟨ixn, rfl, rfl, rfl, ixw⟩ := open_int Tryd.underlying5 (hval 2 5 v2 rfl rfl) h2
  obtain ⟨ix, ixe⟩ := u8_wf ixw
  obtain ⟨otn, rfl, rfl, rfl, otw⟩ := open_int Tryd.underlying5 (hval 3 5 v3 rfl rfl) h3
  obtain ⟨ot, ote⟩ := u8_wf otw
  obtain ⟨m0, rfl, rfl, rfl, mw⟩ := open_string Tryd.underlying9 (hval 4 9 v4 rfl rfl) h4
  have mq := sized_string hsz (j := 4) (t := 9) rfl rfl
  obtain ⟨m, me⟩ : ∃ l, l = m0.data.toList := ⟨_, rfl⟩
  have mb : m0 = sb m := by rw [me]; rfl
  have mr : m.length ≤ 140737488355328 := by rw [me]; exact Nat.le_trans (m := 140737488351232) (by simpa [reachBytes] using mq) (by omega)

  have hargs : (#[.int .u8 cn, .int .u8 htn, .int .u8 ixn, .int .u8 otn, .string m0] : Array Value) = #[.int .u8 c.toNat, .int .u8 ht.toNat, .int .u8 ix.toNat, .int .u8 ot.toNat, .string (sb m)] := by rw [mb, ce, hte, ixe, ote]
  have hwalk : Calls Tryd.prog 8 #[.int .u8 cn, .int .u8 htn, .int .u8 ixn, .int .u8 otn, .string m0] W fun e W' => e = .returned (.bool true) ∧ Below W.heap.size W W' := by
    rw [hargs]
    exact walk c ht ix ot m W hK
  refine hwalk.mono fun e W' ⟨he, hb⟩ => ⟨_, he, ?_⟩
  exact law_post rfl rfl (by kernel_rfl) hW' rfl hb

set_option maxRecDepth 100000 in
theorem lifted (os : Os) (started : os.Started) (H : Type) (enc : TypeId × Value → H) :
    ReturnsInHanded {} Tryd.checked os 8 .any (fun w args => (Rows.signBindsTheIndexSpec.pre enc Tryd.prog Tryd.f8 [] false w args ∧ laidMetH Tryd.prog laid2 w) ∧ sizedMet enc Tryd.prog Tryd.f8 (OpenSpec.ofChange Rows.signBindsTheIndexSpec) false w args)
      (Rows.signBindsTheIndexSpec.post enc Tryd.prog Tryd.f8 false true false false) := by
  refine returnsInHanded_of_change_and (C := Tryd.checked) (X := fun w _ => laidMetH Tryd.prog laid2 w) (fun _ _ _ hh h => h.of_heap hh) Tryd.own started (by kernel_rfl) Tryd.func8
    (ChangeSpec.witness_shaped (enc := enc) (C := Tryd.checked) (os := os) (X := fun w _ => laidMetH Tryd.prog laid2 w) false (World.doorLaid Tryd.prog 400 os) #[.int .u8 0, .int .u8 0, .int .u8 0, .int .u8 0, .string ByteArray.empty] 8 rfl (World.shaped_of_RefB (by kernel_rfl) (by kernel_rfl)) (by kernel_rfl) (by kernel_rfl) (by kernel_rfl) (door_met2 os _)) ?_
  intro W base args ds gs before hval hW _ hsz hL _
  exact contract H enc W base args ds gs before hval hW hsz (of_laid2 hL)

theorem row : Rows.SignBindsTheIndexSaid :=
  OpenClaim.holds_of_wide 8 Tryd.f8 rfl rfl rfl rfl rfl rfl rfl ⟨rfl, rfl, rfl, rfl, rfl⟩ rfl rfl rfl rfl rfl (by kernel_rfl) Tryd.func8 (by kernel_rfl)
    (of_decide_eq_true (by kernel_rfl)) (by unfold Func.isWrapper; first | (rw [if_pos (by decide +kernel)]; kernel_rfl) | (rw [if_neg (by decide +kernel)]; exact ⟨rfl, rfl⟩))
    (fun os started H enc _ => lifted os started H enc)

theorem proved : Rows.SignBindsTheIndexCardSaid :=
  Claim7.holds_tied_plain_at .later [] [.data, .data] true (true, "53e8dcc94a98ee4e8397ce15025af463fab214ab1c042506e4d652f15817975a") false
    row (fun _ h => by cases h) (by kernel_rfl) (fun _ h => by cases h) signBindsTheIndex_row_tie rfl ⟨rfl, rfl⟩ (by kernel_rfl) rfl
    (fun f fn hf hfn => by
      obtain rfl : f = 8 := Option.some.inj ((show Tryd.prog.funcNamed "wordbook/wordbooklaw03.SignBindsTheIndex" = some 8 by kernel_rfl).symm.trans hf) |>.symm
      obtain rfl : fn = Tryd.f8 := (Option.some.inj (Tryd.func8.symm.trans hfn)).symm
      exact ⟨by kernel_rfl, fun j t ht => by
        rw [Tryd.params8] at ht
        have hm : t ∈ [5, 5, 5, 5, 9] := by simpa using Array.mem_of_getElem? ht
        have hall : ([5, 5, 5, 5, 9].all fun u => !Tryd.prog.wantsStandIn u) = true := by kernel_rfl
        exact (show Tryd.prog.wantsStandIn t = false by simpa using List.all_eq_true.1 hall t hm)⟩)
    (by kernel_rfl)
end SL6
end Go.Proofs.YtbgcnfikcddcpaaDoor
