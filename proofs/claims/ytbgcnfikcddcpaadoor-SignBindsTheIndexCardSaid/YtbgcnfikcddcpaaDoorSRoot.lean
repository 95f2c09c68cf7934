/-
  The walks of sign's rootOver and Digest.
-/
import Derived.Test.YtbgcnfikcddcpaaDoorSTree2
namespace Go.Proofs.YtbgcnfikcddcpaaDoor
open Go.RowKit
set_option linter.unusedVariables false
open Sha Sgn
theorem and_lt : ∀ j : Fin 64, (bits .and .i64 ((j.val : Nat) : Int) 1 == 0) = decide (j.val % 2 = 0) := by decide +kernel
theorem and_one (i k : Nat) (h : i < 64) : (bits .and .i64 ((i : Int) / 2 ^ k) 1 == 0) = decide (i / 2 ^ k % 2 = 0) := by
  have e : (i : Int) / 2 ^ k = ((i / 2 ^ k : Nat) : Int) := by simp
  have : i / 2 ^ k ≤ i := Nat.div_le_self _ _
  rw [e]
  exact and_lt ⟨i / 2 ^ k, by omega⟩
theorem flat_len (l : List (List UInt8)) (h : ∀ d ∈ l, d.length = 16) : (l.flatMap bs).length = 16 * l.length := by
  induction l with
  | nil => rfl
  | cons a r ih =>
    have h1 := h a (by simp)
    have h2 := ih fun d hd => h d (by simp [hd])
    rw [List.flatMap_cons, List.length_append, h2, bs_length, h1, List.length_cons]
    omega
theorem flat_range {l : List (List UInt8)} (h : ∀ d ∈ l, d.length = 16) {w : World} {A : Option Addr} (hr : Rd w A (l.flatMap bs)) (k : Nat) (hk : k < l.length) : ∃ b o, A = some ⟨b, o, none⟩ ∧ w.rangeAt b (o + k * 16) (bs (l.getD k [])) := by
  have hne : l.flatMap bs ≠ [] := by
    intro e
    have := flat_len l h
    rw [e] at this
    simp at this
    omega
  obtain ⟨b, o, rfl, hc⟩ := hr.open hne
  refine ⟨b, o, rfl, fun j v hv => ?_⟩
  rw [Nat.add_assoc]
  apply hc
  have e : l = l.take k ++ l.getD k [] :: l.drop (k + 1) := by
    have : l.getD k [] = l[k] := by simp [List.getD, hk]
    rw [this, ← List.drop_eq_getElem_cons hk, List.take_append_drop]
  have hj : j < (bs (l.getD k [])).length := (List.getElem?_eq_some_iff.1 hv).1
  have hl : ((l.take k).flatMap bs).length = k * 16 := by
    rw [flat_len _ (fun d hd => h d (List.mem_of_mem_take hd)), List.length_take, Nat.min_eq_left (by omega)]
    omega
  conv => lhs; rw [e]
  rw [List.flatMap_append, List.flatMap_cons, List.getElem?_append_right (by omega), hl, Nat.add_sub_cancel_left, List.getElem?_append_left hj]
  exact hv
/-- What the loop of rootOver keeps. -/
def RO (w : World) (n : List UInt8) (wr : World) : Prop := Blk wr w.heap.size (bs n) 23 ∧ Blk wr (w.heap.size + 1) (bs (List.replicate 16 0)) 23 ∧ Below w.heap.size w wr
theorem RO.next {w wr w1 : World} {n : List UInt8} (h : RO w n wr) (hb : Below wr.heap.size wr w1) : RO w n w1 := ⟨h.1.below hb h.1.lt, h.2.1.below hb h.2.1.lt, below_next h.2.2 hb⟩
theorem RO.alloc {w wr : World} {n : List UInt8} (h : RO w n wr) (o : Obj) : RO w n (wr.alloc o) := h.next (below_a1 _ _)
theorem RO.stored {w wr w1 : World} {n m : List UInt8} (h : RO w n wr) (hs : Stored wr w1 w.heap.size (bs m) 23) : RO w m w1 := ⟨hs.1, hs.other h.2.1 (by omega), hs.below h.2.2 (by omega)⟩
set_option maxRecDepth 100000 in
set_option maxHeartbeats 1000000 in
theorem root_aux (n R : List UInt8) (i : Nat) (others : List (List UInt8)) (A : Option Addr) (c : Nat) (hR : R = rootO i 0 n others) (hn : n.length = 16) (hi : i < 64) (ho : ∀ d ∈ others, d.length = 16) (hl : others.length ≤ 6) (w : World) (hr : Rd w A (others.flatMap bs)) (hK : KH w) :
    Calls Tryd.prog 29 #[.agg (bs n).toArray, .int .i64 i, .slice A others.length c] w fun e w' => e = .returned (.agg (bs R).toArray) ∧ Below w.heap.size w w' := by
  have HK := Lib.hid hK; clear hK
  have HO := Lib.hid (And.intro ho hr); clear ho hr
  have HR := Lib.hid hR; clear hR
  have H0 : Hid (RO w n ((w.alloc (.cells (bs n).toArray 23)).alloc (.cells #[.int .u8 0, .int .u8 0, .int .u8 0, .int .u8 0, .int .u8 0, .int .u8 0, .int .u8 0, .int .u8 0, .int .u8 0, .int .u8 0, .int .u8 0, .int .u8 0, .int .u8 0, .int .u8 0, .int .u8 0, .int .u8 0] 23))) := Lib.hid ⟨(Blk.at w _ _ _ _ rfl rfl).alloc _, Blk.at _ (bs (List.replicate 16 0)) _ _ _ rfl (by simp), (below_a1 _ _).alloc (by simp) _⟩
  go_enter Tryd.func29, Tryd.ntmps29
  go_wp2_with fail
  go_loopg [11] others.length (fun g s11 wr => ∃ (k : Nat) (m : List UInt8), k + g = others.length ∧ s11 = .int .i64 k ∧ Hid (m = rootO i 0 n (others.take k)) ∧ m.length = 16 ∧ RO w m wr)
  case atStart => exact ⟨0, n, by omega, rfl, Lib.hid rfl, hn, H0.out⟩
  case round =>
    clear H0
    obtain ⟨k, m, hk, rfl, HM, hm, hRO⟩ := hrel
    by_cases hlt : k < others.length
    · obtain ⟨g, rfl⟩ : ∃ g, gk = g + 1 := ⟨gk - 1, by omega⟩
      obtain ⟨b, o, hA, hrange⟩ := flat_range HO.out.1 (HO.out.2.below hRO.2.2) k hlt
      subst hA
      obtain ⟨d, hd⟩ : ∃ d, d = others.getD k [] := ⟨_, rfl⟩
      have hd16 : d.length = 16 := by rw [hd]; simp only [List.getD, List.getElem?_eq_getElem hlt, Option.getD_some]; exact HO.out.1 _ (List.getElem_mem hlt)
      rw [← hd] at hrange
      have HBL : Hid ((bs m).length = 16 ∧ (bs d).length = 16) := Lib.hid ⟨by rw [bs_length]; exact hm, by rw [bs_length]; exact hd16⟩
      have HB := Lib.hid (And.intro hm hd16); clear hm hd16
      have HRG := Lib.hid hrange; clear hrange
      by_cases hev : i / 2 ^ k % 2 = 0
      · have htest : (bits .and .i64 ((i : Int) / 2 ^ k) 1 == 0) = true := by rw [and_one i k hi]; exact decide_eq_true hev
        have HN : Hid (par m d = rootO i 0 n (others.take (k + 1))) := Lib.hid (by
          rw [List.take_succ_eq_append_getElem hlt, rootO_snoc, List.length_take, Nat.min_eq_left (by omega), Nat.zero_add, if_pos hev, ← HM.out, hd]
          simp [List.getD, hlt])
        have HPA : Hid (∀ W, KH W → Calls Tryd.prog 50 #[.agg (bs m).toArray, .agg (bs d).toArray] W fun e w' => e = .returned (.agg (bs (par m d)).toArray) ∧ Below W.heap.size W w') := Lib.hid fun W hk => parent_any m d HB.out.1 HB.out.2 W hk
        have HPL : Hid ((bs (par m d)).length = 16 ∧ (par m d).length = 16) := Lib.hid ⟨by rw [bs_length, par_length], par_length _ _⟩
        generalize par m d = P at HN HPA HPL
        have HRO := Lib.hid hRO; clear hRO hd hev
        go_wp2_with (first
          | (refine wpList_load_mid rfl 23 (.tmp 14) rfl b (o + k * 16) rfl (bs d) _ HRG.out Tryd.underlying23 rfl (by rw [HBL.out.2]; exact Tryd.size44) ?_)
          | (refine wpList_store_blk rfl 23 (.tmp 8) (.tmp 15) rfl wr.heap.size 0 rfl (bs d) rfl (Blk.new' wr (bs (List.replicate 16 0)) _ 23 rfl) 16 Tryd.size44 HBL.out.2 (by rw [bs_length, List.length_replicate]; omega) (bs_one _) ?_; intro x1 hst1; rw [List.take_zero, List.nil_append, List.drop_of_length_le (by rw [bs_length, List.length_replicate]; omega), List.append_nil] at hst1; have HX1 : Hid (Blk x1 wr.heap.size (bs d) 23 ∧ RO w m x1) := Lib.hid ⟨hst1.1, hst1.other (HRO.out.1.alloc _) (by have := HRO.out.1.lt; omega), hst1.other (HRO.out.2.1.alloc _) (by have := HRO.out.2.1.lt; omega), hst1.below (al HRO.out.2.2 _) HRO.out.2.2.size⟩; clear hst1)
          | (refine wpList_load_blk rfl 23 (.tmp 3) rfl w.heap.size 0 rfl HX1.out.2.1 _ Tryd.underlying23 rfl 16 Tryd.size44 (by rw [HBL.out.1]; omega) ?_; rw [List.drop_zero, List.take_of_length_le (by rw [HBL.out.1]; omega)])
          | (refine wpList_load_blk rfl 23 (.tmp 8) rfl wr.heap.size 0 rfl HX1.out.1 _ Tryd.underlying23 rfl 16 Tryd.size44 (by rw [HBL.out.2]; omega) ?_; rw [List.drop_zero, List.take_of_length_le (by rw [HBL.out.2]; omega)])
          | (refine (HPA.out _ (HK.out.of HX1.out.2.2.2)).mono ?_; rintro e x2 ⟨rfl, hb2⟩; have HX2 : Hid (RO w m x2) := Lib.hid (HX1.out.2.next hb2); clear hb2)
          | (refine wpList_store_blk rfl 23 (.tmp 3) (.tmp 23) rfl w.heap.size 0 rfl (bs P) rfl HX2.out.1 16 Tryd.size44 HPL.out.1 (by rw [HBL.out.1]; omega) (bs_one _) ?_; intro x3 hst3; rw [List.take_zero, List.nil_append, List.drop_of_length_le (by rw [HBL.out.1]; omega), List.append_nil] at hst3; have HX3 : Hid (RO w P x3) := Lib.hid (HX2.out.stored hst3); clear hst3))
        go_roundg g
        case rel => exact ⟨k + 1, P, by omega, by go_num, HN, HPL.out.2, HX3.out⟩
        case measure => omega
      · have htest : (bits .and .i64 ((i : Int) / 2 ^ k) 1 == 0) = false := by rw [and_one i k hi]; exact decide_eq_false hev
        have HN : Hid (par d m = rootO i 0 n (others.take (k + 1))) := Lib.hid (by
          rw [List.take_succ_eq_append_getElem hlt, rootO_snoc, List.length_take, Nat.min_eq_left (by omega), Nat.zero_add, if_neg hev, ← HM.out, hd]
          simp [List.getD, hlt])
        have HPA : Hid (∀ W, KH W → Calls Tryd.prog 50 #[.agg (bs d).toArray, .agg (bs m).toArray] W fun e w' => e = .returned (.agg (bs (par d m)).toArray) ∧ Below W.heap.size W w') := Lib.hid fun W hk => parent_any d m HB.out.2 HB.out.1 W hk
        have HPL : Hid ((bs (par d m)).length = 16 ∧ (par d m).length = 16) := Lib.hid ⟨by rw [bs_length, par_length], par_length _ _⟩
        generalize par d m = P at HN HPA HPL
        have HRO := Lib.hid hRO; clear hRO hd hev
        go_wp2_with (first
          | (refine wpList_load_mid rfl 23 (.tmp 14) rfl b (o + k * 16) rfl (bs d) _ HRG.out Tryd.underlying23 rfl (by rw [HBL.out.2]; exact Tryd.size44) ?_)
          | (refine wpList_store_blk rfl 23 (.tmp 8) (.tmp 15) rfl wr.heap.size 0 rfl (bs d) rfl (Blk.new' wr (bs (List.replicate 16 0)) _ 23 rfl) 16 Tryd.size44 HBL.out.2 (by rw [bs_length, List.length_replicate]; omega) (bs_one _) ?_; intro x1 hst1; rw [List.take_zero, List.nil_append, List.drop_of_length_le (by rw [bs_length, List.length_replicate]; omega), List.append_nil] at hst1; have HX1 : Hid (Blk x1 wr.heap.size (bs d) 23 ∧ RO w m x1) := Lib.hid ⟨hst1.1, hst1.other (HRO.out.1.alloc _) (by have := HRO.out.1.lt; omega), hst1.other (HRO.out.2.1.alloc _) (by have := HRO.out.2.1.lt; omega), hst1.below (al HRO.out.2.2 _) HRO.out.2.2.size⟩; clear hst1)
          | (refine wpList_load_blk rfl 23 (.tmp 3) rfl w.heap.size 0 rfl HX1.out.2.1 _ Tryd.underlying23 rfl 16 Tryd.size44 (by rw [HBL.out.1]; omega) ?_; rw [List.drop_zero, List.take_of_length_le (by rw [HBL.out.1]; omega)])
          | (refine wpList_load_blk rfl 23 (.tmp 8) rfl wr.heap.size 0 rfl HX1.out.1 _ Tryd.underlying23 rfl 16 Tryd.size44 (by rw [HBL.out.2]; omega) ?_; rw [List.drop_zero, List.take_of_length_le (by rw [HBL.out.2]; omega)])
          | (refine (HPA.out _ (HK.out.of HX1.out.2.2.2)).mono ?_; rintro e x2 ⟨rfl, hb2⟩; have HX2 : Hid (RO w m x2) := Lib.hid (HX1.out.2.next hb2); clear hb2)
          | (refine wpList_store_blk rfl 23 (.tmp 3) (.tmp 26) rfl w.heap.size 0 rfl (bs P) rfl HX2.out.1 16 Tryd.size44 HPL.out.1 (by rw [HBL.out.1]; omega) (bs_one _) ?_; intro x3 hst3; rw [List.take_zero, List.nil_append, List.drop_of_length_le (by rw [HBL.out.1]; omega), List.append_nil] at hst3; have HX3 : Hid (RO w P x3) := Lib.hid (HX2.out.stored hst3); clear hst3))
        go_roundg g
        case rel => exact ⟨k + 1, P, by omega, by go_num, HN, HPL.out.2, HX3.out⟩
        case measure => omega
    · obtain rfl : k = others.length := by omega
      have hmR : m = R := by rw [HM.out, List.take_length, ← HR.out]
      subst hmR
      have HBL : Hid ((bs m).length = 16) := Lib.hid (by rw [bs_length]; exact hm)
      have HRO := Lib.hid hRO; clear hRO hm HM
      go_wp2_with (first
        | (refine wpList_load_blk rfl 23 (.tmp 3) rfl w.heap.size 0 rfl HRO.out.1 _ Tryd.underlying23 rfl 16 Tryd.size44 (by rw [HBL.out]; omega) ?_; rw [List.drop_zero, List.take_of_length_le (by rw [HBL.out]; omega)])
        | (refine wpList_store_blk rfl 23 (.tmp 6) (.tmp 28) rfl (w.heap.size + 1) 0 rfl (bs m) rfl HRO.out.2.1 16 Tryd.size44 HBL.out (by rw [bs_length, List.length_replicate]; omega) (bs_one _) ?_; intro x3 hst3; rw [List.take_zero, List.nil_append, List.drop_of_length_le (by rw [bs_length, List.length_replicate]; omega), List.append_nil] at hst3; have HX3 := Lib.hid hst3; clear hst3))
      refine ret_blk rfl _ rfl HX3.out.1 _ Tryd.underlying23 rfl (by rw [HBL.out]; exact Tryd.size44) rfl ⟨rfl, HX3.out.below HRO.out.2.2 (by omega)⟩
theorem root_any (n : List UInt8) (i : Nat) (I : Int) (hI : I = (i : Int)) (others : List (List UInt8)) (A : Option Addr) (h c : Nat) (hh : h = others.length) (hn : n.length = 16) (hi : i < 64) (ho : ∀ d ∈ others, d.length = 16) (hl : others.length ≤ 6) (w : World) (hr : Rd w A (others.flatMap bs)) (hK : KH w) :
    Calls Tryd.prog 29 #[.agg (bs n).toArray, .int .i64 I, .slice A h c] w fun e w' => e = .returned (.agg (bs (rootO i 0 n others)).toArray) ∧ Below w.heap.size w w' := by
  subst hI hh
  exact root_aux n _ i others A c rfl hn hi ho hl w hr hK

theorem int_at (n : Int) (E : List UInt8) (hE : E = en n) (hi : inI n) (W : World) :
    Calls Tryd.prog 32 #[.int .i64 n] W fun e w' => ∃ A c, e = .returned (.slice A E.length c) ∧ (convert 58 9 (.slice A E.length c)).run Tryd.prog w' = .ok (.string (sb E)) w' ∧ Below W.heap.size W w' := by
  subst hE
  exact (int_any n hi W).mono fun e w' ⟨v, he, hown, hb⟩ => by
    obtain ⟨A, c, rfl, hrd, _, _⟩ := Rd.of_own hown
    exact ⟨A, c, he, conv_sb c rfl hrd, hb⟩
set_option maxRecDepth 100000 in
set_option maxHeartbeats 2000000 in
theorem dgst_aux (p D m : List UInt8) (n : Int) (hD : D = dgst p n m) (hp : p.length = 16) (hn : inI n) (hm : m.length ≤ 1048576) (w : World) (hK : KH w) :
    Calls Tryd.prog 16 #[.agg (bs p).toArray, .int .i64 n, .string (sb m)] w fun e w' => e = .returned (.agg (bs D).toArray) ∧ Below w.heap.size w w' := by
  have hDl : (bs D).length = 16 := by rw [bs_length, hD, dgst_length]
  obtain ⟨E, hE⟩ : ∃ E, E = en n := ⟨_, rfl⟩
  have hE9 : E.length ≤ 9 := by rw [hE]; exact en_len9 n
  have HIN : Hid (∀ W, Calls Tryd.prog 32 #[.int .i64 n] W fun e w' => ∃ A c, e = .returned (.slice A E.length c) ∧ (convert 58 9 (.slice A E.length c)).run Tryd.prog w' = .ok (.string (sb E)) w' ∧ Below W.heap.size W w') := Lib.hid fun W => int_at n E hE hn W
  have HOF : Hid (∀ (g : Nat) (W : World), Rd W (some ⟨g, 0, none⟩) [.string (sb p), .string (sb E), .string (sb m)] → KH W → Calls Tryd.prog 40 #[.int .i64 3, .slice (some ⟨g, 0, none⟩) 3 3] W fun e w' => e = .returned (.agg (bs D).toArray) ∧ Below W.heap.size W w') :=
    Lib.hid fun g W h hk => of_at 3 [p, E, m] D (by rw [hD, dgst, hE]) g 3 rfl (by intro q hq; simp at hq; rcases hq with rfl | rfl | rfl <;> omega) (by simp) W h hk
  have HK := Lib.hid hK; clear hK
  have HDL := Lib.hid hDl; clear hD hDl hE hE9 hn
  have HA : Hid (Blk ((w.alloc (.cells (bs p).toArray 23)).alloc (.cells #[.int .u8 0, .int .u8 0, .int .u8 0, .int .u8 0, .int .u8 0, .int .u8 0, .int .u8 0, .int .u8 0, .int .u8 0, .int .u8 0, .int .u8 0, .int .u8 0, .int .u8 0, .int .u8 0, .int .u8 0, .int .u8 0] 23)) w.heap.size (bs p) 23 ∧
      Blk ((w.alloc (.cells (bs p).toArray 23)).alloc (.cells #[.int .u8 0, .int .u8 0, .int .u8 0, .int .u8 0, .int .u8 0, .int .u8 0, .int .u8 0, .int .u8 0, .int .u8 0, .int .u8 0, .int .u8 0, .int .u8 0, .int .u8 0, .int .u8 0, .int .u8 0, .int .u8 0] 23)) (w.heap.size + 1) (bs (List.replicate 16 0)) 23 ∧
      Below w.heap.size w ((w.alloc (.cells (bs p).toArray 23)).alloc (.cells #[.int .u8 0, .int .u8 0, .int .u8 0, .int .u8 0, .int .u8 0, .int .u8 0, .int .u8 0, .int .u8 0, .int .u8 0, .int .u8 0, .int .u8 0, .int .u8 0, .int .u8 0, .int .u8 0, .int .u8 0, .int .u8 0] 23))) :=
    Lib.hid ⟨(Blk.at w _ _ _ _ rfl rfl).alloc _, Blk.at _ _ _ _ _ rfl (by simp), (below_a1 _ _).alloc (by simp) _⟩
  go_enter Tryd.func16, Tryd.ntmps16
  go_wp2_with fail
  generalize (w.alloc (.cells (bs p).toArray 23)).alloc (.cells #[.int .u8 0, .int .u8 0, .int .u8 0, .int .u8 0, .int .u8 0, .int .u8 0, .int .u8 0, .int .u8 0, .int .u8 0, .int .u8 0, .int .u8 0, .int .u8 0, .int .u8 0, .int .u8 0, .int .u8 0, .int .u8 0] 23) = W0 at HA ⊢
  have hcA := conv_blk (W := W0.drew) (B := w.heap.size) (n := 16) 16 HA.out.1.drew hp.symm
  have HP := Lib.hid hp; clear hp
  have hsl := sl44
  go_region_with (first
    | (go_at_call 32; refine (HIN.out _).mono ?_; rintro e x1 ⟨A1, c1, rfl, hcv1, hb1⟩; have HX1 : Hid (Blk x1 w.heap.size (bs p) 23 ∧ Blk x1 (w.heap.size + 1) (bs (List.replicate 16 0)) 23 ∧ Below w.heap.size w x1) := Lib.hid ⟨HA.out.1.drew.below hb1 HA.out.1.drew.lt, HA.out.2.1.drew.below hb1 HA.out.2.1.drew.lt, below_next HA.out.2.2.drew hb1⟩; have hcB := conv_blk (n := 16) 16 HX1.out.1 HP.out.symm; clear hb1)
    | (go_at_call 40; (with_reducible refine (HOF.out _ _ ?_ ?_).mono ?_); exact Rd.of_blk (Blk.at x1 [.string (sb p), .string (sb E), .string (sb m)] _ _ _ rfl rfl); exact HK.out.of (al HX1.out.2.2 _); rintro e x2 ⟨rfl, hb2⟩; obtain ⟨x3, hst3, hs3⟩ := blk_store_all (P := Tryd.prog) ((HX1.out.2.1.alloc _).below hb2 (HX1.out.2.1.alloc _).lt) (bs D) (by rw [HDL.out, bs_length, List.length_replicate]) (bs_one _); have HF : Hid (Blk x3 (w.heap.size + 1) (bs D) 23 ∧ Below w.heap.size w x3) := Lib.hid ⟨hs3.1, hs3.below (below_next (al HX1.out.2.2 _) hb2) (by omega)⟩; clear hs3 hb2))
  all_goals (go_wp2_with fail; exact ret_blk rfl _ rfl HF.out.1 _ Tryd.underlying23 rfl (by rw [HDL.out]; exact Tryd.size44) rfl ⟨rfl, HF.out.2⟩)
theorem dgst_any (p m : List UInt8) (n : Int) (hp : p.length = 16) (hn : inI n) (hm : m.length ≤ 1048576) (w : World) (hK : KH w) :
    Calls Tryd.prog 16 #[.agg (bs p).toArray, .int .i64 n, .string (sb m)] w fun e w' => e = .returned (.agg (bs (dgst p n m)).toArray) ∧ Below w.heap.size w w' := dgst_aux p _ m n rfl hp hn hm w hK
end Go.Proofs.YtbgcnfikcddcpaaDoor
