/-
  The walk of sign's leaf.
-/
import Derived.Test.YtbgcnfikcddcpaaDoorSChain
namespace Go.Proofs.YtbgcnfikcddcpaaDoor
open Go.RowKit
set_option linter.unusedVariables false
open Sha Sgn
theorem ix52 (vs : List (List UInt8)) (hv : vs.length = 68) (k : Nat) (hk : k < 68) (w : World) : (Instr.index 52 (.agg (ss vs).toArray) (.int .i64 (k : Int))).run Tryd.prog w = .ok (.string (sb (vs.getD k []))) w :=
  index_val Tryd.underlying52 Tryd.size9 (fun w => by kernel_rfl) _ .i64 k hk _ (by have := ss_get vs k (by omega); simpa using this) w
/-- What leaf keeps: its builder, the heights, its result. -/
def LF (w : World) (hs : List Nat) (L : List UInt8) (wr : World) : Prop := Bld wr (w.heap.size + 3) L ∧ Blk wr (w.heap.size + 1) (is hs) 43 ∧ Blk wr (w.heap.size + 2) (bs (List.replicate 16 0)) 23 ∧ Below w.heap.size w wr
section
variable {w wr w1 : World} {hs : List Nat} {L s : List UInt8}
theorem LF.next (h : LF w hs L wr) (hb : Below wr.heap.size wr w1) : LF w hs L w1 := ⟨h.1.keep hb, h.2.1.below hb h.2.1.lt, h.2.2.1.below hb h.2.2.1.lt, below_next h.2.2.2 hb⟩
theorem LF.wrote (h : LF w hs L wr) (hu : BldU w1 (w.heap.size + 3) (L ++ s)) (hb : Below (w.heap.size + 3) wr w1) : LF w hs (L ++ s) w1 :=
  ⟨hu.bld, h.2.1.below hb (by omega), h.2.2.1.below hb (by omega), h.2.2.2.trans (hb.mono (by omega))⟩
theorem LF.read (h : LF w hs L wr) (hb : Below (w.heap.size + 3) wr w1) : Blk w1 (w.heap.size + 2) (bs (List.replicate 16 0)) 23 ∧ Below w.heap.size w w1 :=
  ⟨h.2.2.1.below hb (by omega), h.2.2.2.trans (hb.mono (by omega))⟩
end
set_option maxRecDepth 100000 in
set_option maxHeartbeats 1000000 in
theorem leaf_aux (i : Int) (hi : inI i) (vs : List (List UInt8)) (hs : List Nat) (T K D : List UInt8) (hT : T = topsN i vs hs 68) (hK9 : K = dig 9 [T]) (hD : D = dig 1 [K]) (hvl : vs.length = 68) (hhl : hs.length = 68) (hv : ∀ c, c < 68 → (vs.getD c []).length = 16) (hh : ∀ c, c < 68 → hs.getD c 0 ≤ 3) (w : World) (hK : KH w) :
    Calls Tryd.prog 30 #[.int .i64 i, .agg (ss vs).toArray, .agg (is hs).toArray] w fun e w' => e = .returned (.agg (bs D).toArray) ∧ Below w.heap.size w w' := by
  have hTl : T.length = 1088 := by rw [hT, topsN_length i vs hs (fun c h => hv c (by omega)) 68 (by omega)]
  have hTn : T ≠ [] := by rintro rfl; simp at hTl
  have hKl : K.length = 16 := by rw [hK9, dig_length]
  have hDl : D.length = 16 := by rw [hD, dig_length]
  have HK := Lib.hid hK; clear hK
  have HI := Lib.hid hi; clear hi
  have HV := Lib.hid (And.intro hvl (And.intro hhl (And.intro hv hh))); clear hvl hhl hv hh
  have HOF9 : Hid (∀ (b : Nat) (W : World), Rd W (some ⟨b, 0, none⟩) [.string (sb T)] → KH W → Calls Tryd.prog 40 #[.int .i64 9, .slice (some ⟨b, 0, none⟩) 1 1] W fun e w' => e = .returned (.agg (bs K).toArray) ∧ Below W.heap.size W w') :=
    Lib.hid fun b W h hk => of_at 9 [T] K hK9 b 1 rfl (by intro p hp; simp at hp; rcases hp with rfl; omega) (by simp) W h hk
  have HOF1 : Hid (∀ (b : Nat) (W : World), Rd W (some ⟨b, 0, none⟩) [.string (sb K)] → KH W → Calls Tryd.prog 40 #[.int .i64 1, .slice (some ⟨b, 0, none⟩) 1 1] W fun e w' => e = .returned (.agg (bs D).toArray) ∧ Below W.heap.size W w') :=
    Lib.hid fun b W h hk => of_at 1 [K] D hD b 1 rfl (by intro p hp; simp at hp; rcases hp with rfl; omega) (by simp) W h hk
  have hDbl : (bs D).length = 16 := by rw [bs_length]; exact hDl
  have hKbl : (bs K).length = 16 := by rw [bs_length]; exact hKl
  have HL := Lib.hid (And.intro hT (And.intro hTn (And.intro hKl (And.intro hDbl hKbl)))); clear hT hTl hTn hKl hDl hK9 hD hDbl hKbl
  have H0 : Hid (LF w hs [] ((((w.alloc (.cells (ss vs).toArray 52)).alloc (.cells (is hs).toArray 43)).alloc (.cells (bs (List.replicate 16 0)).toArray 23)).alloc (.cells #[.pointer none, .slice none 0 0] 60))) := Lib.hid
    ⟨by have := Bld.new (((w.alloc (.cells (ss vs).toArray 52)).alloc (.cells (is hs).toArray 43)).alloc (.cells (bs (List.replicate 16 0)).toArray 23)); simpa using this,
     ((Blk.at _ _ _ _ _ rfl (by simp)).alloc _).alloc _, (Blk.at _ _ _ _ _ rfl (by simp)).alloc _, (((below_a1 _ _).alloc (by simp) _).alloc (by simp; omega) _).alloc (by simp; omega) _⟩
  have HB0 : Hid (Blk ((((w.alloc (.cells (ss vs).toArray 52)).alloc (.cells (is hs).toArray 43)).alloc (.cells (bs (List.replicate 16 0)).toArray 23)).alloc (.cells #[.pointer none, .slice none 0 0] 60)) w.heap.size (ss vs) 52) := Lib.hid ((((Blk.at w _ _ _ _ rfl rfl).alloc _).alloc _).alloc _)
  go_enter Tryd.func30, Tryd.ntmps30
  go_wp2_with (refine wpList_load_blk rfl 52 (.tmp 4) rfl w.heap.size 0 rfl HB0.out _ Tryd.underlying52 rfl 68 Tryd.size52 (by rw [ss_length, HV.out.1]; omega) ?_; rw [List.drop_zero, List.take_of_length_le (by rw [ss_length, HV.out.1]; omega)])
  go_loopg [12] 68 (fun g s12 wr => ∃ k : Nat, k + g = 68 ∧ s12 = .int .i64 k ∧ LF w hs (topsN i vs hs k) wr)
  case atStart => exact ⟨0, rfl, rfl, H0.out⟩
  case round =>
    clear H0 HB0
    obtain ⟨k, hk, rfl, hA⟩ := hrel
    obtain ⟨L, hL⟩ : ∃ L, L = topsN i vs hs k := ⟨_, rfl⟩
    rw [← hL] at hA
    by_cases hlt : k < 68
    · obtain ⟨g, rfl⟩ : ∃ g, gk = g + 1 := ⟨gk - 1, by omega⟩
      obtain ⟨v, hve⟩ : ∃ v, v = vs.getD k [] := ⟨_, rfl⟩
      obtain ⟨f, hf⟩ : ∃ f, f = hs.getD k 0 := ⟨_, rfl⟩
      obtain ⟨X, hX⟩ : ∃ X, X = adv i k f (3 - f) v := ⟨_, rfl⟩
      have hv16 : v.length = 16 := by rw [hve]; exact HV.out.2.2.1 k hlt
      have hf3 : f ≤ 3 := by rw [hf]; exact HV.out.2.2.2 k hlt
      have hX16 : X.length = 16 := by rw [hX]; exact adv_length _ _ _ _ _ hv16
      have hLl : L.length = 16 * k := by rw [hL]; exact topsN_length i vs hs (fun c h => HV.out.2.2.1 c (by rw [← HV.out.1]; exact h)) k (by rw [HV.out.1]; omega)
      have hnext : L ++ X = topsN i vs hs (k + 1) := by rw [topsN_succ, ← hL, hX, hf, hve]
      have hix := fun W => ix52 vs HV.out.1 k hlt W
      rw [← hve] at hix
      have hcell := hA.2.1.cell (is_get hs k (by rw [HV.out.2.1]; exact hlt))
      rw [← hf] at hcell
      have HAD : Hid (∀ W, KH W → Calls Tryd.prog 34 #[.int .i64 i, .int .i64 (k : Int), .string (sb v), .int .i64 (f : Int), .int .i64 3] W fun e w' => e = .returned (.string (sb X)) ∧ Below W.heap.size W w') := Lib.hid fun W hk => by
        rw [hX]
        exact advance_any i HI.out k f (3 - f) k f 3 rfl rfl (by omega) v (by omega) (by omega) (by omega) W hk
      have HN := Lib.hid (And.intro hnext (And.intro hX16 hLl)); clear hnext hX16 hLl
      have HA := Lib.hid hA
      clear hve hf hX hL hA hv16
      go_wp2_with (first
        | (refine (HAD.out _ (HK.out.of HA.out.2.2.2)).mono ?_; rintro e x1 ⟨rfl, hb1⟩; have HX1 : Hid (LF w hs L x1) := Lib.hid (HA.out.next hb1); clear hb1)
        | (refine (bld_str (w.heap.size + 3) L X _ HX1.out.1 (by rw [HN.out.2.1, HN.out.2.2]; omega)).mono ?_; rintro e x2 ⟨rfl, hu2, hb2⟩; have HX2 : Hid (LF w hs (L ++ X) x2) := Lib.hid (HX1.out.wrote hu2 hb2); clear hu2 hb2))
      go_roundg g
      case rel => exact ⟨k + 1, by omega, by go_num, by rw [← HN.out.1]; exact HX2.out⟩
      case measure => omega
    · obtain rfl : k = 68 := by omega
      have hLT : L = T := by rw [hL, HL.out.1]
      subst hLT
      have HA := Lib.hid hA
      clear hL hA
      have hsl := sl44
      go_wp2_with (first
        | (refine (bld_string (w.heap.size + 3) L _ HA.out.1 HL.out.2.1).mono ?_; rintro e x1 ⟨rfl, hb1⟩; have HX1 : Hid (Blk x1 (w.heap.size + 2) (bs (List.replicate 16 0)) 23 ∧ Below w.heap.size w x1) := Lib.hid (HA.out.read hb1); clear hb1)
        | ((with_reducible refine (HOF9.out _ _ ?_ ?_).mono ?_); exact Rd.of_blk (Blk.at x1 [.string (sb L)] _ _ _ rfl rfl); exact HK.out.of (al HX1.out.2 _); rintro e x2 ⟨rfl, hb2⟩; have HX2 : Hid (Blk x2 (w.heap.size + 2) (bs (List.replicate 16 0)) 23 ∧ Below w.heap.size w x2) := Lib.hid ⟨(HX1.out.1.alloc _).below hb2 (HX1.out.1.alloc _).lt, below_next (al HX1.out.2 _) hb2⟩; clear hb2)
        | (refine wpList_store_blk rfl 23 (.tmp 10) (.tmp 27) rfl x2.heap.size 0 rfl (bs K) rfl (Blk.new' x2 (bs (List.replicate 16 0)) _ 23 rfl) 16 Tryd.size44 HL.out.2.2.2.2 (by rw [bs_length, List.length_replicate]; omega) (bs_one _) ?_; intro x3 hst3; rw [List.take_zero, List.nil_append, List.drop_of_length_le (by rw [bs_length, List.length_replicate]; omega), List.append_nil] at hst3; have HX3 : Hid (Blk x3 (w.heap.size + 2) (bs (List.replicate 16 0)) 23 ∧ Below w.heap.size w x3) := Lib.hid ⟨hst3.other (HX2.out.1.alloc _) (by have := HX2.out.1.lt; omega), hst3.below (al HX2.out.2 _) HX2.out.2.size⟩; have hcv3 := conv_blk (n := 16) 16 hst3.1 HL.out.2.2.1.symm; clear hst3)
        | ((with_reducible refine (HOF1.out _ _ ?_ ?_).mono ?_); exact Rd.of_blk (Blk.at x3 [.string (sb K)] _ _ _ rfl rfl); exact HK.out.of (al HX3.out.2 _); rintro e x4 ⟨rfl, hb4⟩; have HX4 : Hid (Blk x4 (w.heap.size + 2) (bs (List.replicate 16 0)) 23 ∧ Below w.heap.size w x4) := Lib.hid ⟨(HX3.out.1.alloc _).below hb4 (HX3.out.1.alloc _).lt, below_next (al HX3.out.2 _) hb4⟩; clear hb4 hcv3)
        | (refine wpList_store_blk rfl 23 (.tmp 6) (.tmp 31) rfl (w.heap.size + 2) 0 rfl (bs D) rfl HX4.out.1 16 Tryd.size44 HL.out.2.2.2.1 (by rw [bs_length, List.length_replicate]; omega) (bs_one _) ?_; intro x5 hst5; rw [List.take_zero, List.nil_append, List.drop_of_length_le (by rw [bs_length, List.length_replicate]; omega), List.append_nil] at hst5; have HX5 := Lib.hid hst5; clear hst5))
      refine ret_blk rfl _ rfl HX5.out.1 _ Tryd.underlying23 rfl (by rw [HL.out.2.2.2.1]; exact Tryd.size44) rfl ⟨rfl, HX5.out.below HX4.out.2 (by omega)⟩
theorem leaf_any (i : Int) (hi : inI i) (vs : List (List UInt8)) (hs : List Nat) (hvl : vs.length = 68) (hhl : hs.length = 68) (hv : ∀ c, c < 68 → (vs.getD c []).length = 16) (hh : ∀ c, c < 68 → hs.getD c 0 ≤ 3) (w : World) (hK : KH w) :
    Calls Tryd.prog 30 #[.int .i64 i, .agg (ss vs).toArray, .agg (is hs).toArray] w fun e w' => e = .returned (.agg (bs (leafN i vs hs)).toArray) ∧ Below w.heap.size w w' :=
  leaf_aux i hi vs hs _ _ _ rfl rfl rfl hvl hhl hv hh w hK
end Go.Proofs.YtbgcnfikcddcpaaDoor
