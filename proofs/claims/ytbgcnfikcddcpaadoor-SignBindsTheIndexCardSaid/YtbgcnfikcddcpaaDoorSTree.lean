/-
  The walks of sign's nodes (a closure that calls itself), besides, rootOver, Digest.
-/
import Derived.Test.YtbgcnfikcddcpaaDoorSLeaf
import Derived.Deep.RegionWith
import Derived.IntWalk
namespace Go.Proofs.YtbgcnfikcddcpaaDoor
open Go.RowKit
set_option linter.unusedVariables false
open Sha Sgn
/-- The closure of nodes: what it has captured lies in the blocks a (the seed) and b (itself). -/
def FV (a b : Nat) : Value := .func (.func 49) #[] #[.pointer (some ⟨a, 0, none⟩), .pointer (some ⟨b, 0, none⟩)]
def ND (W : World) (s : List UInt8) (a b : Nat) : Prop := Blk W a [.string (sb s)] 9 ∧ Blk W b [FV a b] 46
theorem ND.next {W W' : World} {s : List UInt8} {a b : Nat} (h : ND W s a b) (hb : Below W.heap.size W W') : ND W' s a b := ⟨h.1.below hb h.1.lt, h.2.below hb h.2.lt⟩
theorem ND.alloc {W : World} {s : List UInt8} {a b : Nat} (h : ND W s a b) (o : Obj) : ND (W.alloc o) s a b := h.next (below_a1 _ _)
theorem ND.cells {W : World} {s : List UInt8} {a b : Nat} (h : ND W s a b) : W.cell? ⟨a, 0, none⟩ = some (.string (sb s)) ∧ W.cell? ⟨b, 0, none⟩ = some (FV a b) := ⟨h.1.cell rfl, h.2.cell rfl⟩
theorem enter49 (args : Array Value) (W : World) : (callFunc 49 args).run Tryd.prog W = .ok (.enter 49 args) W := by kernel_rfl

set_option maxRecDepth 100000 in
set_option maxHeartbeats 1000000 in
theorem node_zero (s D : List UInt8) (hs : s.length ≤ 1000000) (a b i : Nat) (I : Int) (hI : I = (i : Int)) (hi : inI I) (hD : D = node s 0 i) (W : World) (hN : ND W s a b) (hK : KH W) :
    Calls Tryd.prog 49 #[.int .i64 0, .int .i64 I, .pointer (some ⟨a, 0, none⟩), .pointer (some ⟨b, 0, none⟩)] W fun e w' => e = .returned (.agg (bs D).toArray) ∧ Below W.heap.size W w' := by
  have hDl : (bs D).length = 16 := by rw [bs_length, hD, node_length]
  obtain ⟨V, hV⟩ : ∃ V, V = bots s I := ⟨_, rfl⟩
  have HBT : Hid (∀ w, KH w → Calls Tryd.prog 27 #[.string (sb s), .int .i64 I] w fun e w' => e = .returned (.agg (ss V).toArray) ∧ Below w.heap.size w w') := Lib.hid fun w hk => by rw [hV]; exact bottom_any s I hi hs w hk
  have HLF : Hid (∀ w, KH w → Calls Tryd.prog 30 #[.int .i64 I, .agg (ss V).toArray, .agg (is (List.replicate 68 0)).toArray] w fun e w' => e = .returned (.agg (bs D).toArray) ∧ Below w.heap.size w w') := Lib.hid fun w hk => by
    have h := leaf_any I hi V Z68 (by rw [hV, bots_length]) (by simp [Z68]) (fun c hc => by rw [hV, bots_get _ _ _ hc, bot_length]) (fun c _ => by rw [Z68_get]; omega) w hk
    have e : leafN I V Z68 = D := by rw [hD, hV, hI, node]
    rw [e] at h
    exact h
  have HK := Lib.hid hK; clear hK
  have HN := Lib.hid hN; clear hN
  have HDL := Lib.hid hDl; clear hDl hV hI hD
  have hc := (HN.out.alloc (.cells #[.int .u8 0, .int .u8 0, .int .u8 0, .int .u8 0, .int .u8 0, .int .u8 0, .int .u8 0, .int .u8 0, .int .u8 0, .int .u8 0, .int .u8 0, .int .u8 0, .int .u8 0, .int .u8 0, .int .u8 0, .int .u8 0] 23)).cells
  obtain ⟨hca, hcb⟩ := hc
  have HB0 : Hid (Blk (W.alloc (.cells #[.int .u8 0, .int .u8 0, .int .u8 0, .int .u8 0, .int .u8 0, .int .u8 0, .int .u8 0, .int .u8 0, .int .u8 0, .int .u8 0, .int .u8 0, .int .u8 0, .int .u8 0, .int .u8 0, .int .u8 0, .int .u8 0] 23)) W.heap.size (bs (List.replicate 16 0)) 23) := Lib.hid (Blk.new' W (bs (List.replicate 16 0)) _ _ rfl)
  go_enter Tryd.func49, Tryd.ntmps49
  go_wp2_with (first
    | ((with_reducible refine (HBT.out _ ?_).mono ?_); exact (HK.out.of (below_a1 _ _)); rintro e x1 ⟨rfl, hb1⟩; have HX1 : Hid (Blk x1 W.heap.size (bs (List.replicate 16 0)) 23 ∧ Below W.heap.size W x1) := Lib.hid ⟨HB0.out.below hb1 HB0.out.lt, below_next (below_a1 _ _) hb1⟩; clear hb1)
    | (refine (HLF.out _ (HK.out.of HX1.out.2)).mono ?_; rintro e x2 ⟨rfl, hb2⟩; have HX2 : Hid (Blk x2 W.heap.size (bs (List.replicate 16 0)) 23 ∧ Below W.heap.size W x2) := Lib.hid ⟨HX1.out.1.below hb2 HX1.out.1.lt, below_next HX1.out.2 hb2⟩; clear hb2)
    | (refine wpList_store_blk rfl 23 (.tmp 6) (.tmp 14) rfl W.heap.size 0 rfl (bs D) rfl HX2.out.1 16 Tryd.size44 HDL.out (by rw [bs_length, List.length_replicate]; omega) (bs_one _) ?_; intro x3 hst3; rw [List.take_zero, List.nil_append, List.drop_of_length_le (by rw [bs_length, List.length_replicate]; omega), List.append_nil] at hst3; have HX3 := Lib.hid hst3; clear hst3))
  refine ret_blk rfl _ rfl HX3.out.1 _ Tryd.underlying23 rfl (by rw [HDL.out]; exact Tryd.size44) rfl ⟨rfl, HX3.out.below HX2.out.2 (by omega)⟩

set_option maxRecDepth 100000 in
set_option maxHeartbeats 2000000 in
theorem node_succ (s A B D : List UInt8) (a b : Nat) (L L1 I I2 I3 : Int) (hL : L1 = L - 1) (hL0 : 1 ≤ L) (hLm : L ≤ 100) (hI2 : I2 = 2 * I) (hI3 : I3 = I2 + 1) (hI0 : 0 ≤ I) (hIm : I ≤ 1099511627776) (hA : A.length = 16) (hB : B.length = 16) (hD : D = par A B)
    (h1 : ∀ w, ND w s a b → KH w → Calls Tryd.prog 49 #[.int .i64 L1, .int .i64 I2, .pointer (some ⟨a, 0, none⟩), .pointer (some ⟨b, 0, none⟩)] w fun e w' => e = .returned (.agg (bs A).toArray) ∧ Below w.heap.size w w')
    (h2 : ∀ w, ND w s a b → KH w → Calls Tryd.prog 49 #[.int .i64 L1, .int .i64 I3, .pointer (some ⟨a, 0, none⟩), .pointer (some ⟨b, 0, none⟩)] w fun e w' => e = .returned (.agg (bs B).toArray) ∧ Below w.heap.size w w')
    (W : World) (hN : ND W s a b) (hK : KH W) :
    Calls Tryd.prog 49 #[.int .i64 L, .int .i64 I, .pointer (some ⟨a, 0, none⟩), .pointer (some ⟨b, 0, none⟩)] W fun e w' => e = .returned (.agg (bs D).toArray) ∧ Below W.heap.size W w' := by
  have hDl : (bs D).length = 16 := by rw [bs_length, hD, par_length]
  have hw1 : IntKind.i64.wrap (L - 1) = L1 := by rw [IntWalk.i64_in _ (by omega), hL]
  have hw2 : IntKind.i64.wrap (2 * I) = I2 := by rw [IntWalk.i64_in _ (by omega), hI2]
  have hw3 : IntKind.i64.wrap (I2 + 1) = I3 := by rw [IntWalk.i64_in _ (by omega), hI3]
  have hne : (L == 0) = false := by simp; omega
  have HP : Hid (∀ w, KH w → Calls Tryd.prog 50 #[.agg (bs A).toArray, .agg (bs B).toArray] w fun e w' => e = .returned (.agg (bs D).toArray) ∧ Below w.heap.size w w') := Lib.hid fun w hk => by rw [hD]; exact parent_any A B hA hB w hk
  have H1 := Lib.hid h1; clear h1
  have H2 := Lib.hid h2; clear h2
  have HK := Lib.hid hK; clear hK
  have HN := Lib.hid hN; clear hN
  have HDL := Lib.hid hDl; clear hDl hL hI2 hI3 hD hA hB
  have HB0 : Hid (Blk (W.alloc (.cells #[.int .u8 0, .int .u8 0, .int .u8 0, .int .u8 0, .int .u8 0, .int .u8 0, .int .u8 0, .int .u8 0, .int .u8 0, .int .u8 0, .int .u8 0, .int .u8 0, .int .u8 0, .int .u8 0, .int .u8 0, .int .u8 0] 23)) W.heap.size (bs (List.replicate 16 0)) 23 ∧ ND (W.alloc (.cells #[.int .u8 0, .int .u8 0, .int .u8 0, .int .u8 0, .int .u8 0, .int .u8 0, .int .u8 0, .int .u8 0, .int .u8 0, .int .u8 0, .int .u8 0, .int .u8 0, .int .u8 0, .int .u8 0, .int .u8 0, .int .u8 0] 23)) s a b ∧ Below W.heap.size W (W.alloc (.cells #[.int .u8 0, .int .u8 0, .int .u8 0, .int .u8 0, .int .u8 0, .int .u8 0, .int .u8 0, .int .u8 0, .int .u8 0, .int .u8 0, .int .u8 0, .int .u8 0, .int .u8 0, .int .u8 0, .int .u8 0, .int .u8 0] 23))) := Lib.hid ⟨Blk.new' W (bs (List.replicate 16 0)) _ _ rfl, HN.out.alloc _, below_a1 _ _⟩
  have hent := enter49
  go_enter Tryd.func49, Tryd.ntmps49
  go_wp2_with fail
  generalize W.alloc (.cells #[.int .u8 0, .int .u8 0, .int .u8 0, .int .u8 0, .int .u8 0, .int .u8 0, .int .u8 0, .int .u8 0, .int .u8 0, .int .u8 0, .int .u8 0, .int .u8 0, .int .u8 0, .int .u8 0, .int .u8 0, .int .u8 0] 23) = W0 at HB0 ⊢
  have hcb : W0.drew.cell? ⟨b, 0, none⟩ = some (FV a b) := HB0.out.2.1.cells.2
  unfold FV at hcb
  clear HN hI0 hIm hL0 hLm
  go_region_with (first
    | ((with_reducible refine (H1.out _ ?_ ?_).mono ?_); exact HB0.out.2.1; exact (HK.out.of HB0.out.2.2.drew); rintro e x1 ⟨rfl, hb1⟩; have HX1 : Hid (Blk x1 W.heap.size (bs (List.replicate 16 0)) 23 ∧ ND x1 s a b ∧ Below W.heap.size W x1) := Lib.hid ⟨HB0.out.1.drew.below hb1 HB0.out.1.drew.lt, ND.next (W := W0.drew) HB0.out.2.1 hb1, below_next HB0.out.2.2.drew hb1⟩; have hc1 : x1.cell? ⟨b, 0, none⟩ = some (FV a b) := HX1.out.2.1.cells.2; unfold FV at hc1; clear hb1)
    | ((with_reducible refine (H2.out _ ?_ ?_).mono ?_); exact HX1.out.2.1; exact (HK.out.of HX1.out.2.2); rintro e x2 ⟨rfl, hb2⟩; have HX2 : Hid (Blk x2 W.heap.size (bs (List.replicate 16 0)) 23 ∧ Below W.heap.size W x2) := Lib.hid ⟨HX1.out.1.below hb2 HX1.out.1.lt, below_next HX1.out.2.2 hb2⟩; clear hb2)
    | ((with_reducible refine (HP.out _ ?_).mono ?_); exact (HK.out.of HX2.out.2); rintro e x3 ⟨rfl, hb3⟩; have HX3 : Hid (Blk x3 W.heap.size (bs (List.replicate 16 0)) 23 ∧ Below W.heap.size W x3) := Lib.hid ⟨HX2.out.1.below hb3 HX2.out.1.lt, below_next HX2.out.2 hb3⟩; obtain ⟨x4, hst4, hs4⟩ := blk_store_all (P := Tryd.prog) HX3.out.1 (bs D) (by rw [HDL.out, bs_length, List.length_replicate]) (bs_one _); have HF : Hid (Blk x4 W.heap.size (bs D) 23 ∧ Below W.heap.size W x4) := Lib.hid ⟨hs4.1, hs4.below HX3.out.2 (by omega)⟩; clear hs4 hb3))
  all_goals (go_wp2_with fail; exact ret_blk rfl _ rfl HF.out.1 _ Tryd.underlying23 rfl (by rw [HDL.out]; exact Tryd.size44) rfl ⟨rfl, HF.out.2⟩)

theorem node_any (s : List UInt8) (hs : s.length ≤ 1000000) (a b : Nat) : ∀ (l i : Nat), l ≤ 6 → (i + 1) * 2 ^ l ≤ 1099511627776 → ∀ (L I : Int), L = (l : Int) → I = (i : Int) → ∀ W, ND W s a b → KH W →
    Calls Tryd.prog 49 #[.int .i64 L, .int .i64 I, .pointer (some ⟨a, 0, none⟩), .pointer (some ⟨b, 0, none⟩)] W fun e w' => e = .returned (.agg (bs (node s l i)).toArray) ∧ Below W.heap.size W w' := by
  intro l
  induction l with
  | zero =>
    intro i _ hi L I hL hI W hN hK
    subst hL
    have hi' : inI I := by unfold inI; omega
    exact node_zero s _ hs a b i I hI hi' rfl W hN hK
  | succ l ih =>
    intro i hl hi L I hL hI W hN hK
    have h2 : (i + 1) * 2 ^ (l + 1) = 2 * ((i + 1) * 2 ^ l) := by rw [Nat.pow_succ]; simp [Nat.mul_comm, Nat.mul_left_comm]
    have h3 : (2 * i + 1) * 2 ^ l ≤ (2 * (i + 1)) * 2 ^ l := Nat.mul_le_mul_right _ (by omega)
    have h4 : (2 * (i + 1)) * 2 ^ l = 2 * ((i + 1) * 2 ^ l) := by rw [Nat.mul_assoc]
    have h5 : (2 * i + 1 + 1) * 2 ^ l = 2 * ((i + 1) * 2 ^ l) := by rw [← h4]; congr 1
    have h6 : i + 1 ≤ (i + 1) * 2 ^ (l + 1) := Nat.le_mul_of_pos_right _ (Nat.two_pow_pos _)
    exact node_succ s (node s l (2 * i)) (node s l (2 * i + 1)) _ a b L (l : Int) I (2 * I) (2 * I + 1) (by omega) (by omega) (by omega) rfl rfl (by omega) (by omega) (node_length _ _ _) (node_length _ _ _) rfl
      (fun w hn hk => ih (2 * i) (by omega) (by omega) _ _ rfl (by omega) w hn hk) (fun w hn hk => ih (2 * i + 1) (by omega) (by omega) _ _ rfl (by omega) w hn hk) W hN hK
end Go.Proofs.YtbgcnfikcddcpaaDoor
