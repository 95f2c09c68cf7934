/-
  The walk of the law's own examples.
-/
import Derived.Test.YtpidddafbehmpaaDoorHOf
import Derived.Test.YtpidddafbehmpaaDoorHHex
import Derived.Stop.BytesEq
namespace Go.Proofs.YtpidddafbehmpaaDoor
open Go.RowKit
set_option linter.unusedVariables false
open Sha
def R1 : List UInt8 := [186, 120, 22, 191, 143, 1, 207, 234, 65, 65, 64, 222, 93, 174, 34, 35, 176, 3, 97, 163, 150, 23, 122, 156, 180, 16, 255, 97, 242, 0, 21, 173]
def D1 : List UInt8 := [54, 205, 80, 133, 3, 41, 248, 132, 6, 227, 27, 184, 167, 216, 251, 98]
def M1 : List UInt8 := [91, 220, 193, 70, 191, 96, 117, 78, 106, 4, 36, 38, 8, 149, 117, 199, 90, 0, 63, 8, 157, 39, 57, 131, 157, 236, 88, 185, 100, 236, 56, 67]
def TX : List UInt8 := [119, 104, 97, 116, 32, 100, 111, 32, 121, 97, 32, 119, 97, 110, 116, 32, 102, 111, 114, 32, 110, 111, 116, 104, 105, 110, 103, 63]
theorem ev_R : sha [97, 98, 99] = R1 := by kernel_rfl
theorem ev_D : dig 8 [[97], []] = D1 := by kernel_rfl
theorem ev_M : mac [74, 101, 102, 101] TX = M1 := by kernel_rfl
theorem ev_HR : sb (hexs R1) = { data := #[98, 97, 55, 56, 49, 54, 98, 102, 56, 102, 48, 49, 99, 102, 101, 97, 52, 49, 52, 49, 52, 48, 100, 101, 53, 100, 97, 101, 50, 50, 50, 51, 98, 48, 48, 51, 54, 49, 97, 51, 57, 54, 49, 55, 55, 97, 57, 99, 98, 52, 49, 48, 102, 102, 54, 49, 102, 50, 48, 48, 49, 53, 97, 100] } := by kernel_rfl
theorem ev_HD : sb (hexs D1) = { data := #[51, 54, 99, 100, 53, 48, 56, 53, 48, 51, 50, 57, 102, 56, 56, 52, 48, 54, 101, 51, 49, 98, 98, 56, 97, 55, 100, 56, 102, 98, 54, 50] } := by kernel_rfl
theorem ev_HM : sb (hexs M1) = { data := #[53, 98, 100, 99, 99, 49, 52, 54, 98, 102, 54, 48, 55, 53, 52, 101, 54, 97, 48, 52, 50, 52, 50, 54, 48, 56, 57, 53, 55, 53, 99, 55, 53, 97, 48, 48, 51, 102, 48, 56, 57, 100, 50, 55, 51, 57, 56, 51, 57, 100, 101, 99, 53, 56, 98, 57, 54, 52, 101, 99, 51, 56, 52, 51] } := by kernel_rfl
theorem ev_TX : sb TX = { data := #[119, 104, 97, 116, 32, 100, 111, 32, 121, 97, 32, 119, 97, 110, 116, 32, 102, 111, 114, 32, 110, 111, 116, 104, 105, 110, 103, 63] } := by kernel_rfl
theorem ev_e1 : eqB [97, 98] [97, 98] = true := by kernel_rfl
theorem ev_e2 : eqB [97, 98] [97, 99] = false := by kernel_rfl
theorem ev_e3 : eqB [] [97] = false := by kernel_rfl

def San (w : World) (e : Ending) (w' : World) : Prop := e = .returned (.bool true) ∧ Below w.heap.size w w'
/-- What the law has laid by and by. -/
def S1 (w W : World) (b1 : Nat) : Prop := Blk W b1 (bs R1) 24 ∧ Below w.heap.size w W
def S2 (w W : World) (b1 b2 : Nat) : Prop := Blk W b2 (bs R1) 24 ∧ S1 w W b1
def S3 (w W : World) (b1 b2 b3 : Nat) : Prop := Blk W b3 (bs D1) 44 ∧ S2 w W b1 b2
theorem S1.step {w W W' : World} {b1 : Nat} (h : S1 w W b1) (hb : Below W.heap.size W W') : S1 w W' b1 := ⟨h.1.below hb h.1.lt, below_next h.2 hb⟩
theorem S2.step {w W W' : World} {b1 b2 : Nat} (h : S2 w W b1 b2) (hb : Below W.heap.size W W') : S2 w W' b1 b2 := ⟨h.1.below hb h.1.lt, h.2.step hb⟩
theorem S3.step {w W W' : World} {b1 b2 b3 : Nat} (h : S3 w W b1 b2 b3) (hb : Below W.heap.size W W') : S3 w W' b1 b2 b3 := ⟨h.1.below hb h.1.lt, h.2.step hb⟩
theorem S3.drewN {w W : World} {b1 b2 b3 : Nat} (h : S3 w W b1 b2 b3) (n : Nat) : S3 w (W.drewN n) b1 b2 b3 := ⟨h.1, h.2.1, h.2.2.1, below_drewN h.2.2.2 n⟩
theorem wpList_load_blk_w {P : Program} {w : World} {ops : Array Oper} {rest : List Oper} {o : Oper} {a : Act} {Q : Exit → Act → World → Prop} (hw : Region.wanted o (yielded ops a.tmps) = true) (ty : TypeId) (x : Operand) (ho : o.op = .load ty x)
    (g : Nat) (hx : a.eval x = .pointer (some ⟨g, 0, none⟩)) {C : List Value} {T : TypeId} (hb : Blk w g C T) (d : TypeDesc) (hu : P.underlying ty = some d) (hd : d.isRow = true) (hi : (P.info? ty).map (·.size) = some C.length)
    (h : wpList P ops Q rest (a.put o.dst (.agg C.toArray)) w) : wpList P ops Q (o :: rest) a w :=
  BigFrame.wpList_want hw fun _ hK => wp_load_mid ty x ho g 0 hx C d (fun j v hv => by rw [Nat.zero_add]; exact hb.cell hv) hu hd hi (hK _ _ h)
theorem S1.stored {w W W' : World} {b1 g : Nat} {o : Obj} {C : List Value} {T : TypeId} (h : S1 w W b1) (hs : Stored (W.alloc o) W' W.heap.size C T) : S1 w W' b1 := ⟨hs.other (h.1.alloc o) (by have := h.1.lt; omega), hs.below (al h.2 o) h.2.size⟩
theorem S2.stored {w W W' : World} {b1 b2 : Nat} {o : Obj} {C : List Value} {T : TypeId} (h : S2 w W b1 b2) (hs : Stored (W.alloc o) W' W.heap.size C T) : S2 w W' b1 b2 := ⟨hs.other (h.1.alloc o) (by have := h.1.lt; omega), S1.stored (g := 0) h.2 hs⟩
theorem Rd.of_blk {W : World} {b : Nat} {C : List Value} {T : TypeId} (h : Blk W b C T) : Rd W (some ⟨b, 0, none⟩) C := .inr ⟨b, 0, rfl, fun k v hv => by rw [Nat.zero_add]; exact h.cell hv⟩
theorem R1_length : (bs R1).length = 32 := by kernel_rfl
theorem D1_length : (bs D1).length = 16 := by kernel_rfl
/-- []byte("..") of bytes that have just been laid: their block is marked. -/
theorem conv_mark (w : World) (l : List UInt8) (C : Array Value) (hC : C = (bs l).toArray) (n c : Nat) :
    ∃ W', (convert 22 22 (.slice (some ⟨w.heap.size, 0, none⟩) n c)).run Tryd.prog (w.alloc (.cells C 5)) = .ok (.slice (some ⟨w.heap.size, 0, none⟩) n c) W' ∧ Rd W' (some ⟨w.heap.size, 0, none⟩) (bs l) ∧ Below w.heap.size w W' := by
  subst hC
  refine ⟨w.alloc (.cells (bs l).toArray 5 ((bs l).toArray.size, (bs l).toArray.size + 1)), ?_, ?_, below_a1 _ _⟩
  · have hsh : (w.alloc (.cells (bs l).toArray 5)).shape? w.heap.size = some (5, (bs l).toArray.size) := by
      unfold World.shape?
      rw [heap_alloc_new]
    have hfr : (w.alloc (.cells (bs l).toArray 5)).freeze ⟨w.heap.size, (bs l).toArray.size, none⟩ 1 = w.alloc (.cells (bs l).toArray 5 ((bs l).toArray.size, (bs l).toArray.size + 1)) := by
      have hm : ∀ (a : Array Obj) (x : Obj) (f : Obj → Obj), (a.push x).modify a.size f = a.push (f x) := by
        intro a x f
        apply Array.ext
        · simp
        · intro i h1 h2
          simp only [Array.getElem_modify, Array.getElem_push]
          by_cases h : a.size = i
          · subst h
            simp
          · have hi : i < a.size := by simp at h1; omega
            simp [h, hi]
      unfold World.freeze
      rw [if_neg (by decide)]
      show ({ w.alloc (.cells (bs l).toArray 5) with heap := (w.heap.push (.cells (bs l).toArray 5)).modify w.heap.size _ } : World) = _
      rw [hm]
      rfl
    have hrun : (markStringish ⟨w.heap.size, 0, none⟩).run Tryd.prog (w.alloc (.cells (bs l).toArray 5)) = .ok () (w.alloc (.cells (bs l).toArray 5 ((bs l).toArray.size, (bs l).toArray.size + 1))) := by
      simp only [markStringish, Sem.run_bind, run_shape, hsh, Result.andThen_ok, run_freeze, hfr]
    simp [convert, run_underlying Tryd.underlying22, run_underlying Tryd.underlying5, hrun]
  · refine .inr ⟨w.heap.size, 0, rfl, fun k v hv => ?_⟩
    rw [cell_of_row _ w.heap.size (0 + k) _ _ _ (heap_alloc_new w _), Nat.zero_add]
    simpa using hv
theorem eq24 (a b : List UInt8) (ha : a.length = 32) (hb : b.length = 32) (W : World) : (Op.equalIn 10000 24 (.agg (bs a).toArray) (.agg (bs b).toArray)).run Tryd.prog W = .ok (eqB a b) W := by
  have h := run_equalIn_bytes (P := Tryd.prog) W 9998 24 5 32 Tryd.underlying24 Tryd.underlying5 (fun W => by kernel_rfl) a b ha hb
  rw [eqB]
  exact h
theorem eq44 (a b : List UInt8) (ha : a.length = 16) (hb : b.length = 16) (W : World) : (Op.equalIn 10000 44 (.agg (bs a).toArray) (.agg (bs b).toArray)).run Tryd.prog W = .ok (eqB a b) W := by
  have h := run_equalIn_bytes (P := Tryd.prog) W 9998 44 5 16 Tryd.underlying44 Tryd.underlying5 (fun W => by kernel_rfl) a b ha hb
  rw [eqB]
  exact h
theorem KH.of {w W : World} (hK : KH w) (hb : Below w.heap.size w W) : KH W := hK.below hb hK.2
attribute [irreducible] R1 D1 M1

set_option maxRecDepth 100000 in
set_option maxHeartbeats 4000000 in
theorem sanity_any (w : World) (hK : KH w) : Calls Tryd.prog 10 #[] w (San w) := by
  have hA1 := fun W hk => begin_add [97] (by simp) W hk
  have hA2 := fun W hk => add_any [97] [98, 99] (by simp) W hk
  have hS := fun W hk => sum_any [97, 98, 99] (by simp) W hk
  rw [show ([97] : List UInt8) ++ [98, 99] = [97, 98, 99] from rfl] at hA2
  rw [ev_R] at hS
  have hH := fun (A : Option Addr) (c : Nat) (W : World) (hr : Rd W A (bs [97, 98, 99])) (hk : KH W) => hsum_any [97, 98, 99] A 3 c rfl (by simp) W hr hk
  rw [ev_R] at hH
  obtain ⟨T0, hT0⟩ : ∃ S, S = Str [] := ⟨_, rfl⟩
  obtain ⟨T1, hT1⟩ : ∃ S, S = Str [97] := ⟨_, rfl⟩
  obtain ⟨T2, hT2⟩ : ∃ S, S = Str [97, 98, 99] := ⟨_, rfl⟩
  have HBG := Lib.hid (fun W => by have := begin_str W; rw [← hT0] at this; exact this)
  rw [← hT0, ← hT1] at hA1
  rw [← hT1, ← hT2] at hA2
  rw [← hT2] at hS
  have HA1 : Hid (∀ W, KH W → Calls Tryd.prog 15 #[.agg T0.toArray, .string { data := #[97] }] W fun e w' => e = .returned (.agg T1.toArray) ∧ Below W.heap.size W w') := Lib.hid hA1
  have HA2 : Hid (∀ W, KH W → Calls Tryd.prog 15 #[.agg T1.toArray, .string { data := #[98, 99] }] W fun e w' => e = .returned (.agg T2.toArray) ∧ Below W.heap.size W w') := Lib.hid hA2
  have HS := Lib.hid hS
  have HH := Lib.hid hH
  clear hT0 hT1 hT2 hA1 hA2 hS hH
  have HOF : Hid (∀ (b : Nat) (W : World), Rd W (some ⟨b, 0, none⟩) [.string (sb [97]), .string (sb [])] → KH W → Calls Tryd.prog 21 #[.int .i64 8, .slice (some ⟨b, 0, none⟩) 2 2] W fun e w' => e = .returned (.agg (bs D1).toArray) ∧ Below W.heap.size W w') := Lib.hid fun b W hr hk => by
    have := of_any 8 [[97], []] (some ⟨b, 0, none⟩) 2 2 rfl (by simp) (by simp [maxLen]) (by simp) (by decide +kernel) W hr hk
    rw [ev_D] at this
    exact this
  have HMAC : Hid (∀ W, KH W → Calls Tryd.prog 18 #[.string { data := #[74, 101, 102, 101] }, .string { data := #[119, 104, 97, 116, 32, 100, 111, 32, 121, 97, 32, 119, 97, 110, 116, 32, 102, 111, 114, 32, 110, 111, 116, 104, 105, 110, 103, 63] }] W fun e w' => e = .returned (.string (sb M1)) ∧ Below W.heap.size W w') := Lib.hid fun W hk => by
    have := mac_any [74, 101, 102, 101] TX (by decide +kernel) (by simp) W hk
    rw [ev_M, ev_TX] at this
    exact this
  have HQ1 : Hid (∀ W, Calls Tryd.prog 24 #[.string { data := #[97, 98] }, .string { data := #[97, 98] }] W fun e w' => e = .returned (.bool true) ∧ ∃ m, w' = W.drewN m) := Lib.hid fun W => by
    have := equal_any [97, 98] [97, 98] (by simp) (by simp) W
    rw [ev_e1] at this
    exact this
  have HQ2 : Hid (∀ W, Calls Tryd.prog 24 #[.string { data := #[97, 98] }, .string { data := #[97, 99] }] W fun e w' => e = .returned (.bool false) ∧ ∃ m, w' = W.drewN m) := Lib.hid fun W => by
    have := equal_any [97, 98] [97, 99] (by simp) (by simp) W
    rw [ev_e2] at this
    exact this
  have HQ3 : Hid (∀ W, Calls Tryd.prog 24 #[.string { data := #[] }, .string { data := #[97] }] W fun e w' => e = .returned (.bool false) ∧ ∃ m, w' = W.drewN m) := Lib.hid fun W => by
    have := equal_any [] [97] (by simp) (by simp) W
    rw [ev_e3] at this
    exact this
  have HX1 : Hid (∀ W, Calls Tryd.prog 25 #[.string (sb R1)] W fun e w' => e = .returned (.string { data := #[98, 97, 55, 56, 49, 54, 98, 102, 56, 102, 48, 49, 99, 102, 101, 97, 52, 49, 52, 49, 52, 48, 100, 101, 53, 100, 97, 101, 50, 50, 50, 51, 98, 48, 48, 51, 54, 49, 97, 51, 57, 54, 49, 55, 55, 97, 57, 99, 98, 52, 49, 48, 102, 102, 54, 49, 102, 50, 48, 48, 49, 53, 97, 100] }) ∧ Below W.heap.size W w') := Lib.hid fun W => by
    have := hex_any R1 (by decide +kernel) W
    rw [ev_HR] at this
    exact this
  have HX2 : Hid (∀ W, Calls Tryd.prog 25 #[.string (sb M1)] W fun e w' => e = .returned (.string { data := #[53, 98, 100, 99, 99, 49, 52, 54, 98, 102, 54, 48, 55, 53, 52, 101, 54, 97, 48, 52, 50, 52, 50, 54, 48, 56, 57, 53, 55, 53, 99, 55, 53, 97, 48, 48, 51, 102, 48, 56, 57, 100, 50, 55, 51, 57, 56, 51, 57, 100, 101, 99, 53, 56, 98, 57, 54, 52, 101, 99, 51, 56, 52, 51] }) ∧ Below W.heap.size W w') := Lib.hid fun W => by
    have := hex_any M1 (by decide +kernel) W
    rw [ev_HM] at this
    exact this
  have HX3 : Hid (∀ W, Calls Tryd.prog 25 #[.string (sb D1)] W fun e w' => e = .returned (.string { data := #[51, 54, 99, 100, 53, 48, 56, 53, 48, 51, 50, 57, 102, 56, 56, 52, 48, 54, 101, 51, 49, 98, 98, 56, 97, 55, 100, 56, 102, 98, 54, 50] }) ∧ Below W.heap.size W w') := Lib.hid fun W => by
    have := hex_any D1 (by decide +kernel) W
    rw [ev_HD] at this
    exact this
  have HB32 : Hid (∀ W, Calls Tryd.prog 20 #[.agg (bs R1).toArray] W fun e w' => e = .returned (.string (sb R1)) ∧ Below W.heap.size W w') := Lib.hid fun W => b32_any R1 (by have := R1_length; rw [bs_length] at this; exact this) W
  have HTXT : Hid (∀ W, Calls Tryd.prog 26 #[.agg (bs D1).toArray] W fun e w' => e = .returned (.string (sb D1)) ∧ Below W.heap.size W w') := Lib.hid fun W => text_any D1 (by have := D1_length; rw [bs_length] at this; exact this) W
  have HK := Lib.hid hK; clear hK
  obtain ⟨x0, hcv0, hr0, hbl0⟩ := conv_mark w [97, 98, 99] #[.int .u8 97, .int .u8 98, .int .u8 99] rfl 3 3
  have HR0 := Lib.hid (And.intro hr0 hbl0); clear hr0 hbl0
  have heq : ∀ W, (Op.equalIn 10000 24 (.agg (bs R1).toArray) (.agg (bs R1).toArray)).run Tryd.prog W = .ok true W := fun W => by
    rw [eq24 R1 R1 (by have := R1_length; rw [bs_length] at this; exact this) (by have := R1_length; rw [bs_length] at this; exact this), eqB_refl]
  go_enter Tryd.func10, Tryd.ntmps10
  go_wp2_with (first
    | (refine (HH.out _ _ _ HR0.out.1 (HK.out.of HR0.out.2)).mono ?_; rintro e x1 ⟨rfl, hb1⟩; have HC1 : Hid (Below w.heap.size w x1) := Lib.hid (below_next HR0.out.2 hb1); clear hb1)
    | (refine wpList_store_blk rfl 24 (.tmp 1) (.tmp 9) rfl x1.heap.size 0 rfl (bs R1) rfl (Blk.new' x1 (bs (List.replicate 32 0)) _ 24 rfl) 32 Tryd.size24 R1_length (by rw [bs_length, List.length_replicate]; omega) (bs_one _) ?_; intro x2 hst2; rw [List.take_zero, List.nil_append, List.drop_of_length_le (by rw [bs_length, List.length_replicate]; omega), List.append_nil] at hst2; have HC2 : Hid (S1 w x2 x1.heap.size) := Lib.hid ⟨hst2.1, hst2.below (al HC1.out _) HC1.out.size⟩; clear hst2)
    | (refine (HBG.out _).mono ?_; rintro e x3 ⟨rfl, hb3⟩; have HC3 := Lib.hid (HC2.out.step hb3); clear hb3)
    | ((with_reducible refine (HA1.out _ ?_).mono ?_); exact (HK.out.of HC3.out.2); rintro e x4 ⟨rfl, hb4⟩; have HC4 := Lib.hid (HC3.out.step hb4); clear hb4)
    | ((with_reducible refine (HA2.out _ ?_).mono ?_); exact (HK.out.of HC4.out.2); rintro e x5 ⟨rfl, hb5⟩; have HC5 := Lib.hid (HC4.out.step hb5); clear hb5)
    | (refine (HS.out _ (HK.out.of HC5.out.2)).mono ?_; rintro e x6 ⟨rfl, hb6⟩; have HC6 := Lib.hid (HC5.out.step hb6); clear hb6)
    | (refine wpList_store_blk rfl 24 (.tmp 2) (.tmp 13) rfl x6.heap.size 0 rfl (bs R1) rfl (Blk.new' x6 (bs (List.replicate 32 0)) _ 24 rfl) 32 Tryd.size24 R1_length (by rw [bs_length, List.length_replicate]; omega) (bs_one _) ?_; intro x7 hst7; rw [List.take_zero, List.nil_append, List.drop_of_length_le (by rw [bs_length, List.length_replicate]; omega), List.append_nil] at hst7; have HC7 : Hid (S2 w x7 x1.heap.size x6.heap.size) := Lib.hid ⟨hst7.1, S1.stored (g := 0) HC6.out hst7⟩; clear hst7)
    | (refine (HOF.out _ _ (Rd.of_blk (Blk.new' x7 [.string (sb [97]), .string (sb [])] _ 9 rfl)) (HK.out.of (al HC7.out.2.2 _))).mono ?_; rintro e x8 ⟨rfl, hb8⟩; have HC8 : Hid (S2 w x8 x1.heap.size x6.heap.size) := Lib.hid ((HC7.out.step (below_a1 _ _)).step hb8); clear hb8)
    | (refine wpList_store_blk rfl 44 (.tmp 3) (.tmp 15) rfl x8.heap.size 0 rfl (bs D1) rfl (Blk.new' x8 (bs (List.replicate 16 0)) _ 44 rfl) 16 Tryd.size44 D1_length (by rw [bs_length, List.length_replicate]; omega) (bs_one _) ?_; intro x9 hst9; rw [List.take_zero, List.nil_append, List.drop_of_length_le (by rw [bs_length, List.length_replicate]; omega), List.append_nil] at hst9; have HC9 : Hid (S3 w x9 x1.heap.size x6.heap.size x8.heap.size) := Lib.hid ⟨hst9.1, HC8.out.stored hst9⟩; clear hst9)
    | (refine (HMAC.out _ (HK.out.of HC9.out.2.2.2)).mono ?_; rintro e x10 ⟨rfl, hb10⟩; have HC10 := Lib.hid (HC9.out.step hb10); clear hb10)
    | ((with_reducible refine (HQ1.out _).mono ?_); rintro e y1 ⟨rfl, m1, rfl⟩)
    | ((with_reducible refine (HQ2.out _).mono ?_); rintro e y2 ⟨rfl, m2, rfl⟩)
    | ((with_reducible refine (HQ3.out _).mono ?_); rintro e y3 ⟨rfl, m3, rfl⟩)
    | (refine wpList_load_blk_w (by rfl) 24 (.tmp 1) rfl x1.heap.size rfl HC12.out.2.2.1 _ Tryd.underlying24 rfl (by rw [R1_length]; exact Tryd.size24) ?_)
    | (refine wpList_load_blk_w (by rfl) 24 (.tmp 2) rfl x6.heap.size rfl HC12.out.2.1 _ Tryd.underlying24 rfl (by rw [R1_length]; exact Tryd.size24) ?_)
    | (refine wpList_load_blk rfl 24 (.tmp 1) rfl x1.heap.size 0 rfl (HC10.out.2.2.1.drewN _) _ Tryd.underlying24 rfl 32 Tryd.size24 (by rw [R1_length]; exact Nat.le_refl _) ?_; rw [List.drop_zero, List.take_of_length_le (by rw [R1_length]; exact Nat.le_refl _)])
    | (refine (HB32.out _).mono ?_; rintro e x11 ⟨rfl, hb11⟩; have HC11 := Lib.hid ((HC10.out.drewN _).step hb11); clear hb11)
    | ((with_reducible refine (HX1.out _).mono ?_); rintro e x12 ⟨rfl, hb12⟩; have HC12 := Lib.hid (HC11.out.step hb12); clear hb12)
    | ((with_reducible refine (HX2.out _).mono ?_); rintro e x13 ⟨rfl, hb13⟩; have HC13 := Lib.hid (HC12.out.step hb13); clear hb13)
    | (refine wpList_load_blk_w (by rfl) 44 (.tmp 3) rfl x8.heap.size rfl HC13.out.1 _ Tryd.underlying44 rfl (by rw [D1_length]; exact Tryd.size44) ?_)
    | (refine (HTXT.out _).mono ?_; rintro e x14 ⟨rfl, hb14⟩; have HC14 := Lib.hid (HC13.out.step hb14); clear hb14)
    | ((with_reducible refine (HX3.out _).mono ?_); rintro e x15 ⟨rfl, hb15⟩; have HC15 := Lib.hid (HC14.out.step hb15); clear hb15))
  go_ret
  exact ⟨rfl, HC15.out.2.2.2⟩
end Go.Proofs.YtpidddafbehmpaaDoor
