/-
  The walks of sign's nodes, besides, rootOver, Digest.
-/
import Derived.Test.YtbgcnfikcddcpaaDoorSTree
import Derived.Laws.EntriesVeiled
namespace Go.Proofs.YtbgcnfikcddcpaaDoor
open Go.RowKit
set_option linter.unusedVariables false
open Sha Sgn
set_option maxRecDepth 100000 in
set_option maxHeartbeats 1000000 in
theorem nodes_any (s : List UInt8) (w : World) :
    Calls Tryd.prog 23 #[.string (sb s)] w fun e w' => e = .returned (FV w.heap.size (w.heap.size + 1)) ∧ ND w' s w.heap.size (w.heap.size + 1) ∧ Below w.heap.size w w' := by
  go_enter Tryd.func23, Tryd.ntmps23
  go_wp2_with fail
  go_ret
  exact ⟨rfl, ⟨(Blk.at w [.string (sb s)] _ _ _ rfl rfl).alloc _, Blk.at _ [FV w.heap.size (w.heap.size + 1)] _ _ _ rfl (by simp)⟩, (below_a1 _ _).alloc (by simp) _⟩

theorem Tryd.info23 : (Tryd.prog.info? 23).map (fun i => (i.zero, i.size, i.bytes)) = some (some (.agg (bs (List.replicate 16 0)).toArray), 16, 16) := by kernel_rfl
theorem Blk.grown {w w' : World} {B : Nat} {C : List Value} {T : TypeId} {row : Option Nat} (h : Blk w B C T) (hg : w.grownBy w' row) (hne : some B ≠ row) : Blk w' B C T := (hg.block B h.lt hne).trans h
theorem fold_set (l : List Value) : ∀ (k : Nat) (cs : Array Value), k + l.length ≤ cs.size → (l.zipIdx k).foldl (fun cs x => cs.setIfInBounds x.2 x.1) cs = (cs.toList.take k ++ l ++ cs.toList.drop (k + l.length)).toArray := by
  induction l with
  | nil => intro k cs h; simp
  | cons x r ih =>
    intro k cs h
    simp only [List.length_cons] at h
    rw [List.zipIdx_cons, List.foldl_cons, ih (k + 1) _ (by rw [Array.size_setIfInBounds]; omega)]
    congr 1
    have hk : k < cs.toList.length := by simp; omega
    rw [Array.toList_setIfInBounds, List.drop_set_of_lt (by omega), List.take_succ_eq_append_getElem (by simpa using hk), List.take_set, List.set_eq_of_length_le (by simp; omega)]
    simp
    omega
/-- What a slice literal of one digest lays. -/
theorem fold16 (X : List UInt8) (h : X.length = 16) : List.foldl (fun cs x => cs.setIfInBounds x.2 x.1) #[Value.int .u8 0, Value.int .u8 0, Value.int .u8 0, Value.int .u8 0, Value.int .u8 0, Value.int .u8 0, Value.int .u8 0, Value.int .u8 0, Value.int .u8 0, Value.int .u8 0, Value.int .u8 0, Value.int .u8 0, Value.int .u8 0, Value.int .u8 0, Value.int .u8 0, Value.int .u8 0] (bs X).zipIdx = (bs X).toArray := by
  have := fold_set (bs X) 0 #[Value.int .u8 0, Value.int .u8 0, Value.int .u8 0, Value.int .u8 0, Value.int .u8 0, Value.int .u8 0, Value.int .u8 0, Value.int .u8 0, Value.int .u8 0, Value.int .u8 0, Value.int .u8 0, Value.int .u8 0, Value.int .u8 0, Value.int .u8 0, Value.int .u8 0, Value.int .u8 0] (by rw [bs_length, h]; decide)
  rw [this, bs_length, h]
  simp
theorem ND.grown {W W' : World} {s : List UInt8} {a b : Nat} {row : Option Nat} (h : ND W s a b) (hg : W.grownBy W' row) (hr : ∀ g, row = some g → a < g ∧ b < g) : ND W' s a b :=
  ⟨h.1.grown hg (fun e => by have := hr a e.symm; omega), h.2.grown hg (fun e => by have := hr b e.symm; omega)⟩
theorem sib_lt : ∀ j : Fin 64, bits .xor .i64 ((j.val : Nat) : Int) 1 = ((sib j.val : Nat) : Int) := by decide +kernel
theorem sib_xor (i k : Nat) (h : i < 64) : bits .xor .i64 ((i : Int) / 2 ^ k) 1 = ((sib (i / 2 ^ k) : Nat) : Int) := by
  have e : (i : Int) / 2 ^ k = ((i / 2 ^ k : Nat) : Int) := by simp
  have : i / 2 ^ k ≤ i := Nat.div_le_self _ _
  rw [e]
  exact sib_lt ⟨i / 2 ^ k, by omega⟩
theorem sib_le (i k h : Nat) (hk : k < h) (hh : h ≤ 6) (hi : i < 2 ^ h) : (sib (i / 2 ^ k) + 1) * 2 ^ k ≤ 1099511627776 := by
  have h1 : i / 2 ^ k ≤ i := Nat.div_le_self _ _
  have h2 : 2 ^ h ≤ 2 ^ 6 := Nat.pow_le_pow_right (by omega) hh
  have h3 : 2 ^ k ≤ 2 ^ 6 := Nat.pow_le_pow_right (by omega) (by omega)
  have h4 : sib (i / 2 ^ k) + 1 ≤ 66 := by unfold sib; split <;> omega
  exact Nat.le_trans (Nat.mul_le_mul h4 h3) (by omega)
set_option maxRecDepth 100000 in
set_option maxHeartbeats 1000000 in
theorem besides_aux (s : List UInt8) (hs : s.length ≤ 1000000) (h i : Nat) (hh : h ≤ 6) (hi : i < 2 ^ h) (w : World) (hK : KH w) :
    Calls Tryd.prog 28 #[.string (sb s), .int .i64 h, .int .i64 i] w fun e w' => ∃ A c, e = .returned (.slice A h c) ∧ Rd w' A ((besid s h i).flatMap bs) ∧ Below w.heap.size w w' := by
  have HK := Lib.hid hK; clear hK
  have hent := enter49
  obtain ⟨i0, hi0, hz0, hz1, hz2⟩ := info_parts Tryd.info23
  go_enter Tryd.func28, Tryd.ntmps28
  go_wp2_with ((refine (nodes_any s _).mono ?_; rintro e x1 ⟨rfl, hn1, hb1⟩; have HX1 := Lib.hid (And.intro hn1 hb1); clear hn1 hb1; unfold FV))
  go_loopg [8, 13] h (fun g s8 s13 wr => ∃ (k : Nat), k + g = h ∧ s13 = .int .i64 k ∧ ND wr s w.heap.size (w.heap.size + 1) ∧ wr.ownsRow (w.heap.size + 2) 23 16 s8 k ((besid s k i).flatMap bs) ∧ Below w.heap.size w wr)
  case atStart => exact ⟨0, by omega, rfl, HX1.out.1, World.ownsRow_nil _ _ _ _, HX1.out.2⟩
  case round =>
    clear HX1
    obtain ⟨k, hk, rfl, hND, hown, hBl⟩ := hrel
    by_cases hlt : k < h
    · obtain ⟨g, rfl⟩ : ∃ g, gk = g + 1 := ⟨gk - 1, by omega⟩
      have hx : bits .xor .i64 ((i : Int) / 2 ^ k) 1 = ((sib (i / 2 ^ k) : Nat) : Int) := sib_xor i k (by have : 2 ^ h ≤ 2 ^ 6 := Nat.pow_le_pow_right (by omega) hh; omega)
      have HNC : Hid (∀ W, ND W s w.heap.size (w.heap.size + 1) → KH W → Calls Tryd.prog 49 #[.int .i64 (k : Int), .int .i64 (bits .xor .i64 ((i : Int) / 2 ^ k) 1), .pointer (some ⟨w.heap.size, 0, none⟩), .pointer (some ⟨w.heap.size + 1, 0, none⟩)] W fun e w' => e = .returned (.agg (bs (node s k (sib (i / 2 ^ k)))).toArray) ∧ Below W.heap.size W w') :=
        Lib.hid fun W hn hk => node_any s hs _ _ k _ (by omega) (sib_le i k h hlt hh hi) _ _ rfl hx W hn hk
      obtain ⟨X, hX⟩ : ∃ X, X = node s k (sib (i / 2 ^ k)) := ⟨_, rfl⟩
      rw [← hX] at HNC
      have hXl : X.length = 16 := by rw [hX, node_length]
      have hfl : (besid s (k + 1) i).flatMap bs = (besid s k i).flatMap bs ++ bs X := by rw [besid_succ, List.flatMap_append, hX]; simp
      have HF := Lib.hid (And.intro hfl hXl); clear hfl hX hx hXl
      have HA := Lib.hid (And.intro hND (And.intro hown hBl)); clear hND hown hBl
      go_wp2_with fail
      refine (HNC.out _ HA.out.1 (HK.out.of HA.out.2.2)).mono ?_
      rintro e x2 ⟨rfl, hb2⟩
      have HX2 : Hid (ND x2 s w.heap.size (w.heap.size + 1) ∧ x2.ownsRow (w.heap.size + 2) 23 16 _ k ((besid s k i).flatMap bs) ∧ Below w.heap.size w x2) := Lib.hid ⟨HA.out.1.next hb2, own_keep HA.out.2.1 hb2, below_next HA.out.2.2 hb2⟩
      clear hb2
      have hsrc : Src Tryd.prog i0.size 48 (.slice (some ⟨x2.heap.size, 0, none⟩) 1 1) 1 (bs X) (x2.alloc (.cells (bs X).toArray 23)) :=
        Src.ofSlice _ Tryd.underlying48 ⟨x2.heap.size, 0, none⟩ 1 1 (bs X) (by rw [bs_length, HF.out.2, hz1]) (World.news_of_block (heap_alloc_new x2 _)) (bs_one X)
      have HSRC := Lib.hid hsrc; clear hsrc
      have hxb : (bs X).length = 16 := by rw [bs_length]; exact HF.out.2
      have hfold := fold16 X HF.out.2
      go_wp2_with (at_builtin; refine wpList_own_src rfl (.tmp 16) (.tmp 24) 48 48 rfl (w.heap.size + 2) 23 i0 _ 16 16 Tryd.underlying48 hi0 hz0 hz1 hz2 rfl _ k _ rfl (HX2.out.2.1.alloc _) _ 1 (bs X) rfl HSRC.out ?c1 ?c2 ?c3 ?_)
      case c1 => unfold maxLen; omega
      case c2 => omega
      case c3 => have := HX2.out.1.2.lt; simp; omega
      intro v3 x3 hown3 hg3 hat3
      have HX3 : Hid (ND x3 s w.heap.size (w.heap.size + 1) ∧ x3.ownsRow (w.heap.size + 2) 23 16 v3 (k + 1) ((besid s (k + 1) i).flatMap bs) ∧ Below w.heap.size w x3) := Lib.hid
        ⟨(HX2.out.1.alloc _).grown hg3 (fun g hg => by have := (HX2.out.2.1.lt g hg).1; omega), by rw [HF.out.1]; exact hown3, (HX2.out.2.2.alloc HX2.out.2.2.size _).grown hg3 (by have := HX2.out.2.2.size; simp; omega) (fun g hg => by have := (HX2.out.2.1.lt g hg).1; omega)⟩
      clear hown3 hg3 hat3
      go_wp2_with fail
      go_roundg g
      case rel => exact ⟨k + 1, by omega, by go_num, HX3.out⟩
      case measure => omega
    · obtain rfl : k = h := by omega
      obtain ⟨A, c, rfl, hrd, _, _⟩ := Rd.of_own hown
      have HF := Lib.hid (And.intro hrd hBl); clear hrd hBl hown hND
      go_wp2_with fail
      go_ret
      exact ⟨A, c, rfl, HF.out.1, HF.out.2⟩
theorem besides_any (s : List UInt8) (hs : s.length ≤ 1000000) (h i : Nat) (H I : Int) (hH : H = (h : Int)) (hI : I = (i : Int)) (hh : h ≤ 6) (hi : i < 2 ^ h) (w : World) (hK : KH w) :
    Calls Tryd.prog 28 #[.string (sb s), .int .i64 H, .int .i64 I] w fun e w' => ∃ A c, e = .returned (.slice A h c) ∧ Rd w' A ((besid s h i).flatMap bs) ∧ Below w.heap.size w w' := by
  subst hH hI
  exact besides_aux s hs h i hh hi w hK
end Go.Proofs.YtbgcnfikcddcpaaDoor
