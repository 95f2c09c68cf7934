/-
  lives: the examples of the section hold.
-/
import Derived.Test.YtalladdmedmfeaaKSort
import Derived.Test.YtalladdmedmfeaaKKey
import Derived.Test.YtalladdmedmfeaaKFind
namespace Go.Proofs.Ytalladdmedmfeaa
open Go.RowKit
open Alp
open Col
set_option linter.unusedVariables false
set_option linter.unusedSimpArgs false

def LVK : List Lt := [⟨[97], 0, 0, 0, 5⟩, ⟨[98], 1, 0, 0, 5⟩, ⟨[195, 161], 0, 1, 0, 5⟩, ⟨[65], 0, 0, 1, 6⟩]
def lvW : List (List Int) := [[0], [0, 1], [3, 1], [2, 1], [1]]
def lvT : List (List Int) := [[1], [2, 1], [3, 1], [0, 1], [0]]
theorem lvk_val : valP LVK = true := by kernel_rfl
theorem lvk_small : ∀ l ∈ LVK, l.text.length ≤ maxLen := by unfold LVK maxLen; simp
theorem lvk_key : keyP LVK [3, 1] = [1, 2, 0, 1, 1, 0, 2, 1, 0, 4, 2] := by kernel_rfl
theorem lvk_f1 : findP LVK lvW [0, 1] 1 = (1, 4) := by kernel_rfl
theorem lvk_f2 : findP LVK lvW [0, 1] 2 = (1, 3) := by kernel_rfl
theorem lvk_f4 : findP LVK lvW [0, 1] 4 = (1, 2) := by kernel_rfl
theorem lvk_s1 : sameP LVK [3, 1] [2, 1] 1 = true := by kernel_rfl
theorem lvk_s2 : sameP LVK [0, 1] [3, 1] 2 = true := by kernel_rfl
theorem lvk_s3 : sameP LVK [0, 1] [3, 1] 3 = false := by kernel_rfl
theorem lvk_e1 : secP LVK [2, 1] = 0 := by kernel_rfl
theorem lvk_e2 : secP LVK [] = -1 := by kernel_rfl
theorem lvk_c : cmpP LVK [3, 1] [2, 1] = -1 := by kernel_rfl
instance (c : Int → Int → Int) (x y : Int) : Decidable (lt c x y) := inferInstanceAs (Decidable (_ ∨ _))
theorem lvk_sd : Sd (cmpW LVK lvT) [4, 3, 2, 1, 0] := by
  have h : decide (Sd (cmpW LVK lvT) [4, 3, 2, 1, 0]) = true := by kernel_rfl
  exact of_decide_eq_true h
theorem lvk_pm : List.Perm [4, 3, 2, 1, 0] (upL 5) := by
  have h : upL 5 = [0, 1, 2, 3, 4] := rfl
  rw [h]
  have : decide (List.Perm ([4, 3, 2, 1, 0] : List Int) [0, 1, 2, 3, 4]) = true := by kernel_rfl
  exact of_decide_eq_true this
theorem lvk_sort {d : List Int} (h1 : d.Perm (upL 5)) (h2 : Sd (cmpW LVK lvT) d) : d = [4, 3, 2, 1, 0] := sd_unique (cmpW_cmp LVK lvT) (h1.trans lvk_pm.symm) h2 lvk_sd
structure LvF (W : World) (B b1 b2 b3 l t : Nat) : Prop where
  al : AlR W LVK (some ⟨B, 0, none⟩) 4 4
  ws : WsR W lvW (some ⟨l, 0, none⟩) 5 5
  ts : WsR W lvT (some ⟨t, 0, none⟩) 5 5
  c1 : W.cell? ⟨l, 1, none⟩ = some (.slice (some ⟨b1, 0, none⟩) 2 2)
  c2 : W.cell? ⟨l, 2, none⟩ = some (.slice (some ⟨b2, 0, none⟩) 2 2)
  c3 : W.cell? ⟨l, 3, none⟩ = some (.slice (some ⟨b3, 0, none⟩) 2 2)
  d1 : WdR W [0, 1] (some ⟨b1, 0, none⟩) 2 2
  d2 : WdR W [3, 1] (some ⟨b2, 0, none⟩) 2 2
  d3 : WdR W [2, 1] (some ⟨b3, 0, none⟩) 2 2
theorem LvF.below {W W' : World} {B b1 b2 b3 l t : Nat} (h : LvF W B b1 b2 b3 l t) (hb : Below W.heap.size W W') : LvF W' B b1 b2 b3 l t :=
  ⟨h.al.below hb, h.ws.below hb, h.ts.below hb, (hb.cell (p := ⟨l, 1, none⟩) (World.block_lt_of_cell? W _ h.c1)).trans h.c1, (hb.cell (p := ⟨l, 2, none⟩) (World.block_lt_of_cell? W _ h.c2)).trans h.c2, (hb.cell (p := ⟨l, 3, none⟩) (World.block_lt_of_cell? W _ h.c3)).trans h.c3, h.d1.below hb, h.d2.below hb, h.d3.below hb⟩
theorem wd_blk {W : World} {g n : Nat} {l : List Int} {T : TypeId} (h : Blk W g (iv l) T) (hn : n = l.length) (h5 : n ≤ 20) : WdR W l (some ⟨g, 0, none⟩) n n := ⟨hn, by omega, Nat.le_refl _, by unfold maxLen; omega, blk_rd h⟩
theorem wdr_nil (W : World) : WdR W [] none 0 0 := ⟨rfl, by omega, Nat.le_refl _, Nat.zero_le _, .inl rfl⟩
def LvS (w W : World) : Prop := LvF W (w.heap.size) (w.heap.size + 1 + 1) (w.heap.size + 1 + 1 + 1) (w.heap.size + 1 + 1 + 1 + 1) (w.heap.size + 1 + 1 + 1 + 1 + 1 + 1) (w.heap.size + 1 + 1 + 1 + 1 + 1 + 1 + 1 + 1 + 1 + 1 + 1 + 1)
def LvT (w W : World) : Prop := LvS w W ∧ Below w.heap.size w W
theorem LvS.below {w W W2 : World} (h : LvS w W) (hb : Below W.heap.size W W2) : LvS w W2 := LvF.below h hb
set_option maxRecDepth 1000000 in
set_option maxHeartbeats 16000000 in
theorem lvf_start (w : World) : LvS w (((((((((((((w.alloc (.cells #[.string ⟨#[97]⟩, .int .i64 0, .int .i64 0, .int .i64 0, .int .i64 5, .string ⟨#[98]⟩, .int .i64 1, .int .i64 0, .int .i64 0, .int .i64 5, .string ⟨#[195, 161]⟩, .int .i64 0, .int .i64 1, .int .i64 0, .int .i64 5, .string ⟨#[65]⟩, .int .i64 0, .int .i64 0, .int .i64 1, .int .i64 6] 54)).alloc (.cells #[.int .i64 0] 3)).alloc (.cells #[.int .i64 0, .int .i64 1] 3)).alloc (.cells #[.int .i64 3, .int .i64 1] 3)).alloc (.cells #[.int .i64 2, .int .i64 1] 3)).alloc (.cells #[.int .i64 1] 3)).alloc (.cells #[.slice (some ⟨w.heap.size + 1, 0, none⟩) 1 1, .slice (some ⟨w.heap.size + 1 + 1, 0, none⟩) 2 2, .slice (some ⟨w.heap.size + 1 + 1 + 1, 0, none⟩) 2 2, .slice (some ⟨w.heap.size + 1 + 1 + 1 + 1, 0, none⟩) 2 2, .slice (some ⟨w.heap.size + 1 + 1 + 1 + 1 + 1, 0, none⟩) 1 1] 22)).alloc (.cells #[.int .i64 1] 3)).alloc (.cells #[.int .i64 2, .int .i64 1] 3)).alloc (.cells #[.int .i64 3, .int .i64 1] 3)).alloc (.cells #[.int .i64 0, .int .i64 1] 3)).alloc (.cells #[.int .i64 0] 3)).alloc (.cells #[.slice (some ⟨w.heap.size + 1 + 1 + 1 + 1 + 1 + 1 + 1, 0, none⟩) 1 1, .slice (some ⟨w.heap.size + 1 + 1 + 1 + 1 + 1 + 1 + 1 + 1, 0, none⟩) 2 2, .slice (some ⟨w.heap.size + 1 + 1 + 1 + 1 + 1 + 1 + 1 + 1 + 1, 0, none⟩) 2 2, .slice (some ⟨w.heap.size + 1 + 1 + 1 + 1 + 1 + 1 + 1 + 1 + 1 + 1, 0, none⟩) 2 2, .slice (some ⟨w.heap.size + 1 + 1 + 1 + 1 + 1 + 1 + 1 + 1 + 1 + 1 + 1, 0, none⟩) 1 1] 22)) ∧ Below w.heap.size w (((((((((((((w.alloc (.cells #[.string ⟨#[97]⟩, .int .i64 0, .int .i64 0, .int .i64 0, .int .i64 5, .string ⟨#[98]⟩, .int .i64 1, .int .i64 0, .int .i64 0, .int .i64 5, .string ⟨#[195, 161]⟩, .int .i64 0, .int .i64 1, .int .i64 0, .int .i64 5, .string ⟨#[65]⟩, .int .i64 0, .int .i64 0, .int .i64 1, .int .i64 6] 54)).alloc (.cells #[.int .i64 0] 3)).alloc (.cells #[.int .i64 0, .int .i64 1] 3)).alloc (.cells #[.int .i64 3, .int .i64 1] 3)).alloc (.cells #[.int .i64 2, .int .i64 1] 3)).alloc (.cells #[.int .i64 1] 3)).alloc (.cells #[.slice (some ⟨w.heap.size + 1, 0, none⟩) 1 1, .slice (some ⟨w.heap.size + 1 + 1, 0, none⟩) 2 2, .slice (some ⟨w.heap.size + 1 + 1 + 1, 0, none⟩) 2 2, .slice (some ⟨w.heap.size + 1 + 1 + 1 + 1, 0, none⟩) 2 2, .slice (some ⟨w.heap.size + 1 + 1 + 1 + 1 + 1, 0, none⟩) 1 1] 22)).alloc (.cells #[.int .i64 1] 3)).alloc (.cells #[.int .i64 2, .int .i64 1] 3)).alloc (.cells #[.int .i64 3, .int .i64 1] 3)).alloc (.cells #[.int .i64 0, .int .i64 1] 3)).alloc (.cells #[.int .i64 0] 3)).alloc (.cells #[.slice (some ⟨w.heap.size + 1 + 1 + 1 + 1 + 1 + 1 + 1, 0, none⟩) 1 1, .slice (some ⟨w.heap.size + 1 + 1 + 1 + 1 + 1 + 1 + 1 + 1, 0, none⟩) 2 2, .slice (some ⟨w.heap.size + 1 + 1 + 1 + 1 + 1 + 1 + 1 + 1 + 1, 0, none⟩) 2 2, .slice (some ⟨w.heap.size + 1 + 1 + 1 + 1 + 1 + 1 + 1 + 1 + 1 + 1, 0, none⟩) 2 2, .slice (some ⟨w.heap.size + 1 + 1 + 1 + 1 + 1 + 1 + 1 + 1 + 1 + 1 + 1, 0, none⟩) 1 1] 22)) := by
  obtain ⟨W, hW⟩ : ∃ W, W = (((((((((((((w.alloc (.cells #[.string ⟨#[97]⟩, .int .i64 0, .int .i64 0, .int .i64 0, .int .i64 5, .string ⟨#[98]⟩, .int .i64 1, .int .i64 0, .int .i64 0, .int .i64 5, .string ⟨#[195, 161]⟩, .int .i64 0, .int .i64 1, .int .i64 0, .int .i64 5, .string ⟨#[65]⟩, .int .i64 0, .int .i64 0, .int .i64 1, .int .i64 6] 54)).alloc (.cells #[.int .i64 0] 3)).alloc (.cells #[.int .i64 0, .int .i64 1] 3)).alloc (.cells #[.int .i64 3, .int .i64 1] 3)).alloc (.cells #[.int .i64 2, .int .i64 1] 3)).alloc (.cells #[.int .i64 1] 3)).alloc (.cells #[.slice (some ⟨w.heap.size + 1, 0, none⟩) 1 1, .slice (some ⟨w.heap.size + 1 + 1, 0, none⟩) 2 2, .slice (some ⟨w.heap.size + 1 + 1 + 1, 0, none⟩) 2 2, .slice (some ⟨w.heap.size + 1 + 1 + 1 + 1, 0, none⟩) 2 2, .slice (some ⟨w.heap.size + 1 + 1 + 1 + 1 + 1, 0, none⟩) 1 1] 22)).alloc (.cells #[.int .i64 1] 3)).alloc (.cells #[.int .i64 2, .int .i64 1] 3)).alloc (.cells #[.int .i64 3, .int .i64 1] 3)).alloc (.cells #[.int .i64 0, .int .i64 1] 3)).alloc (.cells #[.int .i64 0] 3)).alloc (.cells #[.slice (some ⟨w.heap.size + 1 + 1 + 1 + 1 + 1 + 1 + 1, 0, none⟩) 1 1, .slice (some ⟨w.heap.size + 1 + 1 + 1 + 1 + 1 + 1 + 1 + 1, 0, none⟩) 2 2, .slice (some ⟨w.heap.size + 1 + 1 + 1 + 1 + 1 + 1 + 1 + 1 + 1, 0, none⟩) 2 2, .slice (some ⟨w.heap.size + 1 + 1 + 1 + 1 + 1 + 1 + 1 + 1 + 1 + 1, 0, none⟩) 2 2, .slice (some ⟨w.heap.size + 1 + 1 + 1 + 1 + 1 + 1 + 1 + 1 + 1 + 1 + 1, 0, none⟩) 1 1] 22)) := ⟨_, rfl⟩
  have g0 : Blk W (w.heap.size) (lv LVK) 54 := by rw [hW]; exact (((((((((((((Blk.at w (lv LVK) _ 54 _ rfl rfl).alloc _).alloc _).alloc _).alloc _).alloc _).alloc _).alloc _).alloc _).alloc _).alloc _).alloc _).alloc _)
  have g1 : Blk W (w.heap.size + 1) (iv [0]) 3 := by rw [hW]; exact ((((((((((((Blk.at _ (iv [0]) _ 3 _ rfl (by simp)).alloc _).alloc _).alloc _).alloc _).alloc _).alloc _).alloc _).alloc _).alloc _).alloc _).alloc _)
  have g2 : Blk W (w.heap.size + 1 + 1) (iv [0, 1]) 3 := by rw [hW]; exact (((((((((((Blk.at _ (iv [0, 1]) _ 3 _ rfl (by simp)).alloc _).alloc _).alloc _).alloc _).alloc _).alloc _).alloc _).alloc _).alloc _).alloc _)
  have g3 : Blk W (w.heap.size + 1 + 1 + 1) (iv [3, 1]) 3 := by rw [hW]; exact ((((((((((Blk.at _ (iv [3, 1]) _ 3 _ rfl (by simp)).alloc _).alloc _).alloc _).alloc _).alloc _).alloc _).alloc _).alloc _).alloc _)
  have g4 : Blk W (w.heap.size + 1 + 1 + 1 + 1) (iv [2, 1]) 3 := by rw [hW]; exact (((((((((Blk.at _ (iv [2, 1]) _ 3 _ rfl (by simp)).alloc _).alloc _).alloc _).alloc _).alloc _).alloc _).alloc _).alloc _)
  have g5 : Blk W (w.heap.size + 1 + 1 + 1 + 1 + 1) (iv [1]) 3 := by rw [hW]; exact ((((((((Blk.at _ (iv [1]) _ 3 _ rfl (by simp)).alloc _).alloc _).alloc _).alloc _).alloc _).alloc _).alloc _)
  have g6 : Blk W (w.heap.size + 1 + 1 + 1 + 1 + 1 + 1) [.slice (some ⟨w.heap.size + 1, 0, none⟩) 1 1, .slice (some ⟨w.heap.size + 1 + 1, 0, none⟩) 2 2, .slice (some ⟨w.heap.size + 1 + 1 + 1, 0, none⟩) 2 2, .slice (some ⟨w.heap.size + 1 + 1 + 1 + 1, 0, none⟩) 2 2, .slice (some ⟨w.heap.size + 1 + 1 + 1 + 1 + 1, 0, none⟩) 1 1] 22 := by rw [hW]; exact (((((((Blk.at _ ([.slice (some ⟨w.heap.size + 1, 0, none⟩) 1 1, .slice (some ⟨w.heap.size + 1 + 1, 0, none⟩) 2 2, .slice (some ⟨w.heap.size + 1 + 1 + 1, 0, none⟩) 2 2, .slice (some ⟨w.heap.size + 1 + 1 + 1 + 1, 0, none⟩) 2 2, .slice (some ⟨w.heap.size + 1 + 1 + 1 + 1 + 1, 0, none⟩) 1 1]) _ 22 _ rfl (by simp)).alloc _).alloc _).alloc _).alloc _).alloc _).alloc _)
  have g7 : Blk W (w.heap.size + 1 + 1 + 1 + 1 + 1 + 1 + 1) (iv [1]) 3 := by rw [hW]; exact ((((((Blk.at _ (iv [1]) _ 3 _ rfl (by simp)).alloc _).alloc _).alloc _).alloc _).alloc _)
  have g8 : Blk W (w.heap.size + 1 + 1 + 1 + 1 + 1 + 1 + 1 + 1) (iv [2, 1]) 3 := by rw [hW]; exact (((((Blk.at _ (iv [2, 1]) _ 3 _ rfl (by simp)).alloc _).alloc _).alloc _).alloc _)
  have g9 : Blk W (w.heap.size + 1 + 1 + 1 + 1 + 1 + 1 + 1 + 1 + 1) (iv [3, 1]) 3 := by rw [hW]; exact ((((Blk.at _ (iv [3, 1]) _ 3 _ rfl (by simp)).alloc _).alloc _).alloc _)
  have g10 : Blk W (w.heap.size + 1 + 1 + 1 + 1 + 1 + 1 + 1 + 1 + 1 + 1) (iv [0, 1]) 3 := by rw [hW]; exact (((Blk.at _ (iv [0, 1]) _ 3 _ rfl (by simp)).alloc _).alloc _)
  have g11 : Blk W (w.heap.size + 1 + 1 + 1 + 1 + 1 + 1 + 1 + 1 + 1 + 1 + 1) (iv [0]) 3 := by rw [hW]; exact ((Blk.at _ (iv [0]) _ 3 _ rfl (by simp)).alloc _)
  have g12 : Blk W (w.heap.size + 1 + 1 + 1 + 1 + 1 + 1 + 1 + 1 + 1 + 1 + 1 + 1) [.slice (some ⟨w.heap.size + 1 + 1 + 1 + 1 + 1 + 1 + 1, 0, none⟩) 1 1, .slice (some ⟨w.heap.size + 1 + 1 + 1 + 1 + 1 + 1 + 1 + 1, 0, none⟩) 2 2, .slice (some ⟨w.heap.size + 1 + 1 + 1 + 1 + 1 + 1 + 1 + 1 + 1, 0, none⟩) 2 2, .slice (some ⟨w.heap.size + 1 + 1 + 1 + 1 + 1 + 1 + 1 + 1 + 1 + 1, 0, none⟩) 2 2, .slice (some ⟨w.heap.size + 1 + 1 + 1 + 1 + 1 + 1 + 1 + 1 + 1 + 1 + 1, 0, none⟩) 1 1] 22 := by rw [hW]; exact (Blk.at _ ([.slice (some ⟨w.heap.size + 1 + 1 + 1 + 1 + 1 + 1 + 1, 0, none⟩) 1 1, .slice (some ⟨w.heap.size + 1 + 1 + 1 + 1 + 1 + 1 + 1 + 1, 0, none⟩) 2 2, .slice (some ⟨w.heap.size + 1 + 1 + 1 + 1 + 1 + 1 + 1 + 1 + 1, 0, none⟩) 2 2, .slice (some ⟨w.heap.size + 1 + 1 + 1 + 1 + 1 + 1 + 1 + 1 + 1 + 1, 0, none⟩) 2 2, .slice (some ⟨w.heap.size + 1 + 1 + 1 + 1 + 1 + 1 + 1 + 1 + 1 + 1 + 1, 0, none⟩) 1 1]) _ 22 _ rfl (by simp))
  have hw : WsR W lvW (some ⟨w.heap.size + 1 + 1 + 1 + 1 + 1 + 1, 0, none⟩) 5 5 := by
    refine ⟨rfl, by omega, Nat.le_refl _, by unfold maxLen; omega, [.slice (some ⟨w.heap.size + 1, 0, none⟩) 1 1, .slice (some ⟨w.heap.size + 1 + 1, 0, none⟩) 2 2, .slice (some ⟨w.heap.size + 1 + 1 + 1, 0, none⟩) 2 2, .slice (some ⟨w.heap.size + 1 + 1 + 1 + 1, 0, none⟩) 2 2, .slice (some ⟨w.heap.size + 1 + 1 + 1 + 1 + 1, 0, none⟩) 1 1], ⟨rfl, fun k hk => ?_⟩, .inr ⟨_, 0, rfl, fun k v hv => by rw [Nat.zero_add]; exact g6.cell hv⟩⟩
    have hk5 : k < 5 := hk
    rcases (by omega : k = 0 ∨ k = 1 ∨ k = 2 ∨ k = 3 ∨ k = 4) with rfl | rfl | rfl | rfl | rfl
    · exact ⟨_, _, _, rfl, wd_blk g1 rfl (by decide)⟩
    · exact ⟨_, _, _, rfl, wd_blk g2 rfl (by decide)⟩
    · exact ⟨_, _, _, rfl, wd_blk g3 rfl (by decide)⟩
    · exact ⟨_, _, _, rfl, wd_blk g4 rfl (by decide)⟩
    · exact ⟨_, _, _, rfl, wd_blk g5 rfl (by decide)⟩
  have ht : WsR W lvT (some ⟨w.heap.size + 1 + 1 + 1 + 1 + 1 + 1 + 1 + 1 + 1 + 1 + 1 + 1, 0, none⟩) 5 5 := by
    refine ⟨rfl, by omega, Nat.le_refl _, by unfold maxLen; omega, [.slice (some ⟨w.heap.size + 1 + 1 + 1 + 1 + 1 + 1 + 1, 0, none⟩) 1 1, .slice (some ⟨w.heap.size + 1 + 1 + 1 + 1 + 1 + 1 + 1 + 1, 0, none⟩) 2 2, .slice (some ⟨w.heap.size + 1 + 1 + 1 + 1 + 1 + 1 + 1 + 1 + 1, 0, none⟩) 2 2, .slice (some ⟨w.heap.size + 1 + 1 + 1 + 1 + 1 + 1 + 1 + 1 + 1 + 1, 0, none⟩) 2 2, .slice (some ⟨w.heap.size + 1 + 1 + 1 + 1 + 1 + 1 + 1 + 1 + 1 + 1 + 1, 0, none⟩) 1 1], ⟨rfl, fun k hk => ?_⟩, .inr ⟨_, 0, rfl, fun k v hv => by rw [Nat.zero_add]; exact g12.cell hv⟩⟩
    have hk5 : k < 5 := hk
    rcases (by omega : k = 0 ∨ k = 1 ∨ k = 2 ∨ k = 3 ∨ k = 4) with rfl | rfl | rfl | rfl | rfl
    · exact ⟨_, _, _, rfl, wd_blk g7 rfl (by decide)⟩
    · exact ⟨_, _, _, rfl, wd_blk g8 rfl (by decide)⟩
    · exact ⟨_, _, _, rfl, wd_blk g9 rfl (by decide)⟩
    · exact ⟨_, _, _, rfl, wd_blk g10 rfl (by decide)⟩
    · exact ⟨_, _, _, rfl, wd_blk g11 rfl (by decide)⟩
  rw [← hW]
  refine ⟨⟨⟨rfl, Nat.le_refl _, by unfold maxLen; omega, lvk_small, .inr ⟨_, 0, rfl, fun k v hv => by rw [Nat.zero_add]; exact g0.cell hv⟩⟩, hw, ht, g6.cell rfl, g6.cell rfl, g6.cell rfl, wd_blk g2 rfl (by decide), wd_blk g3 rfl (by decide), wd_blk g4 rfl (by decide)⟩, ?_⟩
  rw [hW]
  exact (below_al (below_al (below_al (below_al (below_al (below_al (below_al (below_al (below_al (below_al (below_al (below_al (below_al (Below.refl _ _) _) _) _) _) _) _) _) _) _) _) _) _) _)
set_option maxRecDepth 1000000 in
set_option maxHeartbeats 16000000 in
theorem lives_any (w : World) : Calls Try.prog 20 #[] w (BoolB w true) := by
  have H0 := Lib.hid (lvf_start w)
  have HF1 : Hid (∀ W, LvS w W → Calls Try.prog 30 #[.slice (some ⟨w.heap.size, 0, none⟩) 4 4, .slice (some ⟨w.heap.size + 1 + 1 + 1 + 1 + 1 + 1, 0, none⟩) 5 5, .slice (some ⟨w.heap.size + 1 + 1, 0, none⟩) 2 2, .int .i64 1] W (FPost W (1, 4))) := Lib.hid fun W h => find_any LVK _ _ _ 4 4 5 5 2 2 1 lvW [0, 1] _ lvk_f1.symm W h.al h.ws h.d1
  have HF2 : Hid (∀ W, LvS w W → Calls Try.prog 30 #[.slice (some ⟨w.heap.size, 0, none⟩) 4 4, .slice (some ⟨w.heap.size + 1 + 1 + 1 + 1 + 1 + 1, 0, none⟩) 5 5, .slice (some ⟨w.heap.size + 1 + 1, 0, none⟩) 2 2, .int .i64 2] W (FPost W (1, 3))) := Lib.hid fun W h => find_any LVK _ _ _ 4 4 5 5 2 2 2 lvW [0, 1] _ lvk_f2.symm W h.al h.ws h.d1
  have HF4 : Hid (∀ W, LvS w W → Calls Try.prog 30 #[.slice (some ⟨w.heap.size, 0, none⟩) 4 4, .slice (some ⟨w.heap.size + 1 + 1 + 1 + 1 + 1 + 1, 0, none⟩) 5 5, .slice (some ⟨w.heap.size + 1 + 1, 0, none⟩) 2 2, .int .i64 4] W (FPost W (1, 2))) := Lib.hid fun W h => find_any LVK _ _ _ 4 4 5 5 2 2 4 lvW [0, 1] _ lvk_f4.symm W h.al h.ws h.d1
  have HKE : Hid (∀ W, LvS w W → Calls Try.prog 18 #[.slice (some ⟨w.heap.size, 0, none⟩) 4 4, .slice (some ⟨w.heap.size + 1 + 1 + 1, 0, none⟩) 2 2] W (LPost W [1, 2, 0, 1, 1, 0, 2, 1, 0, 4, 2])) := Lib.hid fun W h => key_any LVK _ _ 4 4 2 2 [3, 1] _ lvk_key.symm W h.al h.d2
  have HSI1 : Hid (∀ A c W, Rd W A (iv [1, 2, 0, 1, 1, 0, 2, 1, 0, 4, 2]) → Calls Try.prog 17 #[.slice A 11 c, .slice (some ⟨W.heap.size, 0, none⟩) 11 11] (W.alloc (.cells #[.int .i64 1, .int .i64 2, .int .i64 0, .int .i64 1, .int .i64 1, .int .i64 0, .int .i64 2, .int .i64 1, .int .i64 0, .int .i64 4, .int .i64 2] 3)) (BoolB (W.alloc (.cells #[.int .i64 1, .int .i64 2, .int .i64 0, .int .i64 1, .int .i64 1, .int .i64 0, .int .i64 2, .int .i64 1, .int .i64 0, .int .i64 4, .int .i64 2] 3)) true)) := Lib.hid fun A c W h => same_any _ _ A _ 11 11 c 11 rfl rfl (by unfold maxLen; omega) true (by rw [decide_eq_true rfl]) _ (h.alloc _) (blk_rd (Blk.at W (iv [1, 2, 0, 1, 1, 0, 2, 1, 0, 4, 2]) _ 3 _ rfl rfl))
  have HS1 : Hid (∀ W, LvS w W → Calls Try.prog 25 #[.slice (some ⟨w.heap.size, 0, none⟩) 4 4, .slice (some ⟨w.heap.size + 1 + 1 + 1, 0, none⟩) 2 2, .slice (some ⟨w.heap.size + 1 + 1 + 1 + 1, 0, none⟩) 2 2, .int .i64 1] W fun e w' => e = .returned (.bool true) ∧ LvS w w' ∧ Below W.heap.size W w') := Lib.hid fun W h => (same_any' LVK _ _ _ 4 4 2 2 2 2 1 _ _ true lvk_s1.symm W h.al h.d2 h.d3).mono fun e w' hp => ⟨hp.1, h.below hp.2, hp.2⟩
  have HS2 : Hid (∀ W, LvS w W → Calls Try.prog 25 #[.slice (some ⟨w.heap.size, 0, none⟩) 4 4, .slice (some ⟨w.heap.size + 1 + 1, 0, none⟩) 2 2, .slice (some ⟨w.heap.size + 1 + 1 + 1, 0, none⟩) 2 2, .int .i64 2] W fun e w' => e = .returned (.bool true) ∧ LvS w w' ∧ Below W.heap.size W w') := Lib.hid fun W h => (same_any' LVK _ _ _ 4 4 2 2 2 2 2 _ _ true lvk_s2.symm W h.al h.d1 h.d2).mono fun e w' hp => ⟨hp.1, h.below hp.2, hp.2⟩
  have HS3 : Hid (∀ W, LvS w W → Calls Try.prog 25 #[.slice (some ⟨w.heap.size, 0, none⟩) 4 4, .slice (some ⟨w.heap.size + 1 + 1, 0, none⟩) 2 2, .slice (some ⟨w.heap.size + 1 + 1 + 1, 0, none⟩) 2 2, .int .i64 3] W fun e w' => e = .returned (.bool false) ∧ LvS w w' ∧ Below W.heap.size W w') := Lib.hid fun W h => (same_any' LVK _ _ _ 4 4 2 2 2 2 3 _ _ false lvk_s3.symm W h.al h.d1 h.d2).mono fun e w' hp => ⟨hp.1, h.below hp.2, hp.2⟩
  have HSO : Hid (∀ W, LvS w W → Calls Try.prog 28 #[.slice (some ⟨w.heap.size, 0, none⟩) 4 4, .slice (some ⟨w.heap.size + 1 + 1 + 1 + 1 + 1 + 1 + 1 + 1 + 1 + 1 + 1 + 1, 0, none⟩) 5 5] W (SoPost W LVK lvT)) := Lib.hid fun W h => sort_yes LVK lvk_val _ _ 4 4 5 5 lvT W h.al h.ts
  have HSI : Hid (∀ A c g W, Rd W A (iv [4, 3, 2, 1, 0]) → Blk W g (iv [4, 3, 2, 1, 0]) 3 → Calls Try.prog 17 #[.slice A 5 c, .slice (some ⟨g, 0, none⟩) 5 5] W (BoolB W true)) := Lib.hid fun A c g W h1 h2 => same_any _ _ A _ 5 5 c 5 rfl rfl (by unfold maxLen; omega) true (by rw [decide_eq_true rfl]) W h1 (blk_rd h2)
  have HSE : Hid (∀ W, LvS w W → Calls Try.prog 21 #[.slice (some ⟨w.heap.size, 0, none⟩) 4 4, .slice (some ⟨w.heap.size + 1 + 1 + 1 + 1, 0, none⟩) 2 2] W (IPost W 0)) := Lib.hid fun W h => section_any LVK _ _ 4 4 2 2 [2, 1] _ lvk_e1.symm W h.al h.d3
  have HSN : Hid (∀ W, LvS w W → Calls Try.prog 21 #[.slice (some ⟨w.heap.size, 0, none⟩) 4 4, .slice none 0 0] W (IPost W (-1))) := Lib.hid fun W h => section_any LVK _ _ 4 4 0 0 [] _ lvk_e2.symm W h.al (wdr_nil W)
  have HCO : Hid (∀ W, LvS w W → Calls Try.prog 23 #[.slice (some ⟨w.heap.size, 0, none⟩) 4 4, .slice (some ⟨w.heap.size + 1 + 1 + 1, 0, none⟩) 2 2, .slice (some ⟨w.heap.size + 1 + 1 + 1 + 1, 0, none⟩) 2 2] W (IPost W (-1))) := Lib.hid fun W h => compare_any LVK _ _ _ 4 4 2 2 2 2 [3, 1] [2, 1] _ lvk_c.symm W h.al h.d2 h.d3
  have k1 := H0.out.1.c1
  go_enter Try.func20, Try.ntmps20
  go_wp2_with (first
    | ((with_reducible refine (HF1.out _ H0.out.1).mono ?_); rintro e w1 hp; obtain ⟨rfl, hb⟩ := f_out hp; have HX1 : Hid (LvS w w1 ∧ Below w.heap.size w w1) := Lib.hid ⟨LvS.below H0.out.1 hb, below_next H0.out.2 hb⟩; have c1 := HX1.out.1.c1; have c2 := HX1.out.1.c2; clear hp hb)
    | ((with_reducible refine (HF2.out _ HX1.out.1).mono ?_); rintro e w2 hp; obtain ⟨rfl, hb⟩ := f_out hp; have HX2 : Hid (LvS w w2 ∧ Below w.heap.size w w2) := Lib.hid ⟨LvS.below HX1.out.1 hb, below_next HX1.out.2 hb⟩; have c1 := HX2.out.1.c1; have c2 := HX2.out.1.c2; clear hp hb)
    | ((with_reducible refine (HF4.out _ HX2.out.1).mono ?_); rintro e w3 hp; obtain ⟨rfl, hb⟩ := f_out hp; have HX3 : Hid (LvS w w3 ∧ Below w.heap.size w w3) := Lib.hid ⟨LvS.below HX2.out.1 hb, below_next HX2.out.2 hb⟩; have c1 := HX3.out.1.c1; have c2 := HX3.out.1.c2; clear hp hb)
    | ((with_reducible refine (HKE.out _ HX3.out.1).mono ?_); rintro e w4 hp; obtain ⟨A4, c4, n4, rfl, hn4, hrd, h3, h4, hb⟩ := l_out hp; have hn4' : n4 = 11 := hn4; subst hn4'; have HX4 : Hid (LvS w w4 ∧ Below w.heap.size w w4 ∧ Rd w4 A4 (iv [1, 2, 0, 1, 1, 0, 2, 1, 0, 4, 2])) := Lib.hid ⟨HX3.out.1.below hb, below_next HX3.out.2 hb, hrd⟩; clear hp hn4 hrd h3 h4 hb)
    | ((with_reducible refine (HSI1.out _ _ _ HX4.out.2.2).mono ?_); rintro e w5 hp; obtain ⟨rfl, hb⟩ := boolb_out hp; have HX5 : Hid (LvS w w5 ∧ Below w.heap.size w w5) := Lib.hid ⟨(HX4.out.1.below (below_a1 _ _)).below hb, below_next (below_al HX4.out.2.1 _) hb⟩; clear hp hb))
  haveI : Nonempty (Wo (LvT w)) := ⟨⟨w5, HX5.out⟩⟩
  have l1 : ∀ p : Wo (LvT w), p.wo.cell? ⟨w.heap.size + 1 + 1 + 1 + 1 + 1 + 1, 1, none⟩ = some (.slice (some ⟨w.heap.size + 1 + 1, 0, none⟩) 2 2) := fun p => p.ok.1.c1
  have l2 : ∀ p : Wo (LvT w), p.wo.cell? ⟨w.heap.size + 1 + 1 + 1 + 1 + 1 + 1, 2, none⟩ = some (.slice (some ⟨w.heap.size + 1 + 1 + 1, 0, none⟩) 2 2) := fun p => p.ok.1.c2
  have l3 : ∀ p : Wo (LvT w), p.wo.cell? ⟨w.heap.size + 1 + 1 + 1 + 1 + 1 + 1, 3, none⟩ = some (.slice (some ⟨w.heap.size + 1 + 1 + 1 + 1, 0, none⟩) 2 2) := fun p => p.ok.1.c3
  have HT1 : Hid (∀ W, LvT w W → Calls Try.prog 25 #[.slice (some ⟨w.heap.size, 0, none⟩) 4 4, .slice (some ⟨w.heap.size + 1 + 1 + 1, 0, none⟩) 2 2, .slice (some ⟨w.heap.size + 1 + 1 + 1 + 1, 0, none⟩) 2 2, .int .i64 1] W fun e w' => e = .returned (.bool true) ∧ LvT w w') := Lib.hid fun W h => (HS1.out W h.1).mono fun e w' hp => ⟨hp.1, hp.2.1, below_next h.2 hp.2.2⟩
  have HT2 : Hid (∀ W, LvT w W → Calls Try.prog 25 #[.slice (some ⟨w.heap.size, 0, none⟩) 4 4, .slice (some ⟨w.heap.size + 1 + 1, 0, none⟩) 2 2, .slice (some ⟨w.heap.size + 1 + 1 + 1, 0, none⟩) 2 2, .int .i64 2] W fun e w' => e = .returned (.bool true) ∧ LvT w w') := Lib.hid fun W h => (HS2.out W h.1).mono fun e w' hp => ⟨hp.1, hp.2.1, below_next h.2 hp.2.2⟩
  have HT3 : Hid (∀ W, LvT w W → Calls Try.prog 25 #[.slice (some ⟨w.heap.size, 0, none⟩) 4 4, .slice (some ⟨w.heap.size + 1 + 1, 0, none⟩) 2 2, .slice (some ⟨w.heap.size + 1 + 1 + 1, 0, none⟩) 2 2, .int .i64 3] W fun e w' => e = .returned (.bool false) ∧ LvT w w') := Lib.hid fun W h => (HS3.out W h.1).mono fun e w' hp => ⟨hp.1, hp.2.1, below_next h.2 hp.2.2⟩
  clear H0 HF1 HF2 HF4 HKE HSI1 HS1 HS2 HS3 HX1 HX2 HX3 HX4 k1
  refine wp_region_wo (LvT w) mixedTry (by kernel_rfl) ⟨LvS.below HX5.out.1 (below_drewN (Below.refl _ _) 1), below_drewN HX5.out.2 1⟩ ?_
  iterate 8 (quiet_step ((go_at_call 25; exact calls_wo HT1.out _)))
  iterate 9 (quiet_step ((go_at_call 25; exact calls_wo HT2.out _)))
  repeat (quiet_step ((go_at_call 25; exact calls_wo HT3.out _)))
  refine wpQuiet_nil ?_
  intro w6 hw6
  obtain ⟨⟨w6', hok⟩, hw7⟩ := hw6
  have hw8 : w6 = w6' := hw7
  subst hw8
  have HX6 := Lib.hid hok
  clear hw7 hok l1 l2 l3
  go_wp2_with fail
  refine wp_region_held_drew (S := fun w' => w'.cell? ⟨w.heap.size + 1 + 1 + 1 + 1 + 1 + 1, 2, none⟩ = some (.slice (some ⟨w.heap.size + 1 + 1 + 1, 0, none⟩) 2 2) ∧ w'.cell? ⟨w.heap.size + 1 + 1 + 1 + 1 + 1 + 1, 3, none⟩ = some (.slice (some ⟨w.heap.size + 1 + 1 + 1 + 1, 0, none⟩) 2 2)) (by kernel_rfl) (⟨HX6.out.1.c2, HX6.out.1.c3⟩) (fun hS0 => ?_)
  refine wpAnyH_take (i := 0) (oi := { dst := some 115, op := Op.move (Operand.tmp 10), type := 4, pos := "law.go:25", after := #[], guard := none }) (v := ?_) rfl (by kernel_rfl) (by kernel_rfl) (by kernel_rfl) (fun _ _ _ h => h) (Or.inl ⟨by rfl, ?_⟩) (by assumption) ?_
  rotate_left
  · (intro w' hSw; (try dsimp only at hSw); go_simp; try with_reducible rfl)
  try simp only [Act.put, List.setIfInBounds_toArray, List.set_cons_zero, List.set_cons_succ]
  refine wpAnyH_take (i := 1) (oi := { dst := some 116, op := Op.move (Operand.tmp 115), type := 4, pos := "law.go:25", after := #[{ on := 0, ground := Ground.data }], guard := none }) (v := ?_) rfl (by kernel_rfl) (by kernel_rfl) (by kernel_rfl) (fun _ _ _ h => h) (Or.inl ⟨by rfl, ?_⟩) (by assumption) ?_
  rotate_left
  · (intro w' hSw; (try dsimp only at hSw); go_simp; try with_reducible rfl)
  try simp only [Act.put, List.setIfInBounds_toArray, List.set_cons_zero, List.set_cons_succ]
  refine wpAnyH_take (i := 2) (oi := { dst := some 117, op := Op.move (Operand.tmp 11), type := 4, pos := "law.go:25", after := #[{ on := 1, ground := Ground.guard }], guard := some (1, true) }) (v := ?_) rfl (by kernel_rfl) (by kernel_rfl) (by kernel_rfl) (fun _ _ _ h => h) (Or.inl ⟨by rfl, ?_⟩) (by assumption) ?_
  rotate_left
  · (intro w' hSw; (try dsimp only at hSw); go_simp; try with_reducible rfl)
  try simp only [Act.put, List.setIfInBounds_toArray, List.set_cons_zero, List.set_cons_succ]
  refine wpAnyH_take (i := 3) (oi := { dst := some 118, op := Op.pick (Operand.tmp 116) (Operand.tmp 117) (Operand.const (Value.bool false)), type := 4, pos := "law.go:25", after := #[{ on := 1, ground := Ground.data }, { on := 2, ground := Ground.data }], guard := none }) (v := ?_) rfl (by kernel_rfl) (by kernel_rfl) (by kernel_rfl) (fun _ _ _ h => h) (Or.inl ⟨by rfl, ?_⟩) (by assumption) ?_
  rotate_left
  · (intro w' hSw; (try dsimp only at hSw); go_simp; try with_reducible rfl)
  try simp only [Act.put, List.setIfInBounds_toArray, List.set_cons_zero, List.set_cons_succ]
  refine wpAnyH_take (i := 4) (oi := { dst := some 119, op := Op.move (Operand.tmp 118), type := 4, pos := "law.go:25", after := #[{ on := 3, ground := Ground.data }, { on := 1, ground := Ground.chain }], guard := none }) (v := ?_) rfl (by kernel_rfl) (by kernel_rfl) (by kernel_rfl) (fun _ _ _ h => h) (Or.inl ⟨by rfl, ?_⟩) (by assumption) ?_
  rotate_left
  · (intro w' hSw; (try dsimp only at hSw); go_simp; try with_reducible rfl)
  try simp only [Act.put, List.setIfInBounds_toArray, List.set_cons_zero, List.set_cons_succ]
  refine wpAnyH_take (i := 5) (oi := { dst := some 120, op := Op.move (Operand.tmp 12), type := 4, pos := "law.go:25", after := #[{ on := 4, ground := Ground.guard }], guard := some (4, true) }) (v := ?_) rfl (by kernel_rfl) (by kernel_rfl) (by kernel_rfl) (fun _ _ _ h => h) (Or.inl ⟨by rfl, ?_⟩) (by assumption) ?_
  rotate_left
  · (intro w' hSw; (try dsimp only at hSw); go_simp; try with_reducible rfl)
  try simp only [Act.put, List.setIfInBounds_toArray, List.set_cons_zero, List.set_cons_succ]
  refine wpAnyH_take (i := 6) (oi := { dst := some 121, op := Op.pick (Operand.tmp 119) (Operand.tmp 120) (Operand.const (Value.bool false)), type := 4, pos := "law.go:25", after := #[{ on := 4, ground := Ground.data }, { on := 5, ground := Ground.data }], guard := none }) (v := ?_) rfl (by kernel_rfl) (by kernel_rfl) (by kernel_rfl) (fun _ _ _ h => h) (Or.inl ⟨by rfl, ?_⟩) (by assumption) ?_
  rotate_left
  · (intro w' hSw; (try dsimp only at hSw); go_simp; try with_reducible rfl)
  try simp only [Act.put, List.setIfInBounds_toArray, List.set_cons_zero, List.set_cons_succ]
  refine wpAnyH_take (i := 7) (oi := { dst := some 122, op := Op.move (Operand.tmp 121), type := 4, pos := "law.go:25", after := #[{ on := 6, ground := Ground.data }, { on := 4, ground := Ground.chain }], guard := none }) (v := ?_) rfl (by kernel_rfl) (by kernel_rfl) (by kernel_rfl) (fun _ _ _ h => h) (Or.inl ⟨by rfl, ?_⟩) (by assumption) ?_
  rotate_left
  · (intro w' hSw; (try dsimp only at hSw); go_simp; try with_reducible rfl)
  try simp only [Act.put, List.setIfInBounds_toArray, List.set_cons_zero, List.set_cons_succ]
  refine wpAnyH_take (i := 8) (oi := { dst := some 123, op := Op.move (Operand.tmp 1), type := 24, pos := "law.go:25", after := #[{ on := 7, ground := Ground.guard }], guard := some (7, true) }) (v := ?_) rfl (by kernel_rfl) (by kernel_rfl) (by kernel_rfl) (fun _ _ _ h => h) (Or.inl ⟨by rfl, ?_⟩) (by assumption) ?_
  rotate_left
  · (intro w' hSw; (try dsimp only at hSw); go_simp; try with_reducible rfl)
  try simp only [Act.put, List.setIfInBounds_toArray, List.set_cons_zero, List.set_cons_succ]
  refine wpAnyH_take (i := 9) (oi := { dst := some 124, op := Op.move (Operand.tmp 3), type := 23, pos := "law.go:25", after := #[{ on := 7, ground := Ground.guard }], guard := some (7, true) }) (v := ?_) rfl (by kernel_rfl) (by kernel_rfl) (by kernel_rfl) (fun _ _ _ h => h) (Or.inl ⟨by rfl, ?_⟩) (by assumption) ?_
  rotate_left
  · (intro w' hSw; (try dsimp only at hSw); go_simp; try with_reducible rfl)
  try simp only [Act.put, List.setIfInBounds_toArray, List.set_cons_zero, List.set_cons_succ]
  refine wpAnyH_ready (rs := [10, 11]) (by kernel_rfl) (by simp) ?_
  refine AllReadyH.cons (o := { dst := some 125, op := Op.call { callee := Callee.value (Operand.func 28), args := #[Operand.tmp 123, Operand.tmp 124], argTypes := #[24, 23] }, type := 22, pos := "law.go:25", after := #[{ on := 8, ground := Ground.data }, { on := 9, ground := Ground.data }, { on := 7, ground := Ground.chain }, { on := 7, ground := Ground.guard }], guard := some (7, true) }) rfl (fun K hK => ?_) (AllReadyH.cons (o := { dst := some 126, op := Op.buildSlice 22 5 #[(0, Operand.const (Value.int IntKind.i64 4)), (1, Operand.const (Value.int IntKind.i64 3)), (2, Operand.const (Value.int IntKind.i64 2)), (3, Operand.const (Value.int IntKind.i64 1)), (4, Operand.const (Value.int IntKind.i64 0))], type := 22, pos := "law.go:25", after := #[{ on := 7, ground := Ground.guard }], guard := some (7, true) }) rfl (fun K hK => ?_) AllReadyH.nil)
  · go_simp
    go_at_call 28
    refine (HSO.out _ (HX6.out.1.below (below_drewN (Below.refl _ _) 1))).mono ?_
    rintro e x10 hp
    obtain ⟨d, A9, n9, c9, rfl, hn9, hp1, hp2, hrd, h3, h4, hb⟩ := so_out hp
    have hn9' : n9 = 5 := hn9
    subst hn9'
    obtain rfl := lvk_sort hp1 hp2
    have HY1 : Hid (LvS w x10 ∧ Below w.heap.size w x10 ∧ Rd x10 A9 (iv [4, 3, 2, 1, 0])) := Lib.hid ⟨(HX6.out.1.below (below_next (w0 := w6) (below_drewN (Below.refl _ _) 1) hb)), below_next (below_drewN HX6.out.2 1) hb, hrd⟩
    clear hp hp1 hp2 hrd h3 h4 hb hn9
    refine hK.out _ _ ⟨HY1.out.1.c2, HY1.out.1.c3⟩ (fun hS10 => ?_)
    clear hK K hS0
    try simp only [Act.put, List.setIfInBounds_toArray, List.set_cons_zero, List.set_cons_succ]
    refine wpAnyH_ready (rs := [11]) (by kernel_rfl) (by simp) ?_
    refine AllReadyH.cons (o := { dst := some 126, op := Op.buildSlice 22 5 #[(0, Operand.const (Value.int IntKind.i64 4)), (1, Operand.const (Value.int IntKind.i64 3)), (2, Operand.const (Value.int IntKind.i64 2)), (3, Operand.const (Value.int IntKind.i64 1)), (4, Operand.const (Value.int IntKind.i64 0))], type := 22, pos := "law.go:25", after := #[{ on := 7, ground := Ground.guard }], guard := some (7, true) }) rfl (fun K hK => ?_) AllReadyH.nil
    go_simp
    have HY2 : Hid (LvS w (x10.alloc (.cells #[.int .i64 4, .int .i64 3, .int .i64 2, .int .i64 1, .int .i64 0] 3)) ∧ Below w.heap.size w (x10.alloc (.cells #[.int .i64 4, .int .i64 3, .int .i64 2, .int .i64 1, .int .i64 0] 3)) ∧ Rd (x10.alloc (.cells #[.int .i64 4, .int .i64 3, .int .i64 2, .int .i64 1, .int .i64 0] 3)) A9 (iv [4, 3, 2, 1, 0]) ∧ Blk (x10.alloc (.cells #[.int .i64 4, .int .i64 3, .int .i64 2, .int .i64 1, .int .i64 0] 3)) x10.heap.size (iv [4, 3, 2, 1, 0]) 3) := Lib.hid ⟨HY1.out.1.below (below_a1 _ _), below_al HY1.out.2.1 _, HY1.out.2.2.alloc _, Blk.at x10 (iv [4, 3, 2, 1, 0]) _ 3 _ rfl rfl⟩
    refine hK.out _ _ ⟨HY2.out.1.c2, HY2.out.1.c3⟩ (fun hS11 => ?_)
    clear hK K hS10
    try simp only [Act.put, List.setIfInBounds_toArray, List.set_cons_zero, List.set_cons_succ]
    refine wpAnyH_ready (rs := [12]) (by kernel_rfl) (by simp) ?_
    refine AllReadyH.cons (o := { dst := some 127, op := Op.call { callee := Callee.value (Operand.func 17), args := #[Operand.tmp 125, Operand.tmp 126], argTypes := #[22, 22] }, type := 4, pos := "law.go:25", after := #[{ on := 10, ground := Ground.data }, { on := 11, ground := Ground.data }, { on := 10, ground := Ground.chain }, { on := 7, ground := Ground.guard }], guard := some (7, true) }) rfl (fun K hK => ?_) AllReadyH.nil
    go_simp
    go_at_call 17
    refine (HSI.out _ _ _ _ HY2.out.2.2.1 HY2.out.2.2.2).mono ?_
    rintro e x12 hp
    obtain ⟨rfl, hb⟩ := boolb_out hp
    have HZ1 : Hid (LvS w x12 ∧ Below w.heap.size w x12) := Lib.hid ⟨HY2.out.1.below hb, below_next HY2.out.2.1 hb⟩
    clear hp hb
    refine hK.out _ _ ⟨HZ1.out.1.c2, HZ1.out.1.c3⟩ (fun hS12 => ?_)
    clear hK K
    try simp only [Act.put, List.setIfInBounds_toArray, List.set_cons_zero, List.set_cons_succ]
    refine wpAnyH_take (i := 13) (oi := { dst := some 128, op := Op.pick (Operand.tmp 122) (Operand.tmp 127) (Operand.const (Value.bool false)), type := 4, pos := "law.go:25", after := #[{ on := 7, ground := Ground.data }, { on := 12, ground := Ground.data }], guard := none }) (v := ?_) rfl (by kernel_rfl) (by kernel_rfl) (by kernel_rfl) (fun _ _ _ h => h) (Or.inl ⟨by rfl, ?_⟩) (by assumption) ?_
    rotate_left
    · (intro w' hSw; (try dsimp only at hSw); go_simp; try with_reducible rfl)
    try simp only [Act.put, List.setIfInBounds_toArray, List.set_cons_zero, List.set_cons_succ]
    refine wpAnyH_take (i := 14) (oi := { dst := some 129, op := Op.move (Operand.tmp 128), type := 4, pos := "law.go:25", after := #[{ on := 13, ground := Ground.data }, { on := 12, ground := Ground.chain }], guard := none }) (v := ?_) rfl (by kernel_rfl) (by kernel_rfl) (by kernel_rfl) (fun _ _ _ h => h) (Or.inl ⟨by rfl, ?_⟩) (by assumption) ?_
    rotate_left
    · (intro w' hSw; (try dsimp only at hSw); go_simp; try with_reducible rfl)
    try simp only [Act.put, List.setIfInBounds_toArray, List.set_cons_zero, List.set_cons_succ]
    refine wpAnyH_take (i := 15) (oi := { dst := some 130, op := Op.move (Operand.tmp 1), type := 24, pos := "law.go:25", after := #[{ on := 14, ground := Ground.guard }], guard := some (14, true) }) (v := ?_) rfl (by kernel_rfl) (by kernel_rfl) (by kernel_rfl) (fun _ _ _ h => h) (Or.inl ⟨by rfl, ?_⟩) (by assumption) ?_
    rotate_left
    · (intro w' hSw; (try dsimp only at hSw); go_simp; try with_reducible rfl)
    try simp only [Act.put, List.setIfInBounds_toArray, List.set_cons_zero, List.set_cons_succ]
    refine wpAnyH_take (i := 16) (oi := { dst := some 131, op := Op.move (Operand.tmp 2), type := 23, pos := "law.go:25", after := #[{ on := 14, ground := Ground.guard }], guard := some (14, true) }) (v := ?_) rfl (by kernel_rfl) (by kernel_rfl) (by kernel_rfl) (fun _ _ _ h => h) (Or.inl ⟨by rfl, ?_⟩) (by assumption) ?_
    rotate_left
    · (intro w' hSw; (try dsimp only at hSw); go_simp; try with_reducible rfl)
    try simp only [Act.put, List.setIfInBounds_toArray, List.set_cons_zero, List.set_cons_succ]
    refine wpAnyH_take (i := 17) (oi := { dst := some 132, op := Op.indexAddr 23 (Operand.tmp 131) (Operand.const (Value.int IntKind.i64 3)), type := 0, pos := "law.go:25", after := #[{ on := 16, ground := Ground.data }, { on := 14, ground := Ground.guard }], guard := some (14, true) }) (v := ?_) rfl (by kernel_rfl) (by kernel_rfl) (by kernel_rfl) (fun _ _ _ h => h) (Or.inl ⟨by rfl, ?_⟩) (by assumption) ?_
    rotate_left
    · (intro w' hSw; (try dsimp only at hSw); go_simp; try with_reducible rfl)
    try simp only [Act.put, List.setIfInBounds_toArray, List.set_cons_zero, List.set_cons_succ]
    refine wpAnyH_take (i := 18) (oi := { dst := some 133, op := Op.load 22 (Operand.tmp 132), type := 22, pos := "law.go:25", after := #[{ on := 17, ground := Ground.data }, { on := 14, ground := Ground.guard }], guard := some (14, true) }) (v := ?_) rfl (by kernel_rfl) (by kernel_rfl) (by kernel_rfl) (fun _ _ _ h => h) (Or.inl ⟨by rfl, ?_⟩) (by assumption) ?_
    rotate_left
    · (intro w' hSw; (try dsimp only at hSw); go_simp; try with_reducible rfl)
    try simp only [Act.put, List.setIfInBounds_toArray, List.set_cons_zero, List.set_cons_succ]
    refine wpAnyH_ready (rs := [19]) (by kernel_rfl) (by simp) ?_
    refine AllReadyH.cons (o := { dst := some 134, op := Op.call { callee := Callee.value (Operand.func 21), args := #[Operand.tmp 130, Operand.tmp 133], argTypes := #[24, 22] }, type := 3, pos := "law.go:25", after := #[{ on := 15, ground := Ground.data }, { on := 18, ground := Ground.data }, { on := 14, ground := Ground.chain }, { on := 14, ground := Ground.guard }], guard := some (14, true) }) rfl (fun K hK => ?_) AllReadyH.nil
    go_simp
    go_at_call 21
    refine (HSE.out _ HZ1.out.1).mono ?_
    rintro e x19 hp
    obtain ⟨rfl, hb⟩ := i_out hp
    have HZ2 : Hid (LvS w x19 ∧ Below w.heap.size w x19) := Lib.hid ⟨HZ1.out.1.below hb, below_next HZ1.out.2 hb⟩
    clear hp hb
    refine hK.out _ _ ⟨HZ2.out.1.c2, HZ2.out.1.c3⟩ (fun hS19 => ?_)
    clear hK K hS12
    try simp only [Act.put, List.setIfInBounds_toArray, List.set_cons_zero, List.set_cons_succ]
    refine wpAnyH_take (i := 20) (oi := { dst := some 135, op := Op.binOp BinOp.eql 3 (Operand.tmp 134) (Operand.const (Value.int IntKind.i64 0)) 3, type := 4, pos := "law.go:25", after := #[{ on := 19, ground := Ground.data }, { on := 14, ground := Ground.guard }], guard := some (14, true) }) (v := ?_) rfl (by kernel_rfl) (by kernel_rfl) (by kernel_rfl) (fun _ _ _ h => h) (Or.inl ⟨by rfl, ?_⟩) (by assumption) ?_
    rotate_left
    · (intro w' hSw; (try dsimp only at hSw); go_simp; try with_reducible rfl)
    try simp only [Act.put, List.setIfInBounds_toArray, List.set_cons_zero, List.set_cons_succ]
    refine wpAnyH_take (i := 21) (oi := { dst := some 136, op := Op.pick (Operand.tmp 129) (Operand.tmp 135) (Operand.const (Value.bool false)), type := 4, pos := "law.go:25", after := #[{ on := 14, ground := Ground.data }, { on := 20, ground := Ground.data }], guard := none }) (v := ?_) rfl (by kernel_rfl) (by kernel_rfl) (by kernel_rfl) (fun _ _ _ h => h) (Or.inl ⟨by rfl, ?_⟩) (by assumption) ?_
    rotate_left
    · (intro w' hSw; (try dsimp only at hSw); go_simp; try with_reducible rfl)
    try simp only [Act.put, List.setIfInBounds_toArray, List.set_cons_zero, List.set_cons_succ]
    refine wpAnyH_take (i := 22) (oi := { dst := some 137, op := Op.move (Operand.tmp 136), type := 4, pos := "law.go:25", after := #[{ on := 21, ground := Ground.data }, { on := 19, ground := Ground.chain }], guard := none }) (v := ?_) rfl (by kernel_rfl) (by kernel_rfl) (by kernel_rfl) (fun _ _ _ h => h) (Or.inl ⟨by rfl, ?_⟩) (by assumption) ?_
    rotate_left
    · (intro w' hSw; (try dsimp only at hSw); go_simp; try with_reducible rfl)
    try simp only [Act.put, List.setIfInBounds_toArray, List.set_cons_zero, List.set_cons_succ]
    refine wpAnyH_take (i := 23) (oi := { dst := some 138, op := Op.move (Operand.tmp 1), type := 24, pos := "law.go:25", after := #[{ on := 22, ground := Ground.guard }], guard := some (22, true) }) (v := ?_) rfl (by kernel_rfl) (by kernel_rfl) (by kernel_rfl) (fun _ _ _ h => h) (Or.inl ⟨by rfl, ?_⟩) (by assumption) ?_
    rotate_left
    · (intro w' hSw; (try dsimp only at hSw); go_simp; try with_reducible rfl)
    try simp only [Act.put, List.setIfInBounds_toArray, List.set_cons_zero, List.set_cons_succ]
    refine wpAnyH_ready (rs := [24]) (by kernel_rfl) (by simp) ?_
    refine AllReadyH.cons (o := { dst := some 139, op := Op.call { callee := Callee.value (Operand.func 21), args := #[Operand.tmp 138, Operand.const (Value.slice none 0 0)], argTypes := #[24, 22] }, type := 3, pos := "law.go:25", after := #[{ on := 23, ground := Ground.data }, { on := 22, ground := Ground.chain }, { on := 22, ground := Ground.guard }], guard := some (22, true) }) rfl (fun K hK => ?_) AllReadyH.nil
    go_simp
    go_at_call 21
    refine (HSN.out _ HZ2.out.1).mono ?_
    rintro e x24 hp
    obtain ⟨rfl, hb⟩ := i_out hp
    have HZ3 : Hid (LvS w x24 ∧ Below w.heap.size w x24) := Lib.hid ⟨HZ2.out.1.below hb, below_next HZ2.out.2 hb⟩
    clear hp hb
    refine hK.out _ _ ⟨HZ3.out.1.c2, HZ3.out.1.c3⟩ (fun hS24 => ?_)
    clear hK K hS19
    try simp only [Act.put, List.setIfInBounds_toArray, List.set_cons_zero, List.set_cons_succ]
    refine wpAnyH_take (i := 25) (oi := { dst := some 140, op := Op.binOp BinOp.eql 3 (Operand.tmp 139) (Operand.const (Value.int IntKind.i64 (-1))) 3, type := 4, pos := "law.go:25", after := #[{ on := 24, ground := Ground.data }, { on := 22, ground := Ground.guard }], guard := some (22, true) }) (v := ?_) rfl (by kernel_rfl) (by kernel_rfl) (by kernel_rfl) (fun _ _ _ h => h) (Or.inl ⟨by rfl, ?_⟩) (by assumption) ?_
    rotate_left
    · (intro w' hSw; (try dsimp only at hSw); go_simp; try with_reducible rfl)
    try simp only [Act.put, List.setIfInBounds_toArray, List.set_cons_zero, List.set_cons_succ]
    refine wpAnyH_take (i := 26) (oi := { dst := some 141, op := Op.pick (Operand.tmp 137) (Operand.tmp 140) (Operand.const (Value.bool false)), type := 4, pos := "law.go:25", after := #[{ on := 22, ground := Ground.data }, { on := 25, ground := Ground.data }], guard := none }) (v := ?_) rfl (by kernel_rfl) (by kernel_rfl) (by kernel_rfl) (fun _ _ _ h => h) (Or.inl ⟨by rfl, ?_⟩) (by assumption) ?_
    rotate_left
    · (intro w' hSw; (try dsimp only at hSw); go_simp; try with_reducible rfl)
    try simp only [Act.put, List.setIfInBounds_toArray, List.set_cons_zero, List.set_cons_succ]
    refine wpAnyH_take (i := 27) (oi := { dst := some 142, op := Op.move (Operand.tmp 141), type := 4, pos := "law.go:25", after := #[{ on := 26, ground := Ground.data }, { on := 24, ground := Ground.chain }], guard := none }) (v := ?_) rfl (by kernel_rfl) (by kernel_rfl) (by kernel_rfl) (fun _ _ _ h => h) (Or.inl ⟨by rfl, ?_⟩) (by assumption) ?_
    rotate_left
    · (intro w' hSw; (try dsimp only at hSw); go_simp; try with_reducible rfl)
    try simp only [Act.put, List.setIfInBounds_toArray, List.set_cons_zero, List.set_cons_succ]
    refine wpAnyH_take (i := 28) (oi := { dst := some 143, op := Op.move (Operand.tmp 1), type := 24, pos := "law.go:25", after := #[{ on := 27, ground := Ground.guard }], guard := some (27, true) }) (v := ?_) rfl (by kernel_rfl) (by kernel_rfl) (by kernel_rfl) (fun _ _ _ h => h) (Or.inl ⟨by rfl, ?_⟩) (by assumption) ?_
    rotate_left
    · (intro w' hSw; (try dsimp only at hSw); go_simp; try with_reducible rfl)
    try simp only [Act.put, List.setIfInBounds_toArray, List.set_cons_zero, List.set_cons_succ]
    refine wpAnyH_take (i := 29) (oi := { dst := some 144, op := Op.move (Operand.tmp 2), type := 23, pos := "law.go:25", after := #[{ on := 27, ground := Ground.guard }], guard := some (27, true) }) (v := ?_) rfl (by kernel_rfl) (by kernel_rfl) (by kernel_rfl) (fun _ _ _ h => h) (Or.inl ⟨by rfl, ?_⟩) (by assumption) ?_
    rotate_left
    · (intro w' hSw; (try dsimp only at hSw); go_simp; try with_reducible rfl)
    try simp only [Act.put, List.setIfInBounds_toArray, List.set_cons_zero, List.set_cons_succ]
    refine wpAnyH_take (i := 30) (oi := { dst := some 145, op := Op.indexAddr 23 (Operand.tmp 144) (Operand.const (Value.int IntKind.i64 2)), type := 0, pos := "law.go:25", after := #[{ on := 29, ground := Ground.data }, { on := 27, ground := Ground.guard }], guard := some (27, true) }) (v := ?_) rfl (by kernel_rfl) (by kernel_rfl) (by kernel_rfl) (fun _ _ _ h => h) (Or.inl ⟨by rfl, ?_⟩) (by assumption) ?_
    rotate_left
    · (intro w' hSw; (try dsimp only at hSw); go_simp; try with_reducible rfl)
    try simp only [Act.put, List.setIfInBounds_toArray, List.set_cons_zero, List.set_cons_succ]
    refine wpAnyH_take (i := 31) (oi := { dst := some 146, op := Op.load 22 (Operand.tmp 145), type := 22, pos := "law.go:25", after := #[{ on := 30, ground := Ground.data }, { on := 27, ground := Ground.guard }], guard := some (27, true) }) (v := ?_) rfl (by kernel_rfl) (by kernel_rfl) (by kernel_rfl) (fun _ _ _ h => h) (Or.inl ⟨by rfl, ?_⟩) (by assumption) ?_
    rotate_left
    · (intro w' hSw; (try dsimp only at hSw); go_simp; try with_reducible rfl)
    try simp only [Act.put, List.setIfInBounds_toArray, List.set_cons_zero, List.set_cons_succ]
    refine wpAnyH_take (i := 32) (oi := { dst := some 147, op := Op.move (Operand.tmp 2), type := 23, pos := "law.go:25", after := #[{ on := 27, ground := Ground.guard }], guard := some (27, true) }) (v := ?_) rfl (by kernel_rfl) (by kernel_rfl) (by kernel_rfl) (fun _ _ _ h => h) (Or.inl ⟨by rfl, ?_⟩) (by assumption) ?_
    rotate_left
    · (intro w' hSw; (try dsimp only at hSw); go_simp; try with_reducible rfl)
    try simp only [Act.put, List.setIfInBounds_toArray, List.set_cons_zero, List.set_cons_succ]
    refine wpAnyH_take (i := 33) (oi := { dst := some 148, op := Op.indexAddr 23 (Operand.tmp 147) (Operand.const (Value.int IntKind.i64 3)), type := 0, pos := "law.go:25", after := #[{ on := 32, ground := Ground.data }, { on := 27, ground := Ground.guard }], guard := some (27, true) }) (v := ?_) rfl (by kernel_rfl) (by kernel_rfl) (by kernel_rfl) (fun _ _ _ h => h) (Or.inl ⟨by rfl, ?_⟩) (by assumption) ?_
    rotate_left
    · (intro w' hSw; (try dsimp only at hSw); go_simp; try with_reducible rfl)
    try simp only [Act.put, List.setIfInBounds_toArray, List.set_cons_zero, List.set_cons_succ]
    refine wpAnyH_take (i := 34) (oi := { dst := some 149, op := Op.load 22 (Operand.tmp 148), type := 22, pos := "law.go:25", after := #[{ on := 33, ground := Ground.data }, { on := 27, ground := Ground.guard }], guard := some (27, true) }) (v := ?_) rfl (by kernel_rfl) (by kernel_rfl) (by kernel_rfl) (fun _ _ _ h => h) (Or.inl ⟨by rfl, ?_⟩) (by assumption) ?_
    rotate_left
    · (intro w' hSw; (try dsimp only at hSw); go_simp; try with_reducible rfl)
    try simp only [Act.put, List.setIfInBounds_toArray, List.set_cons_zero, List.set_cons_succ]
    refine wpAnyH_ready (rs := [35]) (by kernel_rfl) (by simp) ?_
    refine AllReadyH.cons (o := { dst := some 150, op := Op.call { callee := Callee.value (Operand.func 23), args := #[Operand.tmp 143, Operand.tmp 146, Operand.tmp 149], argTypes := #[24, 22, 22] }, type := 3, pos := "law.go:25", after := #[{ on := 28, ground := Ground.data }, { on := 31, ground := Ground.data }, { on := 34, ground := Ground.data }, { on := 27, ground := Ground.chain }, { on := 27, ground := Ground.guard }], guard := some (27, true) }) rfl (fun K hK => ?_) AllReadyH.nil
    go_simp
    go_at_call 23
    refine (HCO.out _ HZ3.out.1).mono ?_
    rintro e x35 hp
    obtain ⟨rfl, hb⟩ := i_out hp
    have HZ4 : Hid (LvS w x35 ∧ Below w.heap.size w x35) := Lib.hid ⟨HZ3.out.1.below hb, below_next HZ3.out.2 hb⟩
    clear hp hb
    refine hK.out _ _ ⟨HZ4.out.1.c2, HZ4.out.1.c3⟩ (fun hS35 => ?_)
    clear hK K hS24
    try simp only [Act.put, List.setIfInBounds_toArray, List.set_cons_zero, List.set_cons_succ]
    refine wpAnyH_take (i := 36) (oi := { dst := some 151, op := Op.binOp BinOp.eql 3 (Operand.tmp 150) (Operand.const (Value.int IntKind.i64 (-1))) 3, type := 4, pos := "law.go:25", after := #[{ on := 35, ground := Ground.data }, { on := 27, ground := Ground.guard }], guard := some (27, true) }) (v := ?_) rfl (by kernel_rfl) (by kernel_rfl) (by kernel_rfl) (fun _ _ _ h => h) (Or.inl ⟨by rfl, ?_⟩) (by assumption) ?_
    rotate_left
    · (intro w' hSw; (try dsimp only at hSw); go_simp; try with_reducible rfl)
    try simp only [Act.put, List.setIfInBounds_toArray, List.set_cons_zero, List.set_cons_succ]
    refine wpAnyH_take (i := 37) (oi := { dst := some 152, op := Op.pick (Operand.tmp 142) (Operand.tmp 151) (Operand.const (Value.bool false)), type := 4, pos := "law.go:25", after := #[{ on := 27, ground := Ground.data }, { on := 36, ground := Ground.data }], guard := none }) (v := ?_) rfl (by kernel_rfl) (by kernel_rfl) (by kernel_rfl) (fun _ _ _ h => h) (Or.inl ⟨by rfl, ?_⟩) (by assumption) ?_
    rotate_left
    · (intro w' hSw; (try dsimp only at hSw); go_simp; try with_reducible rfl)
    try simp only [Act.put, List.setIfInBounds_toArray, List.set_cons_zero, List.set_cons_succ]
    refine wpAnyH_take (i := 38) (oi := { dst := some 0, op := Op.assign (Operand.tmp 152), type := 4, pos := "law.go:25", after := #[{ on := 37, ground := Ground.data }, { on := 35, ground := Ground.chain }, { on := 0, ground := Ground.phase }, { on := 1, ground := Ground.phase }, { on := 2, ground := Ground.phase }, { on := 3, ground := Ground.phase }, { on := 4, ground := Ground.phase }, { on := 5, ground := Ground.phase }, { on := 6, ground := Ground.phase }, { on := 7, ground := Ground.phase }, { on := 8, ground := Ground.phase }, { on := 9, ground := Ground.phase }, { on := 10, ground := Ground.phase }, { on := 11, ground := Ground.phase }, { on := 12, ground := Ground.phase }, { on := 13, ground := Ground.phase }, { on := 14, ground := Ground.phase }, { on := 15, ground := Ground.phase }, { on := 16, ground := Ground.phase }, { on := 17, ground := Ground.phase }, { on := 18, ground := Ground.phase }, { on := 19, ground := Ground.phase }, { on := 20, ground := Ground.phase }, { on := 21, ground := Ground.phase }, { on := 22, ground := Ground.phase }, { on := 23, ground := Ground.phase }, { on := 24, ground := Ground.phase }, { on := 25, ground := Ground.phase }, { on := 26, ground := Ground.phase }, { on := 27, ground := Ground.phase }, { on := 28, ground := Ground.phase }, { on := 29, ground := Ground.phase }, { on := 30, ground := Ground.phase }, { on := 31, ground := Ground.phase }, { on := 32, ground := Ground.phase }, { on := 33, ground := Ground.phase }, { on := 34, ground := Ground.phase }, { on := 35, ground := Ground.phase }, { on := 36, ground := Ground.phase }, { on := 37, ground := Ground.phase }], guard := none }) (v := ?_) rfl (by kernel_rfl) (by kernel_rfl) (by kernel_rfl) (fun _ _ _ h => h) (Or.inl ⟨by rfl, ?_⟩) (by assumption) ?_
    rotate_left
    · (intro w' hSw; (try dsimp only at hSw); go_simp; try with_reducible rfl)
    try simp only [Act.put, List.setIfInBounds_toArray, List.set_cons_zero, List.set_cons_succ]
    refine wpAnyH_done (by kernel_rfl) ?_ _
    go_wp2_with fail
    go_ret
    exact ⟨rfl, HZ4.out.2⟩
  · go_simp
    have HY1 : Hid (LvS w (w6.drew.alloc (.cells #[.int .i64 4, .int .i64 3, .int .i64 2, .int .i64 1, .int .i64 0] 3)) ∧ Below w.heap.size w (w6.drew.alloc (.cells #[.int .i64 4, .int .i64 3, .int .i64 2, .int .i64 1, .int .i64 0] 3)) ∧ Blk (w6.drew.alloc (.cells #[.int .i64 4, .int .i64 3, .int .i64 2, .int .i64 1, .int .i64 0] 3)) w6.heap.size (iv [4, 3, 2, 1, 0]) 3) := Lib.hid ⟨HX6.out.1.below (below_next (w0 := w6) (below_drewN (Below.refl _ _) 1) (below_a1 _ _)), below_al (below_drewN HX6.out.2 1) _, Blk.at w6.drew (iv [4, 3, 2, 1, 0]) _ 3 _ rfl rfl⟩
    refine hK.out _ _ ⟨HY1.out.1.c2, HY1.out.1.c3⟩ (fun hS10 => ?_)
    clear hK K hS0
    try simp only [Act.put, List.setIfInBounds_toArray, List.set_cons_zero, List.set_cons_succ]
    refine wpAnyH_ready (rs := [10]) (by kernel_rfl) (by simp) ?_
    refine AllReadyH.cons (o := { dst := some 125, op := Op.call { callee := Callee.value (Operand.func 28), args := #[Operand.tmp 123, Operand.tmp 124], argTypes := #[24, 23] }, type := 22, pos := "law.go:25", after := #[{ on := 8, ground := Ground.data }, { on := 9, ground := Ground.data }, { on := 7, ground := Ground.chain }, { on := 7, ground := Ground.guard }], guard := some (7, true) }) rfl (fun K hK => ?_) AllReadyH.nil
    go_simp
    go_at_call 28
    refine (HSO.out _ HY1.out.1).mono ?_
    rintro e x10 hp
    obtain ⟨d, A9, n9, c9, rfl, hn9, hp1, hp2, hrd, h3, h4, hb⟩ := so_out hp
    have hn9' : n9 = 5 := hn9
    subst hn9'
    obtain rfl := lvk_sort hp1 hp2
    have HY2 : Hid (LvS w x10 ∧ Below w.heap.size w x10 ∧ Rd x10 A9 (iv [4, 3, 2, 1, 0]) ∧ Blk x10 w6.heap.size (iv [4, 3, 2, 1, 0]) 3) := Lib.hid ⟨HY1.out.1.below hb, below_next HY1.out.2.1 hb, hrd, HY1.out.2.2.below hb HY1.out.2.2.lt⟩
    clear hp hp1 hp2 hrd h3 h4 hb hn9
    refine hK.out _ _ ⟨HY2.out.1.c2, HY2.out.1.c3⟩ (fun hS11 => ?_)
    clear hK K hS10
    try simp only [Act.put, List.setIfInBounds_toArray, List.set_cons_zero, List.set_cons_succ]
    refine wpAnyH_ready (rs := [12]) (by kernel_rfl) (by simp) ?_
    refine AllReadyH.cons (o := { dst := some 127, op := Op.call { callee := Callee.value (Operand.func 17), args := #[Operand.tmp 125, Operand.tmp 126], argTypes := #[22, 22] }, type := 4, pos := "law.go:25", after := #[{ on := 10, ground := Ground.data }, { on := 11, ground := Ground.data }, { on := 10, ground := Ground.chain }, { on := 7, ground := Ground.guard }], guard := some (7, true) }) rfl (fun K hK => ?_) AllReadyH.nil
    go_simp
    go_at_call 17
    refine (HSI.out _ _ _ _ HY2.out.2.2.1 HY2.out.2.2.2).mono ?_
    rintro e x12 hp
    obtain ⟨rfl, hb⟩ := boolb_out hp
    have HZ1 : Hid (LvS w x12 ∧ Below w.heap.size w x12) := Lib.hid ⟨HY2.out.1.below hb, below_next HY2.out.2.1 hb⟩
    clear hp hb
    refine hK.out _ _ ⟨HZ1.out.1.c2, HZ1.out.1.c3⟩ (fun hS12 => ?_)
    clear hK K
    try simp only [Act.put, List.setIfInBounds_toArray, List.set_cons_zero, List.set_cons_succ]
    refine wpAnyH_take (i := 13) (oi := { dst := some 128, op := Op.pick (Operand.tmp 122) (Operand.tmp 127) (Operand.const (Value.bool false)), type := 4, pos := "law.go:25", after := #[{ on := 7, ground := Ground.data }, { on := 12, ground := Ground.data }], guard := none }) (v := ?_) rfl (by kernel_rfl) (by kernel_rfl) (by kernel_rfl) (fun _ _ _ h => h) (Or.inl ⟨by rfl, ?_⟩) (by assumption) ?_
    rotate_left
    · (intro w' hSw; (try dsimp only at hSw); go_simp; try with_reducible rfl)
    try simp only [Act.put, List.setIfInBounds_toArray, List.set_cons_zero, List.set_cons_succ]
    refine wpAnyH_take (i := 14) (oi := { dst := some 129, op := Op.move (Operand.tmp 128), type := 4, pos := "law.go:25", after := #[{ on := 13, ground := Ground.data }, { on := 12, ground := Ground.chain }], guard := none }) (v := ?_) rfl (by kernel_rfl) (by kernel_rfl) (by kernel_rfl) (fun _ _ _ h => h) (Or.inl ⟨by rfl, ?_⟩) (by assumption) ?_
    rotate_left
    · (intro w' hSw; (try dsimp only at hSw); go_simp; try with_reducible rfl)
    try simp only [Act.put, List.setIfInBounds_toArray, List.set_cons_zero, List.set_cons_succ]
    refine wpAnyH_take (i := 15) (oi := { dst := some 130, op := Op.move (Operand.tmp 1), type := 24, pos := "law.go:25", after := #[{ on := 14, ground := Ground.guard }], guard := some (14, true) }) (v := ?_) rfl (by kernel_rfl) (by kernel_rfl) (by kernel_rfl) (fun _ _ _ h => h) (Or.inl ⟨by rfl, ?_⟩) (by assumption) ?_
    rotate_left
    · (intro w' hSw; (try dsimp only at hSw); go_simp; try with_reducible rfl)
    try simp only [Act.put, List.setIfInBounds_toArray, List.set_cons_zero, List.set_cons_succ]
    refine wpAnyH_take (i := 16) (oi := { dst := some 131, op := Op.move (Operand.tmp 2), type := 23, pos := "law.go:25", after := #[{ on := 14, ground := Ground.guard }], guard := some (14, true) }) (v := ?_) rfl (by kernel_rfl) (by kernel_rfl) (by kernel_rfl) (fun _ _ _ h => h) (Or.inl ⟨by rfl, ?_⟩) (by assumption) ?_
    rotate_left
    · (intro w' hSw; (try dsimp only at hSw); go_simp; try with_reducible rfl)
    try simp only [Act.put, List.setIfInBounds_toArray, List.set_cons_zero, List.set_cons_succ]
    refine wpAnyH_take (i := 17) (oi := { dst := some 132, op := Op.indexAddr 23 (Operand.tmp 131) (Operand.const (Value.int IntKind.i64 3)), type := 0, pos := "law.go:25", after := #[{ on := 16, ground := Ground.data }, { on := 14, ground := Ground.guard }], guard := some (14, true) }) (v := ?_) rfl (by kernel_rfl) (by kernel_rfl) (by kernel_rfl) (fun _ _ _ h => h) (Or.inl ⟨by rfl, ?_⟩) (by assumption) ?_
    rotate_left
    · (intro w' hSw; (try dsimp only at hSw); go_simp; try with_reducible rfl)
    try simp only [Act.put, List.setIfInBounds_toArray, List.set_cons_zero, List.set_cons_succ]
    refine wpAnyH_take (i := 18) (oi := { dst := some 133, op := Op.load 22 (Operand.tmp 132), type := 22, pos := "law.go:25", after := #[{ on := 17, ground := Ground.data }, { on := 14, ground := Ground.guard }], guard := some (14, true) }) (v := ?_) rfl (by kernel_rfl) (by kernel_rfl) (by kernel_rfl) (fun _ _ _ h => h) (Or.inl ⟨by rfl, ?_⟩) (by assumption) ?_
    rotate_left
    · (intro w' hSw; (try dsimp only at hSw); go_simp; try with_reducible rfl)
    try simp only [Act.put, List.setIfInBounds_toArray, List.set_cons_zero, List.set_cons_succ]
    refine wpAnyH_ready (rs := [19]) (by kernel_rfl) (by simp) ?_
    refine AllReadyH.cons (o := { dst := some 134, op := Op.call { callee := Callee.value (Operand.func 21), args := #[Operand.tmp 130, Operand.tmp 133], argTypes := #[24, 22] }, type := 3, pos := "law.go:25", after := #[{ on := 15, ground := Ground.data }, { on := 18, ground := Ground.data }, { on := 14, ground := Ground.chain }, { on := 14, ground := Ground.guard }], guard := some (14, true) }) rfl (fun K hK => ?_) AllReadyH.nil
    go_simp
    go_at_call 21
    refine (HSE.out _ HZ1.out.1).mono ?_
    rintro e x19 hp
    obtain ⟨rfl, hb⟩ := i_out hp
    have HZ2 : Hid (LvS w x19 ∧ Below w.heap.size w x19) := Lib.hid ⟨HZ1.out.1.below hb, below_next HZ1.out.2 hb⟩
    clear hp hb
    refine hK.out _ _ ⟨HZ2.out.1.c2, HZ2.out.1.c3⟩ (fun hS19 => ?_)
    clear hK K hS12
    try simp only [Act.put, List.setIfInBounds_toArray, List.set_cons_zero, List.set_cons_succ]
    refine wpAnyH_take (i := 20) (oi := { dst := some 135, op := Op.binOp BinOp.eql 3 (Operand.tmp 134) (Operand.const (Value.int IntKind.i64 0)) 3, type := 4, pos := "law.go:25", after := #[{ on := 19, ground := Ground.data }, { on := 14, ground := Ground.guard }], guard := some (14, true) }) (v := ?_) rfl (by kernel_rfl) (by kernel_rfl) (by kernel_rfl) (fun _ _ _ h => h) (Or.inl ⟨by rfl, ?_⟩) (by assumption) ?_
    rotate_left
    · (intro w' hSw; (try dsimp only at hSw); go_simp; try with_reducible rfl)
    try simp only [Act.put, List.setIfInBounds_toArray, List.set_cons_zero, List.set_cons_succ]
    refine wpAnyH_take (i := 21) (oi := { dst := some 136, op := Op.pick (Operand.tmp 129) (Operand.tmp 135) (Operand.const (Value.bool false)), type := 4, pos := "law.go:25", after := #[{ on := 14, ground := Ground.data }, { on := 20, ground := Ground.data }], guard := none }) (v := ?_) rfl (by kernel_rfl) (by kernel_rfl) (by kernel_rfl) (fun _ _ _ h => h) (Or.inl ⟨by rfl, ?_⟩) (by assumption) ?_
    rotate_left
    · (intro w' hSw; (try dsimp only at hSw); go_simp; try with_reducible rfl)
    try simp only [Act.put, List.setIfInBounds_toArray, List.set_cons_zero, List.set_cons_succ]
    refine wpAnyH_take (i := 22) (oi := { dst := some 137, op := Op.move (Operand.tmp 136), type := 4, pos := "law.go:25", after := #[{ on := 21, ground := Ground.data }, { on := 19, ground := Ground.chain }], guard := none }) (v := ?_) rfl (by kernel_rfl) (by kernel_rfl) (by kernel_rfl) (fun _ _ _ h => h) (Or.inl ⟨by rfl, ?_⟩) (by assumption) ?_
    rotate_left
    · (intro w' hSw; (try dsimp only at hSw); go_simp; try with_reducible rfl)
    try simp only [Act.put, List.setIfInBounds_toArray, List.set_cons_zero, List.set_cons_succ]
    refine wpAnyH_take (i := 23) (oi := { dst := some 138, op := Op.move (Operand.tmp 1), type := 24, pos := "law.go:25", after := #[{ on := 22, ground := Ground.guard }], guard := some (22, true) }) (v := ?_) rfl (by kernel_rfl) (by kernel_rfl) (by kernel_rfl) (fun _ _ _ h => h) (Or.inl ⟨by rfl, ?_⟩) (by assumption) ?_
    rotate_left
    · (intro w' hSw; (try dsimp only at hSw); go_simp; try with_reducible rfl)
    try simp only [Act.put, List.setIfInBounds_toArray, List.set_cons_zero, List.set_cons_succ]
    refine wpAnyH_ready (rs := [24]) (by kernel_rfl) (by simp) ?_
    refine AllReadyH.cons (o := { dst := some 139, op := Op.call { callee := Callee.value (Operand.func 21), args := #[Operand.tmp 138, Operand.const (Value.slice none 0 0)], argTypes := #[24, 22] }, type := 3, pos := "law.go:25", after := #[{ on := 23, ground := Ground.data }, { on := 22, ground := Ground.chain }, { on := 22, ground := Ground.guard }], guard := some (22, true) }) rfl (fun K hK => ?_) AllReadyH.nil
    go_simp
    go_at_call 21
    refine (HSN.out _ HZ2.out.1).mono ?_
    rintro e x24 hp
    obtain ⟨rfl, hb⟩ := i_out hp
    have HZ3 : Hid (LvS w x24 ∧ Below w.heap.size w x24) := Lib.hid ⟨HZ2.out.1.below hb, below_next HZ2.out.2 hb⟩
    clear hp hb
    refine hK.out _ _ ⟨HZ3.out.1.c2, HZ3.out.1.c3⟩ (fun hS24 => ?_)
    clear hK K hS19
    try simp only [Act.put, List.setIfInBounds_toArray, List.set_cons_zero, List.set_cons_succ]
    refine wpAnyH_take (i := 25) (oi := { dst := some 140, op := Op.binOp BinOp.eql 3 (Operand.tmp 139) (Operand.const (Value.int IntKind.i64 (-1))) 3, type := 4, pos := "law.go:25", after := #[{ on := 24, ground := Ground.data }, { on := 22, ground := Ground.guard }], guard := some (22, true) }) (v := ?_) rfl (by kernel_rfl) (by kernel_rfl) (by kernel_rfl) (fun _ _ _ h => h) (Or.inl ⟨by rfl, ?_⟩) (by assumption) ?_
    rotate_left
    · (intro w' hSw; (try dsimp only at hSw); go_simp; try with_reducible rfl)
    try simp only [Act.put, List.setIfInBounds_toArray, List.set_cons_zero, List.set_cons_succ]
    refine wpAnyH_take (i := 26) (oi := { dst := some 141, op := Op.pick (Operand.tmp 137) (Operand.tmp 140) (Operand.const (Value.bool false)), type := 4, pos := "law.go:25", after := #[{ on := 22, ground := Ground.data }, { on := 25, ground := Ground.data }], guard := none }) (v := ?_) rfl (by kernel_rfl) (by kernel_rfl) (by kernel_rfl) (fun _ _ _ h => h) (Or.inl ⟨by rfl, ?_⟩) (by assumption) ?_
    rotate_left
    · (intro w' hSw; (try dsimp only at hSw); go_simp; try with_reducible rfl)
    try simp only [Act.put, List.setIfInBounds_toArray, List.set_cons_zero, List.set_cons_succ]
    refine wpAnyH_take (i := 27) (oi := { dst := some 142, op := Op.move (Operand.tmp 141), type := 4, pos := "law.go:25", after := #[{ on := 26, ground := Ground.data }, { on := 24, ground := Ground.chain }], guard := none }) (v := ?_) rfl (by kernel_rfl) (by kernel_rfl) (by kernel_rfl) (fun _ _ _ h => h) (Or.inl ⟨by rfl, ?_⟩) (by assumption) ?_
    rotate_left
    · (intro w' hSw; (try dsimp only at hSw); go_simp; try with_reducible rfl)
    try simp only [Act.put, List.setIfInBounds_toArray, List.set_cons_zero, List.set_cons_succ]
    refine wpAnyH_take (i := 28) (oi := { dst := some 143, op := Op.move (Operand.tmp 1), type := 24, pos := "law.go:25", after := #[{ on := 27, ground := Ground.guard }], guard := some (27, true) }) (v := ?_) rfl (by kernel_rfl) (by kernel_rfl) (by kernel_rfl) (fun _ _ _ h => h) (Or.inl ⟨by rfl, ?_⟩) (by assumption) ?_
    rotate_left
    · (intro w' hSw; (try dsimp only at hSw); go_simp; try with_reducible rfl)
    try simp only [Act.put, List.setIfInBounds_toArray, List.set_cons_zero, List.set_cons_succ]
    refine wpAnyH_take (i := 29) (oi := { dst := some 144, op := Op.move (Operand.tmp 2), type := 23, pos := "law.go:25", after := #[{ on := 27, ground := Ground.guard }], guard := some (27, true) }) (v := ?_) rfl (by kernel_rfl) (by kernel_rfl) (by kernel_rfl) (fun _ _ _ h => h) (Or.inl ⟨by rfl, ?_⟩) (by assumption) ?_
    rotate_left
    · (intro w' hSw; (try dsimp only at hSw); go_simp; try with_reducible rfl)
    try simp only [Act.put, List.setIfInBounds_toArray, List.set_cons_zero, List.set_cons_succ]
    refine wpAnyH_take (i := 30) (oi := { dst := some 145, op := Op.indexAddr 23 (Operand.tmp 144) (Operand.const (Value.int IntKind.i64 2)), type := 0, pos := "law.go:25", after := #[{ on := 29, ground := Ground.data }, { on := 27, ground := Ground.guard }], guard := some (27, true) }) (v := ?_) rfl (by kernel_rfl) (by kernel_rfl) (by kernel_rfl) (fun _ _ _ h => h) (Or.inl ⟨by rfl, ?_⟩) (by assumption) ?_
    rotate_left
    · (intro w' hSw; (try dsimp only at hSw); go_simp; try with_reducible rfl)
    try simp only [Act.put, List.setIfInBounds_toArray, List.set_cons_zero, List.set_cons_succ]
    refine wpAnyH_take (i := 31) (oi := { dst := some 146, op := Op.load 22 (Operand.tmp 145), type := 22, pos := "law.go:25", after := #[{ on := 30, ground := Ground.data }, { on := 27, ground := Ground.guard }], guard := some (27, true) }) (v := ?_) rfl (by kernel_rfl) (by kernel_rfl) (by kernel_rfl) (fun _ _ _ h => h) (Or.inl ⟨by rfl, ?_⟩) (by assumption) ?_
    rotate_left
    · (intro w' hSw; (try dsimp only at hSw); go_simp; try with_reducible rfl)
    try simp only [Act.put, List.setIfInBounds_toArray, List.set_cons_zero, List.set_cons_succ]
    refine wpAnyH_take (i := 32) (oi := { dst := some 147, op := Op.move (Operand.tmp 2), type := 23, pos := "law.go:25", after := #[{ on := 27, ground := Ground.guard }], guard := some (27, true) }) (v := ?_) rfl (by kernel_rfl) (by kernel_rfl) (by kernel_rfl) (fun _ _ _ h => h) (Or.inl ⟨by rfl, ?_⟩) (by assumption) ?_
    rotate_left
    · (intro w' hSw; (try dsimp only at hSw); go_simp; try with_reducible rfl)
    try simp only [Act.put, List.setIfInBounds_toArray, List.set_cons_zero, List.set_cons_succ]
    refine wpAnyH_take (i := 33) (oi := { dst := some 148, op := Op.indexAddr 23 (Operand.tmp 147) (Operand.const (Value.int IntKind.i64 3)), type := 0, pos := "law.go:25", after := #[{ on := 32, ground := Ground.data }, { on := 27, ground := Ground.guard }], guard := some (27, true) }) (v := ?_) rfl (by kernel_rfl) (by kernel_rfl) (by kernel_rfl) (fun _ _ _ h => h) (Or.inl ⟨by rfl, ?_⟩) (by assumption) ?_
    rotate_left
    · (intro w' hSw; (try dsimp only at hSw); go_simp; try with_reducible rfl)
    try simp only [Act.put, List.setIfInBounds_toArray, List.set_cons_zero, List.set_cons_succ]
    refine wpAnyH_take (i := 34) (oi := { dst := some 149, op := Op.load 22 (Operand.tmp 148), type := 22, pos := "law.go:25", after := #[{ on := 33, ground := Ground.data }, { on := 27, ground := Ground.guard }], guard := some (27, true) }) (v := ?_) rfl (by kernel_rfl) (by kernel_rfl) (by kernel_rfl) (fun _ _ _ h => h) (Or.inl ⟨by rfl, ?_⟩) (by assumption) ?_
    rotate_left
    · (intro w' hSw; (try dsimp only at hSw); go_simp; try with_reducible rfl)
    try simp only [Act.put, List.setIfInBounds_toArray, List.set_cons_zero, List.set_cons_succ]
    refine wpAnyH_ready (rs := [35]) (by kernel_rfl) (by simp) ?_
    refine AllReadyH.cons (o := { dst := some 150, op := Op.call { callee := Callee.value (Operand.func 23), args := #[Operand.tmp 143, Operand.tmp 146, Operand.tmp 149], argTypes := #[24, 22, 22] }, type := 3, pos := "law.go:25", after := #[{ on := 28, ground := Ground.data }, { on := 31, ground := Ground.data }, { on := 34, ground := Ground.data }, { on := 27, ground := Ground.chain }, { on := 27, ground := Ground.guard }], guard := some (27, true) }) rfl (fun K hK => ?_) AllReadyH.nil
    go_simp
    go_at_call 23
    refine (HCO.out _ HZ3.out.1).mono ?_
    rintro e x35 hp
    obtain ⟨rfl, hb⟩ := i_out hp
    have HZ4 : Hid (LvS w x35 ∧ Below w.heap.size w x35) := Lib.hid ⟨HZ3.out.1.below hb, below_next HZ3.out.2 hb⟩
    clear hp hb
    refine hK.out _ _ ⟨HZ4.out.1.c2, HZ4.out.1.c3⟩ (fun hS35 => ?_)
    clear hK K hS24
    try simp only [Act.put, List.setIfInBounds_toArray, List.set_cons_zero, List.set_cons_succ]
    refine wpAnyH_take (i := 36) (oi := { dst := some 151, op := Op.binOp BinOp.eql 3 (Operand.tmp 150) (Operand.const (Value.int IntKind.i64 (-1))) 3, type := 4, pos := "law.go:25", after := #[{ on := 35, ground := Ground.data }, { on := 27, ground := Ground.guard }], guard := some (27, true) }) (v := ?_) rfl (by kernel_rfl) (by kernel_rfl) (by kernel_rfl) (fun _ _ _ h => h) (Or.inl ⟨by rfl, ?_⟩) (by assumption) ?_
    rotate_left
    · (intro w' hSw; (try dsimp only at hSw); go_simp; try with_reducible rfl)
    try simp only [Act.put, List.setIfInBounds_toArray, List.set_cons_zero, List.set_cons_succ]
    refine wpAnyH_take (i := 37) (oi := { dst := some 152, op := Op.pick (Operand.tmp 142) (Operand.tmp 151) (Operand.const (Value.bool false)), type := 4, pos := "law.go:25", after := #[{ on := 27, ground := Ground.data }, { on := 36, ground := Ground.data }], guard := none }) (v := ?_) rfl (by kernel_rfl) (by kernel_rfl) (by kernel_rfl) (fun _ _ _ h => h) (Or.inl ⟨by rfl, ?_⟩) (by assumption) ?_
    rotate_left
    · (intro w' hSw; (try dsimp only at hSw); go_simp; try with_reducible rfl)
    try simp only [Act.put, List.setIfInBounds_toArray, List.set_cons_zero, List.set_cons_succ]
    refine wpAnyH_take (i := 38) (oi := { dst := some 0, op := Op.assign (Operand.tmp 152), type := 4, pos := "law.go:25", after := #[{ on := 37, ground := Ground.data }, { on := 35, ground := Ground.chain }, { on := 0, ground := Ground.phase }, { on := 1, ground := Ground.phase }, { on := 2, ground := Ground.phase }, { on := 3, ground := Ground.phase }, { on := 4, ground := Ground.phase }, { on := 5, ground := Ground.phase }, { on := 6, ground := Ground.phase }, { on := 7, ground := Ground.phase }, { on := 8, ground := Ground.phase }, { on := 9, ground := Ground.phase }, { on := 10, ground := Ground.phase }, { on := 11, ground := Ground.phase }, { on := 12, ground := Ground.phase }, { on := 13, ground := Ground.phase }, { on := 14, ground := Ground.phase }, { on := 15, ground := Ground.phase }, { on := 16, ground := Ground.phase }, { on := 17, ground := Ground.phase }, { on := 18, ground := Ground.phase }, { on := 19, ground := Ground.phase }, { on := 20, ground := Ground.phase }, { on := 21, ground := Ground.phase }, { on := 22, ground := Ground.phase }, { on := 23, ground := Ground.phase }, { on := 24, ground := Ground.phase }, { on := 25, ground := Ground.phase }, { on := 26, ground := Ground.phase }, { on := 27, ground := Ground.phase }, { on := 28, ground := Ground.phase }, { on := 29, ground := Ground.phase }, { on := 30, ground := Ground.phase }, { on := 31, ground := Ground.phase }, { on := 32, ground := Ground.phase }, { on := 33, ground := Ground.phase }, { on := 34, ground := Ground.phase }, { on := 35, ground := Ground.phase }, { on := 36, ground := Ground.phase }, { on := 37, ground := Ground.phase }], guard := none }) (v := ?_) rfl (by kernel_rfl) (by kernel_rfl) (by kernel_rfl) (fun _ _ _ h => h) (Or.inl ⟨by rfl, ?_⟩) (by assumption) ?_
    rotate_left
    · (intro w' hSw; (try dsimp only at hSw); go_simp; try with_reducible rfl)
    try simp only [Act.put, List.setIfInBounds_toArray, List.set_cons_zero, List.set_cons_succ]
    refine wpAnyH_done (by kernel_rfl) ?_ _
    go_wp2_with fail
    go_ret
    exact ⟨rfl, HZ4.out.2⟩
end Go.Proofs.Ytalladdmedmfeaa
