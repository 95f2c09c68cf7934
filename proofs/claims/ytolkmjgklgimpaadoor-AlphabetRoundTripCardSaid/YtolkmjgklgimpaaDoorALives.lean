/-
  lives.
-/
import Derived.Test.YtolkmjgklgimpaaDoorAParse
import Derived.ChangeKeysEq
import Derived.Laws.StructEq
namespace Go.Proofs.YtolkmjgklgimpaaDoor
open Go.RowKit
open Alp
set_option linter.unusedVariables false
set_option linter.unusedSimpArgs false

def LVA : List Lt := [⟨[99], 0, 0, 0, 5⟩, ⟨[104], 1, 0, 0, 6⟩, ⟨[99, 104], 2, 0, 0, 9⟩]
def LVB : List Lt := [⟨[97], 0, 0, 0, 5⟩, ⟨[65], 0, 0, 1, 6⟩]
theorem lv_r1 : readP LVA [99, 104, 99] = ([2, 0], -1) := by kernel_rfl
theorem lv_r2 : readP LVA [99, 104, 45, 99] = ([2], 2) := by kernel_rfl
theorem lv_w : writeP LVA [0, 1] = ([99, 104], 0) := by kernel_rfl
theorem lv_s1 : safeP LVA [0, 1] = false := by kernel_rfl
theorem lv_s2 : safeP LVA [2] = true := by kernel_rfl
theorem lv_p : parseP [97, 32, 97, 32, 48, 32, 48, 32, 53, 10, 65, 32, 97, 32, 48, 32, 49, 32, 54, 10] = (LVB, 0, 0) := by kernel_rfl
theorem blkI2 (w : World) (x y : Int) : Blk (w.alloc (.cells #[.int .i64 x, .int .i64 y] 3)) w.heap.size (iv [x, y]) 3 := Blk.at w (iv [x, y]) _ _ _ rfl rfl
theorem blkI1 (w : World) (x : Int) : Blk (w.alloc (.cells #[.int .i64 x] 3)) w.heap.size (iv [x]) 3 := Blk.at w (iv [x]) _ _ _ rfl rfl
theorem lva_small : ∀ l ∈ LVA, l.text.length ≤ maxLen := by unfold LVA maxLen; simp
theorem wpList_load_lt_if {w : World} {ops : Array Oper} {rest : List Oper} {o : Oper} {a : Act} {Q : Exit → Act → World → Prop} (hw : Region.wanted o (yielded ops a.tmps) = true) (x : Operand) (ho : o.op = .load 50 x)
    (g q : Nat) (hx : a.eval x = .pointer (some ⟨g, q, none⟩)) (l : Lt) (hc : w.rangeAt g q (lc l))
    (h : wpList Tryd.prog ops Q rest (a.put o.dst (.agg #[.string (tb l.text), .int .i64 l.base, .int .i64 l.mark, .int .i64 l.cas, .int .i64 l.width])) w) : wpList Tryd.prog ops Q (o :: rest) a w :=
  wpList_step fun K hK => by
    rw [if_pos hw]
    exact wp_load_mid 50 x ho g q hx _ _ hc Tryd.underlying50 rfl Tryd.sizeLt (hK _ _ h)
theorem part_lt (t : TypeId) (ht : Tryd.prog.plainKey t = true) (xs : Array Value) (o : Nat) (v : Value) (h : xs[o]? = some v) (W : World) : (part t xs o).run Tryd.prog W = .ok v W := run_part_plain W ht h
theorem fields5 {α β : Type} {g : α → β} {A B C D E : β} : ∀ (l : List α), l.map g = [A, B, C, D, E] → ∃ f0 f1 f2 f3 f4, l = [f0, f1, f2, f3, f4] ∧ g f0 = A ∧ g f1 = B ∧ g f2 = C ∧ g f3 = D ∧ g f4 = E
  | [f0, f1, f2, f3, f4], h => by
    simp only [List.map_cons, List.map_nil, List.cons.injEq, and_true] at h
    exact ⟨f0, f1, f2, f3, f4, rfl, h⟩
  | [], h => by simp at h
  | [_], h => by simp at h
  | [_, _], h => by simp at h
  | [_, _, _], h => by simp at h
  | [_, _, _, _], h => by simp at h
  | _ :: _ :: _ :: _ :: _ :: _ :: _, h => by simp at h
theorem fieldsLt : ∃ f0 f1 f2 f3 f4 : Field, (Tryd.prog.fieldsOf 50).toList = [f0, f1, f2, f3, f4] ∧ (f0.name, f0.type, f0.offset) = ("Text", 9, 0) ∧ (f1.name, f1.type, f1.offset) = ("Base", 3, 1) ∧ (f2.name, f2.type, f2.offset) = ("Mark", 3, 2) ∧ (f3.name, f3.type, f3.offset) = ("Case", 3, 3) ∧ (f4.name, f4.type, f4.offset) = ("Width", 3, 4) :=
  fields5 (g := fun f : Field => (f.name, f.type, f.offset)) _ (by kernel_rfl)
theorem pkS : Tryd.prog.plainKey 9 = true := by kernel_rfl
theorem pkI : Tryd.prog.plainKey 3 = true := by kernel_rfl
/-- The equality of two letters. -/
theorem eq_lt (a b : Lt) (w : World) : (Op.equalIn 10000 50 (.agg #[.string (tb a.text), .int .i64 a.base, .int .i64 a.mark, .int .i64 a.cas, .int .i64 a.width]) (.agg #[.string (tb b.text), .int .i64 b.base, .int .i64 b.mark, .int .i64 b.cas, .int .i64 b.width])).run Tryd.prog w = .ok (decide (a = b)) w := by
  obtain ⟨a0, a1, a2, a3, a4⟩ := a
  obtain ⟨b0, b1, b2, b3, b4⟩ := b
  obtain ⟨f0, f1, f2, f3, f4, hf, h0, h1, h2, h3, h4⟩ := fieldsLt
  simp only [Prod.mk.injEq] at h0 h1 h2 h3 h4
  obtain ⟨n0, t0, o0⟩ := h0
  obtain ⟨n1, t1, o1⟩ := h1
  obtain ⟨n2, t2, o2⟩ := h2
  obtain ⟨n3, t3, o3⟩ := h3
  obtain ⟨n4, t4, o4⟩ := h4
  have n0' : f0.name ≠ "_" := by rw [n0]; decide
  have n1' : f1.name ≠ "_" := by rw [n1]; decide
  have n2' : f2.name ≠ "_" := by rw [n2]; decide
  have n3' : f3.name ≠ "_" := by rw [n3]; decide
  have n4' : f4.name ≠ "_" := by rw [n4]; decide
  rw [show (10000 : Nat) = 9999 + 1 from rfl, run_equalIn_agg w 9999 _ _ _ (by kernel_rfl) (by kernel_rfl), hf]
  simp only [Op.eqFields, Sem.run_bind, Sem.run_ite, if_pos n0', if_pos n1', if_pos n2', if_pos n3', if_pos n4', t0, t1, t2, t3, t4, o0, o1, o2, o3, o4]
  rw [show (9999 : Nat) = 9998 + 1 from rfl]
  obtain ⟨X, hX⟩ : ∃ X : Array Value, X = #[.string (tb a0), .int .i64 a1, .int .i64 a2, .int .i64 a3, .int .i64 a4] := ⟨_, rfl⟩
  obtain ⟨Y, hY⟩ : ∃ Y : Array Value, Y = #[.string (tb b0), .int .i64 b1, .int .i64 b2, .int .i64 b3, .int .i64 b4] := ⟨_, rfl⟩
  rw [← hX, ← hY]
  have pX0 := fun W => part_lt _ pkS X 0 (.string (tb a0)) (by rw [hX]; rfl) W
  have pX1 := fun W => part_lt _ pkI X 1 (.int .i64 a1) (by rw [hX]; rfl) W
  have pX2 := fun W => part_lt _ pkI X 2 (.int .i64 a2) (by rw [hX]; rfl) W
  have pX3 := fun W => part_lt _ pkI X 3 (.int .i64 a3) (by rw [hX]; rfl) W
  have pX4 := fun W => part_lt _ pkI X 4 (.int .i64 a4) (by rw [hX]; rfl) W
  have pY0 := fun W => part_lt _ pkS Y 0 (.string (tb b0)) (by rw [hY]; rfl) W
  have pY1 := fun W => part_lt _ pkI Y 1 (.int .i64 b1) (by rw [hY]; rfl) W
  have pY2 := fun W => part_lt _ pkI Y 2 (.int .i64 b2) (by rw [hY]; rfl) W
  have pY3 := fun W => part_lt _ pkI Y 3 (.int .i64 b3) (by rw [hY]; rfl) W
  have pY4 := fun W => part_lt _ pkI Y 4 (.int .i64 b4) (by rw [hY]; rfl) W
  simp only [pX0, pX1, pX2, pX3, pX4, pY0, pY1, pY2, pY3, pY4, Result.andThen_ok, run_equalIn_int _ _ _ _ _ _ _ Tryd.underlying3, run_equalIn_string _ _ _ _ _ Tryd.underlying9, tb_toList]
  have hd : decide ((⟨a0, a1, a2, a3, a4⟩ : Lt) = ⟨b0, b1, b2, b3, b4⟩) = (a0 == b0 && (a1 == b1 && (a2 == b2 && (a3 == b3 && a4 == b4)))) := by
    rw [Bool.eq_iff_iff]
    simp
  rw [hd]
  cases hh0 : (a0 == b0) <;> cases hh1 : (a1 == b1) <;> cases hh2 : (a2 == b2) <;> cases hh3 : (a3 == b3) <;> cases hh4 : (a4 == b4) <;> simp
set_option maxRecDepth 100000 in
set_option maxHeartbeats 4000000 in
theorem lives_any (w : World) (hML : ML w) : Calls Tryd.prog 15 #[] w fun e w' => e = .returned (.bool true) ∧ Below w.heap.size w w' := by
  have hA : Rd (w.alloc (.cells #[.string ⟨#[99]⟩, .int .i64 0, .int .i64 0, .int .i64 0, .int .i64 5, .string ⟨#[104]⟩, .int .i64 1, .int .i64 0, .int .i64 0, .int .i64 6, .string ⟨#[99, 104]⟩, .int .i64 2, .int .i64 0, .int .i64 0, .int .i64 9] 50)) (some ⟨w.heap.size, 0, none⟩) (lv LVA) := .inr ⟨w.heap.size, 0, rfl, fun k v hv => by rw [Nat.zero_add]; exact (Blk.at w (lv LVA) _ 50 _ rfl rfl).cell hv⟩
  have H1 : Hid (∀ W, Below (w.alloc (.cells #[.string ⟨#[99]⟩, .int .i64 0, .int .i64 0, .int .i64 0, .int .i64 5, .string ⟨#[104]⟩, .int .i64 1, .int .i64 0, .int .i64 0, .int .i64 6, .string ⟨#[99, 104]⟩, .int .i64 2, .int .i64 0, .int .i64 0, .int .i64 9] 50)).heap.size (w.alloc (.cells #[.string ⟨#[99]⟩, .int .i64 0, .int .i64 0, .int .i64 0, .int .i64 5, .string ⟨#[104]⟩, .int .i64 1, .int .i64 0, .int .i64 0, .int .i64 6, .string ⟨#[99, 104]⟩, .int .i64 2, .int .i64 0, .int .i64 0, .int .i64 9] 50)) W → Calls Tryd.prog 12 #[.slice (some ⟨w.heap.size, 0, none⟩) 3 3, .string ⟨#[99, 104, 99]⟩] W (RPost W ([2, 0], -1))) := Lib.hid fun W hb => read_any LVA [99, 104, 99] (by simp) _ 3 3 rfl (Nat.le_refl _) (by unfold maxLen; omega) lva_small _ lv_r1.symm W (hA.below hb)
  have H2 : Hid (∀ W, Below (w.alloc (.cells #[.string ⟨#[99]⟩, .int .i64 0, .int .i64 0, .int .i64 0, .int .i64 5, .string ⟨#[104]⟩, .int .i64 1, .int .i64 0, .int .i64 0, .int .i64 6, .string ⟨#[99, 104]⟩, .int .i64 2, .int .i64 0, .int .i64 0, .int .i64 9] 50)).heap.size (w.alloc (.cells #[.string ⟨#[99]⟩, .int .i64 0, .int .i64 0, .int .i64 0, .int .i64 5, .string ⟨#[104]⟩, .int .i64 1, .int .i64 0, .int .i64 0, .int .i64 6, .string ⟨#[99, 104]⟩, .int .i64 2, .int .i64 0, .int .i64 0, .int .i64 9] 50)) W → Calls Tryd.prog 12 #[.slice (some ⟨w.heap.size, 0, none⟩) 3 3, .string ⟨#[99, 104, 45, 99]⟩] W (RPost W ([2], 2))) := Lib.hid fun W hb => read_any LVA [99, 104, 45, 99] (by simp) _ 3 3 rfl (Nat.le_refl _) (by unfold maxLen; omega) lva_small _ lv_r2.symm W (hA.below hb)
  have H3 : Hid (∀ B W, Below (w.alloc (.cells #[.string ⟨#[99]⟩, .int .i64 0, .int .i64 0, .int .i64 0, .int .i64 5, .string ⟨#[104]⟩, .int .i64 1, .int .i64 0, .int .i64 0, .int .i64 6, .string ⟨#[99, 104]⟩, .int .i64 2, .int .i64 0, .int .i64 0, .int .i64 9] 50)).heap.size (w.alloc (.cells #[.string ⟨#[99]⟩, .int .i64 0, .int .i64 0, .int .i64 0, .int .i64 5, .string ⟨#[104]⟩, .int .i64 1, .int .i64 0, .int .i64 0, .int .i64 6, .string ⟨#[99, 104]⟩, .int .i64 2, .int .i64 0, .int .i64 0, .int .i64 9] 50)) W → Blk W B (iv [0, 1]) 3 → Calls Tryd.prog 17 #[.slice (some ⟨w.heap.size, 0, none⟩) 3 3, .slice (some ⟨B, 0, none⟩) 2 2] W (WPost W ([99, 104], 0))) := Lib.hid fun B W hb hB => write_any LVA [0, 1] (by simp) _ 3 3 rfl (Nat.le_refl _) (by unfold maxLen; omega) lva_small _ 2 2 rfl (Nat.le_refl _) (by unfold maxLen; omega) _ lv_w.symm W (hA.below hb) (blk_rd hB)
  have H4 : Hid (∀ B W V, Below (w.alloc (.cells #[.string ⟨#[99]⟩, .int .i64 0, .int .i64 0, .int .i64 0, .int .i64 5, .string ⟨#[104]⟩, .int .i64 1, .int .i64 0, .int .i64 0, .int .i64 6, .string ⟨#[99, 104]⟩, .int .i64 2, .int .i64 0, .int .i64 0, .int .i64 9] 50)).heap.size (w.alloc (.cells #[.string ⟨#[99]⟩, .int .i64 0, .int .i64 0, .int .i64 0, .int .i64 5, .string ⟨#[104]⟩, .int .i64 1, .int .i64 0, .int .i64 0, .int .i64 6, .string ⟨#[99, 104]⟩, .int .i64 2, .int .i64 0, .int .i64 0, .int .i64 9] 50)) W → Blk W B (iv [0, 1]) 3 → V = false → Calls Tryd.prog 19 #[.slice (some ⟨w.heap.size, 0, none⟩) 3 3, .slice (some ⟨B, 0, none⟩) 2 2] W (BoolB W V)) := Lib.hid fun B W V hb hB hV => safe_any LVA [0, 1] (by simp) _ 3 3 rfl (Nat.le_refl _) (by unfold maxLen; omega) lva_small _ 2 2 rfl (Nat.le_refl _) (by unfold maxLen; omega) V (hV.trans lv_s1.symm) W (hA.below hb) (blk_rd hB)
  have H5 : Hid (∀ B W V, Below (w.alloc (.cells #[.string ⟨#[99]⟩, .int .i64 0, .int .i64 0, .int .i64 0, .int .i64 5, .string ⟨#[104]⟩, .int .i64 1, .int .i64 0, .int .i64 0, .int .i64 6, .string ⟨#[99, 104]⟩, .int .i64 2, .int .i64 0, .int .i64 0, .int .i64 9] 50)).heap.size (w.alloc (.cells #[.string ⟨#[99]⟩, .int .i64 0, .int .i64 0, .int .i64 0, .int .i64 5, .string ⟨#[104]⟩, .int .i64 1, .int .i64 0, .int .i64 0, .int .i64 6, .string ⟨#[99, 104]⟩, .int .i64 2, .int .i64 0, .int .i64 0, .int .i64 9] 50)) W → Blk W B (iv [2]) 3 → V = true → Calls Tryd.prog 19 #[.slice (some ⟨w.heap.size, 0, none⟩) 3 3, .slice (some ⟨B, 0, none⟩) 1 1] W (BoolB W V)) := Lib.hid fun B W V hb hB hV => safe_any LVA [2] (by simp) _ 3 3 rfl (Nat.le_refl _) (by unfold maxLen; omega) lva_small _ 1 1 rfl (Nat.le_refl _) (by unfold maxLen; omega) V (hV.trans lv_s2.symm) W (hA.below hb) (blk_rd hB)
  have H6 : Hid (∀ W, Below (w.alloc (.cells #[.string ⟨#[99]⟩, .int .i64 0, .int .i64 0, .int .i64 0, .int .i64 5, .string ⟨#[104]⟩, .int .i64 1, .int .i64 0, .int .i64 0, .int .i64 6, .string ⟨#[99, 104]⟩, .int .i64 2, .int .i64 0, .int .i64 0, .int .i64 9] 50)).heap.size (w.alloc (.cells #[.string ⟨#[99]⟩, .int .i64 0, .int .i64 0, .int .i64 0, .int .i64 5, .string ⟨#[104]⟩, .int .i64 1, .int .i64 0, .int .i64 0, .int .i64 6, .string ⟨#[99, 104]⟩, .int .i64 2, .int .i64 0, .int .i64 0, .int .i64 9] 50)) W → Calls Tryd.prog 26 #[.string ⟨#[97, 32, 97, 32, 48, 32, 48, 32, 53, 10, 65, 32, 97, 32, 48, 32, 49, 32, 54, 10]⟩] W (PPost W (LVB, 0, 0))) := Lib.hid fun W hb => by have := parse_any [97, 32, 97, 32, 48, 32, 48, 32, 53, 10, 65, 32, 97, 32, 48, 32, 49, 32, 54, 10] (by unfold maxLen; simp) W ((hML.below (below_a1 w _)).below hb); rw [lv_p] at this; exact this
  have H7 : Hid (∀ (l : List Int) (A : Option Addr) (n c B : Nat) (W : World) (V : Bool), Rd W A (iv l) → Blk W B (iv l) 3 → n = l.length → n ≤ 10 → V = true → Calls Tryd.prog 14 #[.slice A n c, .slice (some ⟨B, 0, none⟩) n n] W (BoolB W V)) := Lib.hid fun l A n c B W V h1 h2 hn hl hV => same_any l l A _ n n c n hn hn (by unfold maxLen; omega) V (by rw [hV, decide_eq_true rfl]) W h1 (blk_rd h2)
  have H7a := Lib.hid fun (A : Option Addr) (c B : Nat) (W : World) h1 h2 => H7.out [2, 0] A 2 c B W true h1 h2 rfl (by decide) rfl
  have H7b := Lib.hid fun (A : Option Addr) (c B : Nat) (W : World) h1 h2 => H7.out [2] A 1 c B W true h1 h2 rfl (by decide) rfl
  have heq : ∀ w, (Op.equalIn 10000 50 (.agg #[.string (tb [65]), .int .i64 0, .int .i64 0, .int .i64 1, .int .i64 6]) (.agg #[.string ⟨#[65]⟩, .int .i64 0, .int .i64 0, .int .i64 1, .int .i64 6])).run Tryd.prog w = .ok true w := fun w => (eq_lt ⟨[65], 0, 0, 1, 6⟩ ⟨[65], 0, 0, 1, 6⟩ w).trans (by rw [decide_eq_true rfl])
  have htb : ((tb [99, 104]).toList == [99, 104]) = true := by rw [tb_toList]; rfl
  clear hA hML
  go_enter Tryd.func15, Tryd.ntmps15
  go_wp2_with (first
    | ((with_reducible refine (H1.out _ (Below.refl _ _)).mono ?_); rintro e w1 hp; obtain ⟨A1, c1, n1, rfl, h1, h2, h3, h4, hb⟩ := r_out2 hp; have h1' : n1 = 2 := h1; subst h1'; have HX1 : Hid (Below (w.alloc (.cells #[.string ⟨#[99]⟩, .int .i64 0, .int .i64 0, .int .i64 0, .int .i64 5, .string ⟨#[104]⟩, .int .i64 1, .int .i64 0, .int .i64 0, .int .i64 6, .string ⟨#[99, 104]⟩, .int .i64 2, .int .i64 0, .int .i64 0, .int .i64 9] 50)).heap.size (w.alloc (.cells #[.string ⟨#[99]⟩, .int .i64 0, .int .i64 0, .int .i64 0, .int .i64 5, .string ⟨#[104]⟩, .int .i64 1, .int .i64 0, .int .i64 0, .int .i64 6, .string ⟨#[99, 104]⟩, .int .i64 2, .int .i64 0, .int .i64 0, .int .i64 9] 50)) w1 ∧ Rd w1 A1 (iv [2, 0])) := Lib.hid ⟨hb, h2⟩; clear hp h1 h2 h3 h4 hb)
    | ((with_reducible refine (H2.out _ HX1.out.1).mono ?_); rintro e w2 hp; obtain ⟨A2, c2, n2, rfl, h1, h2, h3, h4, hb⟩ := r_out2 hp; have h1' : n2 = 1 := h1; subst h1'; have HX2 : Hid (Below (w.alloc (.cells #[.string ⟨#[99]⟩, .int .i64 0, .int .i64 0, .int .i64 0, .int .i64 5, .string ⟨#[104]⟩, .int .i64 1, .int .i64 0, .int .i64 0, .int .i64 6, .string ⟨#[99, 104]⟩, .int .i64 2, .int .i64 0, .int .i64 0, .int .i64 9] 50)).heap.size (w.alloc (.cells #[.string ⟨#[99]⟩, .int .i64 0, .int .i64 0, .int .i64 0, .int .i64 5, .string ⟨#[104]⟩, .int .i64 1, .int .i64 0, .int .i64 0, .int .i64 6, .string ⟨#[99, 104]⟩, .int .i64 2, .int .i64 0, .int .i64 0, .int .i64 9] 50)) w2 ∧ Rd w2 A1 (iv [2, 0]) ∧ Rd w2 A2 (iv [2])) := Lib.hid ⟨below_next HX1.out.1 hb, HX1.out.2.below hb, h2⟩; clear hp h1 h2 h3 h4 hb)
    | ((with_reducible refine (H3.out _ _ (below_al HX2.out.1 _) (blkI2 w2 0 1)).mono ?_); rintro e w3 hp; obtain ⟨rfl, hb⟩ := w_out2 hp; have HX3 : Hid (Below (w.alloc (.cells #[.string ⟨#[99]⟩, .int .i64 0, .int .i64 0, .int .i64 0, .int .i64 5, .string ⟨#[104]⟩, .int .i64 1, .int .i64 0, .int .i64 0, .int .i64 6, .string ⟨#[99, 104]⟩, .int .i64 2, .int .i64 0, .int .i64 0, .int .i64 9] 50)).heap.size (w.alloc (.cells #[.string ⟨#[99]⟩, .int .i64 0, .int .i64 0, .int .i64 0, .int .i64 5, .string ⟨#[104]⟩, .int .i64 1, .int .i64 0, .int .i64 0, .int .i64 6, .string ⟨#[99, 104]⟩, .int .i64 2, .int .i64 0, .int .i64 0, .int .i64 9] 50)) w3 ∧ Rd w3 A1 (iv [2, 0]) ∧ Rd w3 A2 (iv [2])) := Lib.hid ⟨below_next (below_al HX2.out.1 _) hb, (HX2.out.2.1.alloc _).below hb, (HX2.out.2.2.alloc _).below hb⟩; clear hp hb)
    | ((with_reducible refine (H6.out _ HX3.out.1).mono ?_); rintro e w4 hp; obtain ⟨A8, n8, c8, rfl, h1, h2, h3, h4, hb⟩ := p_out hp; have h1' : n8 = 2 := h1; subst h1'; obtain ⟨b8, o8, rfl, hrl⟩ := rl_open h2 (by decide); have HX4 : Hid (Below (w.alloc (.cells #[.string ⟨#[99]⟩, .int .i64 0, .int .i64 0, .int .i64 0, .int .i64 5, .string ⟨#[104]⟩, .int .i64 1, .int .i64 0, .int .i64 0, .int .i64 6, .string ⟨#[99, 104]⟩, .int .i64 2, .int .i64 0, .int .i64 0, .int .i64 9] 50)).heap.size (w.alloc (.cells #[.string ⟨#[99]⟩, .int .i64 0, .int .i64 0, .int .i64 0, .int .i64 5, .string ⟨#[104]⟩, .int .i64 1, .int .i64 0, .int .i64 0, .int .i64 6, .string ⟨#[99, 104]⟩, .int .i64 2, .int .i64 0, .int .i64 0, .int .i64 9] 50)) w4 ∧ Rd w4 A1 (iv [2, 0]) ∧ Rd w4 A2 (iv [2]) ∧ RL w4 b8 o8 LVB) := Lib.hid ⟨below_next HX3.out.1 hb, HX3.out.2.1.below hb, HX3.out.2.2.below hb, hrl⟩; clear hp h1 h2 h3 h4 hb hrl)
    | ((with_reducible refine (H7a.out _ _ _ _ (HX4.out.2.1.alloc _) (blkI2 w4 2 0)).mono ?_); rintro e w5 hp; obtain ⟨rfl, hb⟩ := boolb_out hp; have HX5 : Hid (Below (w.alloc (.cells #[.string ⟨#[99]⟩, .int .i64 0, .int .i64 0, .int .i64 0, .int .i64 5, .string ⟨#[104]⟩, .int .i64 1, .int .i64 0, .int .i64 0, .int .i64 6, .string ⟨#[99, 104]⟩, .int .i64 2, .int .i64 0, .int .i64 0, .int .i64 9] 50)).heap.size (w.alloc (.cells #[.string ⟨#[99]⟩, .int .i64 0, .int .i64 0, .int .i64 0, .int .i64 5, .string ⟨#[104]⟩, .int .i64 1, .int .i64 0, .int .i64 0, .int .i64 6, .string ⟨#[99, 104]⟩, .int .i64 2, .int .i64 0, .int .i64 0, .int .i64 9] 50)) w5 ∧ Rd w5 A2 (iv [2]) ∧ RL w5 b8 o8 LVB) := Lib.hid ⟨below_next (below_al HX4.out.1 _) hb, (HX4.out.2.2.1.alloc _).below hb, (HX4.out.2.2.2.below (below_a1 _ _)).below hb⟩; clear hp hb)
    | ((with_reducible refine (H7b.out _ _ _ _ (HX5.out.2.1.alloc _) (blkI1 w5 2)).mono ?_); rintro e w6 hp; obtain ⟨rfl, hb⟩ := boolb_out hp; have HX6 : Hid (Below (w.alloc (.cells #[.string ⟨#[99]⟩, .int .i64 0, .int .i64 0, .int .i64 0, .int .i64 5, .string ⟨#[104]⟩, .int .i64 1, .int .i64 0, .int .i64 0, .int .i64 6, .string ⟨#[99, 104]⟩, .int .i64 2, .int .i64 0, .int .i64 0, .int .i64 9] 50)).heap.size (w.alloc (.cells #[.string ⟨#[99]⟩, .int .i64 0, .int .i64 0, .int .i64 0, .int .i64 5, .string ⟨#[104]⟩, .int .i64 1, .int .i64 0, .int .i64 0, .int .i64 6, .string ⟨#[99, 104]⟩, .int .i64 2, .int .i64 0, .int .i64 0, .int .i64 9] 50)) w6 ∧ RL w6 b8 o8 LVB) := Lib.hid ⟨below_next (below_al HX5.out.1 _) hb, (HX5.out.2.2.below (below_a1 _ _)).below hb⟩; clear hp hb)
    | ((with_reducible refine (H4.out _ _ false (below_al HX6.out.1 _) (blkI2 w6 0 1) rfl).mono ?_); rintro e w7 hp; obtain ⟨rfl, hb⟩ := boolb_out hp; have HX7 : Hid (Below (w.alloc (.cells #[.string ⟨#[99]⟩, .int .i64 0, .int .i64 0, .int .i64 0, .int .i64 5, .string ⟨#[104]⟩, .int .i64 1, .int .i64 0, .int .i64 0, .int .i64 6, .string ⟨#[99, 104]⟩, .int .i64 2, .int .i64 0, .int .i64 0, .int .i64 9] 50)).heap.size (w.alloc (.cells #[.string ⟨#[99]⟩, .int .i64 0, .int .i64 0, .int .i64 0, .int .i64 5, .string ⟨#[104]⟩, .int .i64 1, .int .i64 0, .int .i64 0, .int .i64 6, .string ⟨#[99, 104]⟩, .int .i64 2, .int .i64 0, .int .i64 0, .int .i64 9] 50)) w7 ∧ RL w7 b8 o8 LVB) := Lib.hid ⟨below_next (below_al HX6.out.1 _) hb, (HX6.out.2.below (below_a1 _ _)).below hb⟩; clear hp hb)
    | ((with_reducible refine (H5.out _ _ true (below_al HX7.out.1 _) (blkI1 w7 2) rfl).mono ?_); rintro e w8 hp; obtain ⟨rfl, hb⟩ := boolb_out hp; have HX8 : Hid (Below (w.alloc (.cells #[.string ⟨#[99]⟩, .int .i64 0, .int .i64 0, .int .i64 0, .int .i64 5, .string ⟨#[104]⟩, .int .i64 1, .int .i64 0, .int .i64 0, .int .i64 6, .string ⟨#[99, 104]⟩, .int .i64 2, .int .i64 0, .int .i64 0, .int .i64 9] 50)).heap.size (w.alloc (.cells #[.string ⟨#[99]⟩, .int .i64 0, .int .i64 0, .int .i64 0, .int .i64 5, .string ⟨#[104]⟩, .int .i64 1, .int .i64 0, .int .i64 0, .int .i64 6, .string ⟨#[99, 104]⟩, .int .i64 2, .int .i64 0, .int .i64 0, .int .i64 9] 50)) w8 ∧ RL w8 b8 o8 LVB) := Lib.hid ⟨below_next (below_al HX7.out.1 _) hb, (HX7.out.2.below (below_a1 _ _)).below hb⟩; clear hp hb)
    | (refine wpList_load_lt_if (by rfl) (.tmp 86) rfl b8 (o8 + 5) rfl ⟨[65], 0, 0, 1, 6⟩ (HX8.out.2.range (k := 1) (by decide) rfl) ?_))
  go_ret
  exact ⟨rfl, below_next (below_a1 w _) HX8.out.1⟩
end Go.Proofs.YtolkmjgklgimpaaDoor
