/-
  The closures of calendar.Print, and shortest over whatever is wanted.
-/
import Derived.Test.YtkaaejfochdjcaaDoorCText
import Derived.Laws.StructEq
namespace Go.Proofs.YtkaaejfochdjcaaDoor
open Go.RowKit
open Cal
set_option linter.unusedVariables false
set_option linter.unusedSimpArgs false

/-- The load of a span. -/
theorem wpList_load_span {w : World} {ops : Array Oper} {rest : List Oper} {o : Oper} {a : Act} {Q : Exit → Act → World → Prop} (hgd : o.guard = none) (x : Operand) (ho : o.op = .load 30 x)
    (g : Nat) (hx : a.eval x = .pointer (some ⟨g, 0, none⟩)) (p q : Int) {T : TypeId} (hb : Blk w g (iv [p, q]) T)
    (h : wpList Tryd.prog ops Q rest (a.put o.dst (.agg #[.int .i64 p, .int .i64 q])) w) : wpList Tryd.prog ops Q (o :: rest) a w :=
  wpList_load_blk hgd 30 x ho g 0 hx hb _ Tryd.underlying30 rfl 2 Tryd.sizeSpan (by simp [iv]) h
theorem isP_mk (a b x z e : Int) : isP a b (x, z, e) = (decide (x = a) && decide (z = b)) := by unfold isP; by_cases h1 : x = a <;> by_cases h2 : z = b <;> simp [h1, h2]
theorem part_int (xs : Array Value) (o : Nat) (k : IntKind) (z : Int) (h : xs[o]? = some (.int k z)) (W : World) : (part 3 xs o).run Tryd.prog W = .ok (.int k z) W := by
  simp [part, Tryd.isAgg3, h]
theorem two_of {α β : Type} {g : α → β} {A B : β} : ∀ (l : List α), l.map g = [A, B] → ∃ f0 f1, l = [f0, f1] ∧ g f0 = A ∧ g f1 = B
  | [f0, f1], h => ⟨f0, f1, rfl, by simpa using h⟩
theorem fieldsSpan : ∃ f0 f1 : Field, (Tryd.prog.fieldsOf 30).toList = [f0, f1] ∧ (f0.name, f0.type, f0.offset) = ("From", 3, 0) ∧ (f1.name, f1.type, f1.offset) = ("To", 3, 1) :=
  two_of (g := fun f : Field => (f.name, f.type, f.offset)) _ (by kernel_rfl)
theorem eq_span (a b x z : Int) (W : World) : (Op.equalIn 10000 30 (.agg #[.int .i64 x, .int .i64 z]) (.agg #[.int .i64 a, .int .i64 b])).run Tryd.prog W = .ok (decide (x = a) && decide (z = b)) W := by
  obtain ⟨f0, f1, hf, h0, h1⟩ := fieldsSpan
  simp only [Prod.mk.injEq] at h0 h1
  obtain ⟨n0, t0, o0⟩ := h0
  obtain ⟨n1, t1, o1⟩ := h1
  have n0' : f0.name ≠ "_" := by rw [n0]; decide
  have n1' : f1.name ≠ "_" := by rw [n1]; decide
  rw [show (10000 : Nat) = 9999 + 1 from rfl, run_equalIn_agg W 9999 _ _ _ (by kernel_rfl) (by kernel_rfl), hf]
  simp only [Op.eqFields, Sem.run_bind, Sem.run_ite, if_pos n0', if_pos n1', t0, t1, o0, o1]
  rw [show (9999 : Nat) = 9998 + 1 from rfl]
  simp only [part_int #[.int .i64 x, .int .i64 z] 0 .i64 x rfl, part_int #[.int .i64 a, .int .i64 b] 0 .i64 a rfl, part_int #[.int .i64 x, .int .i64 z] 1 .i64 z rfl, part_int #[.int .i64 a, .int .i64 b] 1 .i64 b rfl, Result.andThen_ok, run_equalIn_int _ _ _ _ _ _ _ Tryd.underlying3]
  by_cases h1 : x = a <;> by_cases h2 : z = b <;> simp [h1, h2]
theorem wantP_enter (args : Array Value) (W : World) : (callFunc 49 args).run Tryd.prog W = .ok (.enter 49 args) W := by kernel_rfl
theorem wantF_enter (args : Array Value) (W : World) : (callFunc 52 args).run Tryd.prog W = .ok (.enter 52 args) W := by kernel_rfl
theorem wantL_enter (args : Array Value) (W : World) : (callFunc 53 args).run Tryd.prog W = .ok (.enter 53 args) W := by kernel_rfl
set_option maxRecDepth 100000 in
set_option maxHeartbeats 400000 in
theorem wantP_any (a b x z : Int) (B : Nat) (w : World) (hB : Blk w B (iv [a, b]) 30) :
    Calls Tryd.prog 49 #[.agg #[.int .i64 x, .int .i64 z], .pointer (some ⟨B, 0, none⟩)] w fun e w' => e = .returned (.bool (isP a b (x, z, 0))) ∧ Below w.heap.size w w' := by
  rw [isP_mk]
  have heq := eq_span a b x z
  have HB := Lib.hid hB
  clear hB
  go_enter Tryd.func49, Tryd.ntmps49
  go_wp2_with (refine wpList_load_span rfl (.tmp 1) rfl B rfl a b (HB.out.alloc _) ?_)
  go_ret
  exact ⟨rfl, below_a1 _ _⟩
set_option maxHeartbeats 400000 in
theorem wantF_any (a b x z : Int) (B : Nat) (w : World) (hB : Blk w B (iv [a, b]) 30) :
    Calls Tryd.prog 52 #[.agg #[.int .i64 x, .int .i64 z], .pointer (some ⟨B, 0, none⟩)] w fun e w' => e = .returned (.bool (isF a (x, z, 0))) ∧ Below w.heap.size w w' := by
  unfold isF
  have hlt := hB.lt
  have hc0 : w.cell? ⟨B, 0, none⟩ = some (.int .i64 a) := hB.cell rfl
  clear hB
  go_enter Tryd.func52, Tryd.ntmps52
  go_wp2_with fail
  go_ret
  exact ⟨ret_bool (by first | rfl | (by_cases h : x = a <;> simp [h])), below_a1 _ _⟩
set_option maxHeartbeats 400000 in
theorem wantL_any (a b x z : Int) (B : Nat) (w : World) (hB : Blk w B (iv [a, b]) 30) :
    Calls Tryd.prog 53 #[.agg #[.int .i64 x, .int .i64 z], .pointer (some ⟨B, 0, none⟩)] w fun e w' => e = .returned (.bool (isL b (x, z, 0))) ∧ Below w.heap.size w w' := by
  unfold isL
  have hlt := hB.lt
  have hc1 : w.cell? ⟨B, 1, none⟩ = some (.int .i64 b) := hB.cell rfl
  clear hB
  go_enter Tryd.func53, Tryd.ntmps53
  go_wp2_with fail
  go_ret
  exact ⟨ret_bool (by first | rfl | (by_cases h : z = b <;> simp [h])), below_a1 _ _⟩

/-! ## shortest, over a function that is handed in -/
/-- A function value that answers whether a span is wanted. -/
structure Wants (F B : Nat) (a b : Int) (f : R → Bool) : Prop where
  enter : ∀ (args : Array Value) (W : World), (callFunc F args).run Tryd.prog W = .ok (.enter F args) W
  call : ∀ (x z : Int) (W : World), Blk W B (iv [a, b]) 30 → Calls Tryd.prog F #[.agg #[.int .i64 x, .int .i64 z], .pointer (some ⟨B, 0, none⟩)] W fun e W' => e = .returned (.bool (f (x, z, 0))) ∧ Below W.heap.size W W'
def ShPost (w : World) (R : Option (List Int)) (e : Ending) (w' : World) : Prop :=
  (∃ (p : List Int) (A : Option Addr) (n c : Nat), R = some p ∧ e = .returned (.tuple #[.slice A n c, .bool true]) ∧ n = p.length ∧ Rd w' A (iv p) ∧ n ≤ c ∧ c ≤ maxLen ∧ Below w.heap.size w w') ∨
  (R = none ∧ e = .returned (.tuple #[.slice none 0 0, .bool false]) ∧ Below w.heap.size w w')
theorem dateL_len (n : Int) (k : Nat) (h : k ≤ 3) : ((dateL n).take k).length = k := by rw [List.length_take]; show min k 3 = k; omega
theorem shP_found {n : Int} {f : R → Bool} {k : Nat} (hk : k < 3) (hno : ∀ j, 1 ≤ j → j ≤ k → f (per ((dateL n).take j)) = false) (h : f (per ((dateL n).take (k + 1))) = true) : shP n f = some ((dateL n).take (k + 1)) := by
  unfold shP
  have hk' : k = 0 ∨ k = 1 ∨ k = 2 := by omega
  rcases hk' with rfl | rfl | rfl
  · rw [if_pos h]
  · rw [if_neg (by rw [hno 1 (by omega) (by omega)]; decide), if_pos h]
  · have h' : f (per (dateL n)) = true := h
    rw [if_neg (by rw [hno 1 (by omega) (by omega)]; decide), if_neg (by rw [hno 2 (by omega) (by omega)]; decide), if_pos h']
    rfl
theorem shP_nothing {n : Int} {f : R → Bool} (hno : ∀ j, 1 ≤ j → j ≤ 3 → f (per ((dateL n).take j)) = false) : shP n f = none := by
  have h3 : f (per (dateL n)) = false := hno 3 (by omega) (by omega)
  unfold shP
  rw [if_neg (by rw [hno 1 (by omega) (by omega)]; decide), if_neg (by rw [hno 2 (by omega) (by omega)]; decide), if_neg (by rw [h3]; decide)]
theorem blk_take {w : World} {g : Nat} {C : List Value} {T : TypeId} (h : Blk w g C T) (k : Nat) : Rd w (some ⟨g, 0, none⟩) (C.take k) := .inr ⟨g, 0, rfl, fun j v hv => by
  rw [Nat.zero_add]
  rw [List.getElem?_take] at hv
  split at hv
  · exact h.cell hv
  · cases hv⟩
theorem iv_take (p : List Int) (k : Nat) : iv (p.take k) = (iv p).take k := by simp [iv]
set_option maxRecDepth 100000 in
set_option maxHeartbeats 2000000 in
theorem shortest_aux (n : Int) (h1 : 1 ≤ n) (h2 : n ≤ 1022679) (F B : Nat) (a b : Int) (f : R → Bool) (hf : Wants F B a b f) (Q : Option (List Int)) (hQ : Q = shP n f) (w : World) (hM : MD w) (hB : Blk w B (iv [a, b]) 30) :
    Calls Tryd.prog 48 #[.int .i64 n, .func (.func F) #[] #[.pointer (some ⟨B, 0, none⟩)]] w (ShPost w Q) := by
  have hent := hf.enter
  have HC : Hid (∀ (x z : Int) (W : World), Blk W B (iv [a, b]) 30 → Calls Tryd.prog F #[.agg #[.int .i64 x, .int .i64 z], .pointer (some ⟨B, 0, none⟩)] W fun e W' => e = .returned (.bool (f (x, z, 0))) ∧ Below W.heap.size W W') := Lib.hid hf.call
  have HM := Lib.hid hM
  have HB := Lib.hid hB
  have HQ := Lib.hid hQ
  clear hf hM hB hQ
  go_enter Tryd.func48, Tryd.ntmps48
  go_wp2_with ((with_reducible refine (date_yes n h1 h2 _ HM.out).mono ?_); rintro e w1 ⟨rfl, rfl⟩; unfold ret4)
  go_loopg [11] 3 (fun g s11 wr => ∃ k : Nat, k + g = 3 ∧ s11 = .int .i64 ((k : Int) + 1) ∧ Hid (∀ j, 1 ≤ j → j ≤ k → f (per ((dateL n).take j)) = false) ∧ Hid (Blk wr w.heap.size (iv (dateL n)) 3 ∧ Blk wr B (iv [a, b]) 30 ∧ Below w.heap.size w wr))
  case atStart => exact ⟨0, rfl, rfl, Lib.hid fun j hj1 hj2 => by omega, Lib.hid ⟨Blk.at w (iv (dateL n)) _ 3 _ rfl rfl, HB.out.alloc _, below_a1 _ _⟩⟩
  case round =>
    obtain ⟨k, hk, rfl, HN, HI⟩ := hrel
    by_cases hlt : k < 3
    · obtain ⟨g, rfl⟩ : ∃ g, gk = g + 1 := ⟨gk - 1, by omega⟩
      have hx := ex_date h1 h2 (k + 1) (by omega) (by omega)
      have HP : Hid (Calls Tryd.prog 68 #[.slice (some ⟨w.heap.size, 0, none⟩) (k + 1) 3] wr fun e w' => e = .returned (.tuple #[.agg #[.int .i64 (fst ((dateL n).take (k + 1))), .int .i64 (lst ((dateL n).take (k + 1)))], .int .i64 0]) ∧ Below wr.heap.size wr w') :=
        Lib.hid (period_yes _ hx (some ⟨w.heap.size, 0, none⟩) (k + 1) 3 (dateL_len n (k + 1) (by omega)).symm (by omega) (by unfold maxLen; omega) wr (by rw [iv_take]; exact blk_take HI.out.1 _) (HM.out.below HI.out.2.2))
      have hper := per_ok hx
      have HRD : Hid (∀ W, Below wr.heap.size wr W → Rd W (some ⟨w.heap.size, 0, none⟩) (iv ((dateL n).take (k + 1)))) := Lib.hid fun W hb => by rw [iv_take]; exact blk_take (HI.out.1.below hb HI.out.1.lt) _
      have HL := Lib.hid (dateL_len n (k + 1) (by omega))
      have hi1 : (k : Int) + 1 ≤ 3 := by omega
      generalize hp : (dateL n).take (k + 1) = p at *
      cases hv : f (fst p, lst p, 0)
      · have HNo : Hid (f (per p) = false) := Lib.hid (by rw [hper]; exact hv)
        have HV : Hid (f (fst p, lst p, 0) = false) := Lib.hid hv
        have HPP := Lib.hid hp
        clear hv hp hper hx
        generalize fst p = x at *
        generalize lst p = z at *
        go_wp2_with (first
          | ((refine HP.out.mono ?_); rintro e w2 ⟨rfl, hb2⟩; have HX2 : Hid (Blk w2 B (iv [a, b]) 30 ∧ Below wr.heap.size wr w2) := Lib.hid ⟨HI.out.2.1.below hb2 HI.out.2.1.lt, hb2⟩; clear hb2)
          | ((refine (HC.out x z _ (HX2.out.1.alloc _)).mono ?_); rintro e w3 ⟨rfl, hb3⟩; rw [HV.out]; have HX3 : Hid (Below wr.heap.size wr w3) := Lib.hid (below_next (below_al HX2.out.2 _) hb3); clear hb3))
        go_roundg g
        case rel =>
          refine ⟨k + 1, by omega, by go_num, Lib.hid fun j hj1 hj2 => ?_, Lib.hid ⟨HI.out.1.below HX3.out HI.out.1.lt, HI.out.2.1.below HX3.out HI.out.2.1.lt, below_next HI.out.2.2 HX3.out⟩⟩
          rcases Nat.lt_or_ge k j with c | c
          · obtain rfl : j = k + 1 := by omega
            rw [HPP.out]
            exact HNo.out
          · exact HN.out j hj1 c
        case measure => omega
      · have HYes : Hid (Q = some p) := Lib.hid (by rw [HQ.out, ← hp]; exact shP_found hlt HN.out (by rw [hp, hper]; exact hv))
        have HV : Hid (f (fst p, lst p, 0) = true) := Lib.hid hv
        clear hv hp hper hx
        generalize fst p = x at *
        generalize lst p = z at *
        go_wp2_with (first
          | ((refine HP.out.mono ?_); rintro e w2 ⟨rfl, hb2⟩; have HX2 : Hid (Blk w2 B (iv [a, b]) 30 ∧ Below wr.heap.size wr w2) := Lib.hid ⟨HI.out.2.1.below hb2 HI.out.2.1.lt, hb2⟩; clear hb2)
          | ((refine (HC.out x z _ (HX2.out.1.alloc _)).mono ?_); rintro e w3 ⟨rfl, hb3⟩; rw [HV.out]; have HX3 : Hid (Below wr.heap.size wr w3) := Lib.hid (below_next (below_al HX2.out.2 _) hb3); clear hb3))
        go_ret2
        exact .inl ⟨p, _, k + 1, 3, HYes.out, rfl, HL.out.symm, HRD.out _ HX3.out, by omega, by unfold maxLen; omega, below_next HI.out.2.2 HX3.out⟩
    · obtain rfl : k = 3 := by omega
      have HE : Hid (Q = none) := Lib.hid (by rw [HQ.out]; exact shP_nothing HN.out)
      go_wp2_with fail
      go_ret2
      exact .inr ⟨HE.out, rfl, HI.out.2.2⟩
end Go.Proofs.YtkaaejfochdjcaaDoor
