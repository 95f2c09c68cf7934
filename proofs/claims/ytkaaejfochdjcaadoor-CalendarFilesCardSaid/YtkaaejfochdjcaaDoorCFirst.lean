/-
  calendar.First: the span of the first of several.
-/
import Derived.Test.YtkaaejfochdjcaaDoorCSpan
namespace Go.Proofs.YtkaaejfochdjcaaDoor
open Go.RowKit
open Cal
set_option linter.unusedVariables false
set_option linter.unusedSimpArgs false

/-- The cells of a list of spans. -/
def sv (l : List (Int × Int)) : List Value := l.flatMap fun x => [.int .i64 x.1, .int .i64 x.2]
theorem sv_length (l : List (Int × Int)) : (sv l).length = 2 * l.length := by
  induction l with
  | nil => rfl
  | cons x t ih => simp only [sv, List.flatMap_cons, List.length_append, List.length_cons] at ih ⊢; rw [ih]; simp; omega
theorem sv_get (l : List (Int × Int)) (k : Nat) (h : k < l.length) : (sv l)[2 * k]? = some (.int .i64 (l.getD k (0, 0)).1) ∧ (sv l)[2 * k + 1]? = some (.int .i64 (l.getD k (0, 0)).2) := by
  induction l generalizing k with
  | nil => simp at h
  | cons x t ih =>
    cases k with
    | zero => exact ⟨rfl, rfl⟩
    | succ k =>
      have := ih k (by simpa using h)
      have e1 : (sv (x :: t))[2 * (k + 1)]? = (sv t)[2 * k]? := by
        show ([Value.int .i64 x.1, Value.int .i64 x.2] ++ sv t)[2 * k + 2]? = _
        rw [List.getElem?_append_right (by simp)]
        rfl
      have e2 : (sv (x :: t))[2 * (k + 1) + 1]? = (sv t)[2 * k + 1]? := by
        show ([Value.int .i64 x.1, Value.int .i64 x.2] ++ sv t)[2 * k + 3]? = _
        rw [List.getElem?_append_right (by simp)]
        rfl
      rw [e1, e2]
      simpa [List.getD] using this
theorem drop_getD (l : List (Int × Int)) (k : Nat) (h : k < l.length) : l.drop k = l.getD k (0, 0) :: l.drop (k + 1) := by rw [List.drop_eq_getElem_cons h]; simp [List.getD, h]
set_option maxRecDepth 100000 in
set_option maxHeartbeats 2000000 in
theorem first_nil (A : Option Addr) (c : Nat) (w : World) : Calls Tryd.prog 19 #[.slice A 0 c] w fun e w' => e = retM none ∧ Below w.heap.size w w' := by
  rw [retM_none]
  go_enter Tryd.func19, Tryd.ntmps19
  go_wp2_with fail
  exact ret_m rfl w.heap.size rfl _ rfl (Blk.at w (iv [0, 0]) _ 30 _ rfl rfl) rfl ⟨rfl, below_a1 _ _⟩
set_option maxRecDepth 100000 in
set_option maxHeartbeats 2000000 in
theorem first_aux (l : List (Int × Int)) (n : Nat) (hn : n = l.length) (h0 : 0 < n) (Q : Option (Int × Int)) (hQ : Q = fgo (1022679, 1022679) l) (b o c : Nat) (hc : n ≤ c) (hm : c ≤ maxLen) (w : World) (hr : ∀ j v, (sv l)[j]? = some v → w.cell? ⟨b, o + j, none⟩ = some v) :
    Calls Tryd.prog 19 #[.slice (some ⟨b, o, none⟩) n c] w fun e w' => e = retM Q ∧ Below w.heap.size w w' := by
  have hm' : c ≤ 9223372036854775807 := by unfold maxLen at hm; omega
  have hn0 : ((n : Int) == 0) = false := beq_eq_false_iff_ne.2 (by omega)
  have HR : Hid (∀ k, k < n → w.cell? ⟨b, o + k * 2, none⟩ = some (.int .i64 (l.getD k (0, 0)).1) ∧ w.cell? ⟨b, o + k * 2 + 1, none⟩ = some (.int .i64 (l.getD k (0, 0)).2) ∧ b < w.heap.size) := Lib.hid fun k hk => by
    have hg := sv_get l k (by omega)
    have h1 := hr _ _ hg.1
    have h2 := hr _ _ hg.2
    rw [Nat.mul_comm]
    exact ⟨h1, by rw [Nat.add_assoc]; exact h2, World.block_lt_of_cell? w _ h1⟩
  have HN := Lib.hid hn
  have HQ := Lib.hid hQ
  clear hr hn hQ
  go_enter Tryd.func19, Tryd.ntmps19
  go_wp2_with fail
  go_loopg [14] n (fun g s14 wr => ∃ (k : Nat) (x z : Int), k + g = n ∧ s14 = .int .i64 (k : Int) ∧ Hid (Q = fgo (x, z) (l.drop k)) ∧ Hid (Blk wr w.heap.size (iv [0, 0]) 30 ∧ Blk wr (w.heap.size + 1) (iv [x, z]) 30 ∧ Below w.heap.size w wr))
  case atStart => exact ⟨0, 1022679, 1022679, by omega, rfl, HQ, Lib.hid ⟨(Blk.at w (iv [0, 0]) _ 30 _ rfl rfl).alloc _, Blk.at _ (iv [1022679, 1022679]) _ 30 _ rfl (by simp), below_al (below_a1 _ _) _⟩⟩
  case round =>
    obtain ⟨k, x, z, hk, rfl, HF, HI⟩ := hrel
    by_cases hlt : k < n
    · obtain ⟨g, rfl⟩ : ∃ g, gk = g + 1 := ⟨gk - 1, by omega⟩
      obtain ⟨y, hy⟩ : ∃ y, y = l.getD k (0, 0) := ⟨_, rfl⟩
      have hr := HR.out k hlt
      rw [← hy] at hr
      obtain ⟨p, q⟩ := y
      have hc0 : wr.cell? ⟨b, o + k * 2, none⟩ = some (.int .i64 p) := (HI.out.2.2.cell (p := ⟨b, o + k * 2, none⟩) hr.2.2).trans hr.1
      have hc1 : wr.cell? ⟨b, o + k * 2 + 1, none⟩ = some (.int .i64 q) := (HI.out.2.2.cell (p := ⟨b, o + k * 2 + 1, none⟩) hr.2.2).trans hr.2.1
      have HD : Hid (l.drop k = (p, q) :: l.drop (k + 1)) := Lib.hid (by rw [hy]; exact drop_getD l k (by rw [← HN.out]; exact hlt))
      clear hr hy
      cases hv : vaB p q
      · have HV : Hid (∀ W, Calls Tryd.prog 21 #[.agg #[.int .i64 p, .int .i64 q]] W fun e w' => e = .returned (.bool false) ∧ Below W.heap.size W w') := Lib.hid fun W => valid_no _ _ hv W
        have HE : Hid (Q = none) := Lib.hid (by rw [HF.out, HD.out]; exact fgo_no _ _ _ hv)
        clear hv
        go_wp2_with (first
          | ((with_reducible refine (HV.out _).mono ?_); rintro e w1 ⟨rfl, hb1⟩; have HX1 : Hid (Blk w1 w.heap.size (iv [0, 0]) 30 ∧ Below w.heap.size w w1) := Lib.hid ⟨(HI.out.1.alloc _).below hb1 (by simp; have := HI.out.1.lt; omega), below_next (below_al HI.out.2.2 _) hb1⟩; clear hb1)
          | (refine wpList_store_blk rfl 30 (.tmp 2) (.tmp 21) rfl w.heap.size 0 rfl (iv [0, 0]) rfl HX1.out.1 2 Tryd.sizeSpan rfl (by simp [iv]) (iv_one _) ?_; intro w9 hst9; have HX9 : Hid (Blk w9 w.heap.size (iv [0, 0]) 30 ∧ Below w.heap.size w w9) := Lib.hid ⟨hst9.1, hst9.below HX1.out.2 (by omega)⟩; clear hst9))
        rw [HE.out, retM_none]
        exact ret_m rfl w.heap.size rfl _ rfl HX9.out.1 rfl ⟨rfl, HX9.out.2⟩
      · have HV : Hid (∀ W, Calls Tryd.prog 21 #[.agg #[.int .i64 p, .int .i64 q]] W fun e w' => e = .returned (.bool true) ∧ Below W.heap.size W w') := Lib.hid fun W => valid_yes _ _ hv W
        have HE : Hid (Q = fgo (min x p, min z q) (l.drop (k + 1))) := Lib.hid (by rw [HF.out, HD.out]; exact fgo_yes _ _ _ hv)
        clear hv
        go_wp2_with (first
          | ((with_reducible refine (HV.out _).mono ?_); rintro e w1 ⟨rfl, hb1⟩; have HX1 : Hid (Blk w1 w.heap.size (iv [0, 0]) 30 ∧ Blk w1 (w.heap.size + 1) (iv [x, z]) 30 ∧ Below w.heap.size w w1) := Lib.hid ⟨(HI.out.1.alloc _).below hb1 (by simp; have := HI.out.1.lt; omega), (HI.out.2.1.alloc _).below hb1 (by simp; have := HI.out.2.1.lt; omega), below_next (below_al HI.out.2.2 _) hb1⟩; have hca : w1.cell? ⟨w.heap.size + 1, 0, none⟩ = some (.int .i64 x) := HX1.out.2.1.cell rfl; have hcb : w1.cell? ⟨w.heap.size + 1, 1, none⟩ = some (.int .i64 z) := HX1.out.2.1.cell rfl; have hcp : w1.cell? ⟨wr.heap.size, 0, none⟩ = some (.int .i64 p) := ((Blk.at wr (iv [p, q]) _ 30 _ rfl rfl).below hb1 (by simp)).cell rfl; have hcq : w1.cell? ⟨wr.heap.size, 1, none⟩ = some (.int .i64 q) := ((Blk.at wr (iv [p, q]) _ 30 _ rfl rfl).below hb1 (by simp)).cell rfl; clear hb1)
          | (refine wpList_store_blk rfl 30 (.tmp 4) (.tmp 32) rfl (w.heap.size + 1) 0 rfl (iv [min x p, min z q]) rfl HX1.out.2.1 2 Tryd.sizeSpan rfl (by simp [iv]) (iv_one _) ?_; intro w9 hst9; have HX9 : Hid (Blk w9 w.heap.size (iv [0, 0]) 30 ∧ Blk w9 (w.heap.size + 1) (iv [min x p, min z q]) 30 ∧ Below w.heap.size w w9) := Lib.hid ⟨hst9.other HX1.out.1 (by omega), hst9.1, hst9.below HX1.out.2.2 (by omega)⟩; clear hst9))
        go_roundg g
        case rel => exact ⟨k + 1, _, _, by omega, by go_num, HE, HX9⟩
        case measure => omega
    · obtain rfl : k = n := by omega
      have HE : Hid (Q = some (x, z)) := Lib.hid (by rw [HF.out, HN.out, List.drop_length, fgo_nil])
      go_wp2_with (first
        | (refine wpList_load_w2 (by rfl) (.tmp 4) rfl (w.heap.size + 1) rfl x z HI.out.2.1 ?_)
        | (refine wpList_store_blk rfl 30 (.tmp 2) (.tmp 34) rfl w.heap.size 0 rfl (iv [x, z]) rfl HI.out.1 2 Tryd.sizeSpan rfl (by simp [iv]) (iv_one _) ?_; intro w9 hst9; have HX9 : Hid (Blk w9 w.heap.size (iv [x, z]) 30 ∧ Below w.heap.size w w9) := Lib.hid ⟨hst9.1, hst9.below HI.out.2.2 (by omega)⟩; clear hst9))
      rw [HE.out, retM_some]
      exact ret_m rfl w.heap.size rfl _ rfl HX9.out.1 rfl ⟨rfl, HX9.out.2⟩
theorem first_any (l : List (Int × Int)) (A : Option Addr) (n c : Nat) (hn : n = l.length) (hc : n ≤ c) (hm : c ≤ maxLen) (w : World) (hr : Rd w A (sv l)) : Calls Tryd.prog 19 #[.slice A n c] w fun e w' => e = retM (firstP l) ∧ Below w.heap.size w w' := by
  cases l with
  | nil =>
    obtain rfl : n = 0 := hn
    exact first_nil A c w
  | cons x t =>
    obtain ⟨b, o, rfl, hcell⟩ := hr.open (by simp [sv])
    exact first_aux (x :: t) n hn (by rw [hn]; simp) _ (by unfold firstP; rw [if_neg (by simp)]) b o c hc hm w hcell
end Go.Proofs.YtkaaejfochdjcaaDoor
