/-
  The reference's number and Text: digits, and the text of a date.
-/
import Derived.Test.YtkaaejfochdjcaaDoorCRDay
import Derived.Test.YtkaaejfochdjcaaDoorCBtw
import Derived.Deep.LoopGhost
namespace Go.Proofs.YtkaaejfochdjcaaDoor
open Go.RowKit
open Cal
set_option linter.unusedVariables false
set_option linter.unusedSimpArgs false

theorem tb_getk (l : List UInt8) (k : Nat) (h : k < (tb l).size) (hk : k < l.length) : (tb l)[k] = l[k] := rfl
theorem tb_sub (l : List UInt8) (a b : Nat) : (tb l).extract a b = tb ((l.drop a).take (b - a)) := by
  apply ByteArray.ext
  apply Array.ext'
  simp [tb, ByteArray.data_extract]
def numR (l : List UInt8) : Int × Bool := match nm l with | some n => (n, true) | none => (0, false)
theorem nmGo_nil (n : Int) : nmGo n [] = some n := rfl
theorem nmGo_dig (n : Int) (c : UInt8) (t : List UInt8) (h : isD c = true) : nmGo n (c :: t) = nmGo (10 * n + ((c.toNat : Int) - 48)) t := by rw [nmGo, if_pos h]
theorem nmGo_no (n : Int) (c : UInt8) (t : List UInt8) (h : isD c = false) : nmGo n (c :: t) = none := by rw [nmGo, if_neg (by rw [h]; decide)]
def NumPost (w : World) (Q : Option Int) (e : Ending) (w' : World) : Prop := e = .returned (.tuple #[.int .i64 (match Q with | some n => (n, true) | none => ((0 : Int), false)).1, .bool (match Q with | some n => (n, true) | none => ((0 : Int), false)).2]) ∧ w = w'
set_option maxHeartbeats 1000000 in
theorem rnum_aux (l : List UInt8) (hl : l.length ≤ 4) (Q : Option Int) (hQ : Q = nmGo 0 l) (w : World) : Calls Tryd.prog 46 #[.string (tb l)] w (NumPost w Q) := by
  obtain ⟨m, hm⟩ : ∃ m, m = l.length := ⟨_, rfl⟩
  have hsz : (tb l).size = m := by rw [tb_size, hm]
  rw [← hm] at hl
  have HM := Lib.hid hm
  have HQ := Lib.hid hQ
  clear hm hQ
  go_enter Tryd.func46, Tryd.ntmps46
  go_wp2_with fail
  go_loopg [4, 5] m (fun g s4 s5 wr => ∃ (k : Nat) (n : Int), k + g = m ∧ s5 = .int .i64 (k : Int) ∧ s4 = .int .i64 n ∧ 0 ≤ n ∧ n < 10 ^ k ∧ Hid (Q = nmGo n (l.drop k)) ∧ w = wr)
  case atStart => exact ⟨0, 0, by omega, rfl, rfl, by omega, by decide, HQ, rfl⟩
  case round =>
    obtain ⟨k, n, hk, rfl, rfl, hn0, hn1, HF, rfl⟩ := hrel
    by_cases hlt : k < m
    · obtain ⟨g, rfl⟩ : ∃ g, gk = g + 1 := ⟨gk - 1, by omega⟩
      have hkl : k < l.length := by rw [← HM.out]; exact hlt
      obtain ⟨c, hc⟩ : ∃ c, c = l[k] := ⟨_, rfl⟩
      have hg : (tb l)[k]'(by rw [hsz]; exact hlt) = c := by rw [hc]; rfl
      have HD : Hid (l.drop k = c :: l.drop (k + 1)) := Lib.hid (by rw [hc]; exact List.drop_eq_getElem_cons hkl)
      have hn9 : n ≤ 999 := by
        have hj3 : k ≤ 3 := by omega
        have : (10 : Int) ^ k ≤ 10 ^ 3 := by
          have := Nat.pow_le_pow_right (n := 10) (by omega) hj3
          exact_mod_cast this
        omega
      have HPOW : Hid ((10 : Int) ^ (k + 1) = 10 * 10 ^ k) := Lib.hid (by rw [Int.pow_succ]; omega)
      have HN1 := Lib.hid hn1
      clear hc hn1
      by_cases h1 : 48 ≤ c.toNat
      · by_cases h2 : c.toNat ≤ 57
        · have HI : Hid (isD c = true) := Lib.hid ((isD_iff c).2 ⟨h1, h2⟩)
          go_wp2_with fail
          go_roundg g
          case rel => exact ⟨k + 1, 10 * n + ((c.toNat : Int) - 48), by omega, by go_num, by go_num, by omega, by rw [HPOW.out]; have := HN1.out; omega, Lib.hid (by rw [HF.out, HD.out, nmGo_dig _ _ _ HI.out]), rfl⟩
          case measure => omega
        · have HI : Hid (isD c = false) := Lib.hid (by have := isD_iff c; cases e : isD c; rfl; exact absurd ((this.1 e).2) h2)
          have HE : Hid (Q = none) := Lib.hid (by rw [HF.out, HD.out, nmGo_no _ _ _ HI.out])
          go_wp2_with fail
          go_ret2
          exact ⟨by rw [HE.out]; rfl, rfl⟩
      · have HI : Hid (isD c = false) := Lib.hid (by have := isD_iff c; cases e : isD c; rfl; exact absurd ((this.1 e).1) h1)
        have HE : Hid (Q = none) := Lib.hid (by rw [HF.out, HD.out, nmGo_no _ _ _ HI.out])
        go_wp2_with fail
        go_ret2
        exact ⟨by rw [HE.out]; rfl, rfl⟩
    · obtain rfl : k = m := by omega
      have HE : Hid (Q = some n) := Lib.hid (by rw [HF.out, HM.out, List.drop_length, nmGo_nil])
      go_wp2_with fail
      go_ret2
      exact ⟨by rw [HE.out]; rfl, rfl⟩
theorem rnum_any (l : List UInt8) (hl : l.length ≤ 4) (w : World) : Calls Tryd.prog 46 #[.string (tb l)] w fun e w' => e = .returned (.tuple #[.int .i64 (numR l).1, .bool (numR l).2]) ∧ w = w' :=
  (rnum_aux l hl _ rfl w).mono fun e w' h => h

theorem rtx4 {l : List UInt8} (hl : l.length = 4) {y : Int} {b : Bool} (h : numR l = (y, b)) : rtx l = if b then per [y] else eForm := by
  unfold rtx
  rw [if_pos hl]
  unfold numR at h
  cases e : nm l with
  | none => rw [e] at h; simp only [Prod.mk.injEq] at h; rw [← h.2]; rfl
  | some z => rw [e] at h; simp only [Prod.mk.injEq] at h; rw [← h.2, ← h.1]; rfl
theorem rtx7 {l : List UInt8} (hl : l.length = 7) {y m : Int} {b1 b2 d : Bool} (h1 : numR (l.take 4) = (y, b1)) (h2 : numR ((l.drop 5).take 2) = (m, b2)) (hd : decide (l[4]? = some 45) = d) : rtx l = if b1 && (b2 && d) then per [y, m] else eForm := by
  unfold rtx
  rw [if_neg (by omega), if_pos hl]
  unfold numR at h1 h2
  subst hd
  cases e : nm (l.take 4) with
  | none => rw [e] at h1; simp only [Prod.mk.injEq] at h1; rw [← h1.2]; rfl
  | some z =>
    rw [e] at h1
    simp only [Prod.mk.injEq] at h1
    cases e2 : nm ((l.drop 5).take 2) with
    | none => rw [e2] at h2; simp only [Prod.mk.injEq] at h2; rw [← h1.2, ← h2.2]; rfl
    | some x =>
      rw [e2] at h2
      simp only [Prod.mk.injEq] at h2
      rw [← h1.2, ← h2.2, ← h1.1, ← h2.1]
      by_cases hq : l[4]? = some 45 <;> simp [hq]
theorem rtx10 {l : List UInt8} (hl : l.length = 10) {y m k : Int} {b1 b2 b3 d d7 : Bool} (h1 : numR (l.take 4) = (y, b1)) (h2 : numR ((l.drop 5).take 2) = (m, b2)) (h3 : numR (l.drop 8) = (k, b3)) (hd : decide (l[4]? = some 45) = d) (hd7 : decide (l[7]? = some 45) = d7) :
    rtx l = if b1 && (b2 && d) && (b3 && d7) then per [y, m, k] else eForm := by
  unfold rtx
  rw [if_neg (by omega), if_neg (by omega), if_pos hl]
  unfold numR at h1 h2 h3
  subst hd hd7
  cases e : nm (l.take 4) with
  | none => rw [e] at h1; simp only [Prod.mk.injEq] at h1; rw [← h1.2]; rfl
  | some z =>
    rw [e] at h1
    simp only [Prod.mk.injEq] at h1
    cases e2 : nm ((l.drop 5).take 2) with
    | none => rw [e2] at h2; simp only [Prod.mk.injEq] at h2; rw [← h1.2, ← h2.2]; rfl
    | some x =>
      rw [e2] at h2
      simp only [Prod.mk.injEq] at h2
      cases e3 : nm (l.drop 8) with
      | none => rw [e3] at h3; simp only [Prod.mk.injEq] at h3; rw [← h1.2, ← h2.2, ← h3.2]; simp
      | some u =>
        rw [e3] at h3
        simp only [Prod.mk.injEq] at h3
        rw [← h1.2, ← h2.2, ← h3.2, ← h1.1, ← h2.1, ← h3.1]
        by_cases hq : l[4]? = some 45 <;> by_cases hq7 : l[7]? = some 45 <;> simp [hq, hq7]
theorem rtx_no {l : List UInt8} (h4 : l.length ≠ 4) (h7 : l.length ≠ 7) (h10 : l.length ≠ 10) : rtx l = eForm := by unfold rtx; rw [if_neg h4, if_neg h7, if_neg h10]
theorem per_is {p : List Int} (h : ¬ ExP p) : per p = eRange := by
  rcases per_err p with e | e
  · exact absurd (per_no e) h
  · exact e
def TextPost (w : World) (Q : R) (e : Ending) (w' : World) : Prop := e = retR Q ∧ Below w.heap.size w w'

set_option maxRecDepth 100000 in
set_option maxHeartbeats 4000000 in
theorem rtext_no (l : List UInt8) (hm : l.length ≤ maxLen) (h4 : l.length ≠ 4) (h7 : l.length ≠ 7) (h10 : l.length ≠ 10) (Q : R) (hQ : Q = eForm) (w : World) : Calls Tryd.prog 47 #[.string (tb l)] w (TextPost w Q) := by
  have hm' : l.length ≤ 9223372036854775807 := by unfold maxLen at hm; omega
  have hsz : (tb l).size = l.length := tb_size l
  have HQ := Lib.hid hQ
  clear hm hQ
  generalize l.length = n at *
  generalize tb l = S at *
  have hb4 : ((n : Int) != 4) = true := bne_iff_ne.2 (by omega)
  have hb7 : ((n : Int) != 7) = true := bne_iff_ne.2 (by omega)
  have hb10 : ((n : Int) != 10) = true := bne_iff_ne.2 (by omega)
  go_enter Tryd.func47, Tryd.ntmps47
  go_wp2_with fail
  exact ret_span rfl w.heap.size rfl _ rfl (Blk.at w (iv [_, _]) _ 30 _ rfl rfl) _ Tryd.underlying30 rfl Tryd.sizeSpan rfl ⟨by rw [HQ.out]; rfl, below_a1 _ _⟩

set_option maxRecDepth 100000 in
set_option maxHeartbeats 4000000 in
theorem rtext_4 (l : List UInt8) (hl : l.length = 4) (Q : R) (hQ : Q = rtx l) (w : World) : Calls Tryd.prog 47 #[.string (tb l)] w (TextPost w Q) := by
  have hsz : (tb l).size = 4 := by rw [tb_size, hl]
  obtain ⟨⟨y, b1⟩, hy⟩ : ∃ r, numR l = r := ⟨_, rfl⟩
  rw [rtx4 hl hy] at hQ
  have hx1 : (tb l).extract 0 4 = tb l := by rw [tb_sub, List.drop_zero, List.take_of_length_le (by omega)]
  have HN1 : Hid (∀ W, Calls Tryd.prog 46 #[.string (tb (l))] W fun e w' => e = .returned (.tuple #[.int .i64 y, .bool b1]) ∧ W = w') := Lib.hid fun W => by have := rnum_any (l) (by omega) W; rw [hy] at this; exact this
  clear hy hl
  cases b1
  · have HE : Hid (Q = eForm) := Lib.hid hQ
    clear hQ
    go_enter Tryd.func47, Tryd.ntmps47
    go_wp2_with (first
      | ((with_reducible refine (HN1.out _).mono ?_); rintro e w1 ⟨rfl, rfl⟩))
    exact ret_span rfl w.heap.size rfl _ rfl (Blk.at w (iv [_, _]) _ 30 _ rfl rfl) _ Tryd.underlying30 rfl Tryd.sizeSpan rfl ⟨by rw [HE.out]; rfl, below_a1 _ _⟩
  · by_cases hx : ExP [y]
    · have HE : Hid (Q = (num y 1 1, num y 12 31, 0)) := Lib.hid (by rw [hQ, if_pos rfl, per_ok hx, (fst1 hx).1, (fst1 hx).2])
      have y1 := hx.1
      have y2 := hx.2.1
      have HD1 : Hid (∀ W, Calls Tryd.prog 13 #[.int .i64 y, .int .i64 1, .int .i64 1] W fun e w' => e = .returned (.tuple #[.int .i64 (num y 1 1), .int .i64 0]) ∧ W = w') := Lib.hid fun W => rday_yes y 1 1 (ex_first y1 y2) W
      have HD2 : Hid (∀ W, Calls Tryd.prog 13 #[.int .i64 y, .int .i64 12, .int .i64 31] W fun e w' => e = .returned (.tuple #[.int .i64 (num y 12 31), .int .i64 0]) ∧ W = w') := Lib.hid fun W => rday_yes y 12 31 (ex_last y1 y2) W
      have HL : Hid (∀ W, Calls Tryd.prog 41 #[.int .i64 y, .int .i64 12] W fun e w' => e = .returned (.int .i64 31) ∧ W = w') := Lib.hid fun W => by have := rlen_any y 12 y1 (by omega) W; rw [ml_31 y (m := 12) (by omega) (by omega)] at this; exact this
      clear hx hQ
      go_enter Tryd.func47, Tryd.ntmps47
      go_wp2_with (first
        | ((with_reducible refine (HN1.out _).mono ?_); rintro e w1 ⟨rfl, rfl⟩)
        | ((with_reducible refine (HD1.out _).mono ?_); rintro e w1 ⟨rfl, rfl⟩)
        | ((with_reducible refine (HL.out _).mono ?_); rintro e w1 ⟨rfl, rfl⟩)
        | ((with_reducible refine (HD2.out _).mono ?_); rintro e w1 ⟨rfl, rfl⟩))
      exact ret_span rfl w.heap.size rfl _ rfl (Blk.at w (iv [_, _]) _ 30 _ rfl rfl) _ Tryd.underlying30 rfl Tryd.sizeSpan rfl ⟨by rw [HE.out]; rfl, below_a1 _ _⟩
    · have HE : Hid (Q = eRange) := Lib.hid (by rw [hQ, if_pos rfl, per_is hx])
      have HD1 : Hid (∀ W, Calls Tryd.prog 13 #[.int .i64 y, .int .i64 1, .int .i64 1] W fun e w' => e = .returned (.tuple #[.int .i64 0, .int .i64 5]) ∧ W = w') := Lib.hid fun W => rday_no y 1 1 hx W
      clear hx hQ
      go_enter Tryd.func47, Tryd.ntmps47
      go_wp2_with (first
        | ((with_reducible refine (HN1.out _).mono ?_); rintro e w1 ⟨rfl, rfl⟩)
        | ((with_reducible refine (HD1.out _).mono ?_); rintro e w1 ⟨rfl, rfl⟩))
      exact ret_span rfl w.heap.size rfl _ rfl (Blk.at w (iv [_, _]) _ 30 _ rfl rfl) _ Tryd.underlying30 rfl Tryd.sizeSpan rfl ⟨by rw [HE.out]; rfl, below_a1 _ _⟩

theorem dash_fact (l : List UInt8) (k : Nat) (h : k < l.length) : decide (l[k]? = some 45) = (((l[k].toNat : Nat) : Int) == 45) := by
  rw [List.getElem?_eq_getElem h]
  by_cases e : l[k] = 45
  · rw [e]; rfl
  · have e2 : ¬ ((l[k].toNat : Nat) : Int) = 45 := fun h' => e (u8_eq (by have : (45 : UInt8).toNat = 45 := rfl; omega))
    simp [e, e2]
set_option maxRecDepth 100000 in
set_option maxHeartbeats 8000000 in
theorem rtext_7 (l : List UInt8) (hl : l.length = 7) (Q : R) (hQ : Q = rtx l) (w : World) : Calls Tryd.prog 47 #[.string (tb l)] w (TextPost w Q) := by
  have hsz : (tb l).size = 7 := by rw [tb_size, hl]
  obtain ⟨⟨y, b1⟩, hy⟩ : ∃ r, numR (l.take 4) = r := ⟨_, rfl⟩
  obtain ⟨⟨m, b2⟩, hm⟩ : ∃ r, numR ((l.drop 5).take 2) = r := ⟨_, rfl⟩
  obtain ⟨d, hd⟩ : ∃ d, decide (l[4]? = some 45) = d := ⟨_, rfl⟩
  rw [rtx7 hl hy hm hd] at hQ
  have hx1 : (tb l).extract 0 4 = tb (l.take 4) := by rw [tb_sub, List.drop_zero]
  have hx2 : (tb l).extract 5 7 = tb ((l.drop 5).take 2) := tb_sub l 5 7
  have HN1 : Hid (∀ W, Calls Tryd.prog 46 #[.string (tb (l.take 4))] W fun e w' => e = .returned (.tuple #[.int .i64 y, .bool b1]) ∧ W = w') := Lib.hid fun W => by have := rnum_any (l.take 4) (by first | (simp; done) | (simp; omega)) W; rw [hy] at this; exact this
  have HN2 : Hid (∀ W, Calls Tryd.prog 46 #[.string (tb ((l.drop 5).take 2))] W fun e w' => e = .returned (.tuple #[.int .i64 m, .bool b2]) ∧ W = w') := Lib.hid fun W => by have := rnum_any ((l.drop 5).take 2) (by first | (simp; done) | (simp; omega)) W; rw [hm] at this; exact this
  rw [dash_fact l 4 (by omega)] at hd
  obtain ⟨c, hc⟩ : ∃ c, c = l[4] := ⟨_, rfl⟩
  have hg : (tb l)[4]'(by rw [hsz]; omega) = c := by rw [hc]; rfl
  rw [← hc] at hd
  clear hy hm hl hc
  generalize tb (l.take 4) = S1 at *
  generalize tb ((l.drop 5).take 2) = S2 at *
  generalize tb l = S at *
  cases b1
  · cases b2
    · have HE : Hid (Q = eForm) := Lib.hid hQ
      clear hQ
      go_enter Tryd.func47, Tryd.ntmps47
      go_wp2_with (first
        | ((with_reducible refine (HN1.out _).mono ?_); rintro e w1 ⟨rfl, rfl⟩)
        | ((with_reducible refine (HN2.out _).mono ?_); rintro e w1 ⟨rfl, rfl⟩))
      exact ret_span rfl w.heap.size rfl _ rfl (Blk.at w (iv [_, _]) _ 30 _ rfl rfl) _ Tryd.underlying30 rfl Tryd.sizeSpan rfl ⟨by rw [HE.out]; rfl, below_a1 _ _⟩
    · cases d
      · have HE : Hid (Q = eForm) := Lib.hid hQ
        clear hQ
        go_enter Tryd.func47, Tryd.ntmps47
        go_wp2_with (first
          | ((with_reducible refine (HN1.out _).mono ?_); rintro e w1 ⟨rfl, rfl⟩)
          | ((with_reducible refine (HN2.out _).mono ?_); rintro e w1 ⟨rfl, rfl⟩))
        exact ret_span rfl w.heap.size rfl _ rfl (Blk.at w (iv [_, _]) _ 30 _ rfl rfl) _ Tryd.underlying30 rfl Tryd.sizeSpan rfl ⟨by rw [HE.out]; rfl, below_a1 _ _⟩
      · have HE : Hid (Q = eForm) := Lib.hid hQ
        clear hQ
        go_enter Tryd.func47, Tryd.ntmps47
        go_wp2_with (first
          | ((with_reducible refine (HN1.out _).mono ?_); rintro e w1 ⟨rfl, rfl⟩)
          | ((with_reducible refine (HN2.out _).mono ?_); rintro e w1 ⟨rfl, rfl⟩))
        exact ret_span rfl w.heap.size rfl _ rfl (Blk.at w (iv [_, _]) _ 30 _ rfl rfl) _ Tryd.underlying30 rfl Tryd.sizeSpan rfl ⟨by rw [HE.out]; rfl, below_a1 _ _⟩
  · cases b2
    · have HE : Hid (Q = eForm) := Lib.hid hQ
      clear hQ
      go_enter Tryd.func47, Tryd.ntmps47
      go_wp2_with (first
        | ((with_reducible refine (HN1.out _).mono ?_); rintro e w1 ⟨rfl, rfl⟩)
        | ((with_reducible refine (HN2.out _).mono ?_); rintro e w1 ⟨rfl, rfl⟩))
      exact ret_span rfl w.heap.size rfl _ rfl (Blk.at w (iv [_, _]) _ 30 _ rfl rfl) _ Tryd.underlying30 rfl Tryd.sizeSpan rfl ⟨by rw [HE.out]; rfl, below_a1 _ _⟩
    · cases d
      · have HE : Hid (Q = eForm) := Lib.hid hQ
        clear hQ
        go_enter Tryd.func47, Tryd.ntmps47
        go_wp2_with (first
          | ((with_reducible refine (HN1.out _).mono ?_); rintro e w1 ⟨rfl, rfl⟩)
          | ((with_reducible refine (HN2.out _).mono ?_); rintro e w1 ⟨rfl, rfl⟩))
        exact ret_span rfl w.heap.size rfl _ rfl (Blk.at w (iv [_, _]) _ 30 _ rfl rfl) _ Tryd.underlying30 rfl Tryd.sizeSpan rfl ⟨by rw [HE.out]; rfl, below_a1 _ _⟩
      · by_cases hx : ExP [y, m]
        · have HE : Hid (Q = (num y m 1, num y m (ml y m), 0)) := Lib.hid (by rw [hQ]; simp only [Bool.and_self, if_true]; rw [per_ok hx, (fst2 hx).1, (fst2 hx).2])
          have hml := ml_bd y m
          have y1 := hx.1
          have y2 := hx.2.1
          have hlast : Ex y m (ml y m) := ⟨y1, y2, hx.2.2.1, hx.2.2.2.1, by omega, by omega⟩
          have HD1 : Hid (∀ W, Calls Tryd.prog 13 #[.int .i64 y, .int .i64 m, .int .i64 1] W fun e w' => e = .returned (.tuple #[.int .i64 (num y m 1), .int .i64 0]) ∧ W = w') := Lib.hid fun W => rday_yes y m 1 hx W
          have HD2 : Hid (∀ W, Calls Tryd.prog 13 #[.int .i64 y, .int .i64 m, .int .i64 (ml y m)] W fun e w' => e = .returned (.tuple #[.int .i64 (num y m (ml y m)), .int .i64 0]) ∧ W = w') := Lib.hid fun W => rday_yes y m _ hlast W
          have HL : Hid (∀ W, Calls Tryd.prog 41 #[.int .i64 y, .int .i64 m] W fun e w' => e = .returned (.int .i64 (ml y m)) ∧ W = w') := Lib.hid fun W => rlen_any y m y1 (by omega) W
          clear hx hQ hlast
          go_enter Tryd.func47, Tryd.ntmps47
          go_wp2_with (first
            | ((with_reducible refine (HN1.out _).mono ?_); rintro e w1 ⟨rfl, rfl⟩)
            | ((with_reducible refine (HN2.out _).mono ?_); rintro e w1 ⟨rfl, rfl⟩)
            | ((with_reducible refine (HD1.out _).mono ?_); rintro e w1 ⟨rfl, rfl⟩)
            | ((with_reducible refine (HL.out _).mono ?_); rintro e w1 ⟨rfl, rfl⟩)
            | ((with_reducible refine (HD2.out _).mono ?_); rintro e w1 ⟨rfl, rfl⟩))
          exact ret_span rfl w.heap.size rfl _ rfl (Blk.at w (iv [_, _]) _ 30 _ rfl rfl) _ Tryd.underlying30 rfl Tryd.sizeSpan rfl ⟨by rw [HE.out]; rfl, below_a1 _ _⟩
        · have HE : Hid (Q = eRange) := Lib.hid (by rw [hQ]; simp only [Bool.and_self, if_true]; rw [per_is hx])
          have HD1 : Hid (∀ W, Calls Tryd.prog 13 #[.int .i64 y, .int .i64 m, .int .i64 1] W fun e w' => e = .returned (.tuple #[.int .i64 0, .int .i64 5]) ∧ W = w') := Lib.hid fun W => rday_no y m 1 hx W
          clear hx hQ
          go_enter Tryd.func47, Tryd.ntmps47
          go_wp2_with (first
            | ((with_reducible refine (HN1.out _).mono ?_); rintro e w1 ⟨rfl, rfl⟩)
            | ((with_reducible refine (HN2.out _).mono ?_); rintro e w1 ⟨rfl, rfl⟩)
            | ((with_reducible refine (HD1.out _).mono ?_); rintro e w1 ⟨rfl, rfl⟩))
          exact ret_span rfl w.heap.size rfl _ rfl (Blk.at w (iv [_, _]) _ 30 _ rfl rfl) _ Tryd.underlying30 rfl Tryd.sizeSpan rfl ⟨by rw [HE.out]; rfl, below_a1 _ _⟩
set_option maxRecDepth 100000 in
set_option maxHeartbeats 16000000 in
theorem rtext_10 (l : List UInt8) (hl : l.length = 10) (Q : R) (hQ : Q = rtx l) (w : World) : Calls Tryd.prog 47 #[.string (tb l)] w (TextPost w Q) := by
  have hsz : (tb l).size = 10 := by rw [tb_size, hl]
  obtain ⟨⟨y, b1⟩, hy⟩ : ∃ r, numR (l.take 4) = r := ⟨_, rfl⟩
  obtain ⟨⟨m, b2⟩, hm⟩ : ∃ r, numR ((l.drop 5).take 2) = r := ⟨_, rfl⟩
  obtain ⟨⟨k, b3⟩, hk⟩ : ∃ r, numR (l.drop 8) = r := ⟨_, rfl⟩
  obtain ⟨d, hd⟩ : ∃ d, decide (l[4]? = some 45) = d := ⟨_, rfl⟩
  obtain ⟨d7, hd7⟩ : ∃ d, decide (l[7]? = some 45) = d := ⟨_, rfl⟩
  rw [rtx10 hl hy hm hk hd hd7] at hQ
  have hx1 : (tb l).extract 0 4 = tb (l.take 4) := by rw [tb_sub, List.drop_zero]
  have hx2 : (tb l).extract 5 7 = tb ((l.drop 5).take 2) := tb_sub l 5 7
  have hx3 : (tb l).extract 8 10 = tb (l.drop 8) := by rw [tb_sub, List.take_of_length_le (by simp; omega)]
  have HN1 : Hid (∀ W, Calls Tryd.prog 46 #[.string (tb (l.take 4))] W fun e w' => e = .returned (.tuple #[.int .i64 y, .bool b1]) ∧ W = w') := Lib.hid fun W => by have := rnum_any (l.take 4) (by first | (simp; done) | (simp; omega)) W; rw [hy] at this; exact this
  have HN2 : Hid (∀ W, Calls Tryd.prog 46 #[.string (tb ((l.drop 5).take 2))] W fun e w' => e = .returned (.tuple #[.int .i64 m, .bool b2]) ∧ W = w') := Lib.hid fun W => by have := rnum_any ((l.drop 5).take 2) (by first | (simp; done) | (simp; omega)) W; rw [hm] at this; exact this
  have HN3 : Hid (∀ W, Calls Tryd.prog 46 #[.string (tb (l.drop 8))] W fun e w' => e = .returned (.tuple #[.int .i64 k, .bool b3]) ∧ W = w') := Lib.hid fun W => by have := rnum_any (l.drop 8) (by first | (simp; done) | (simp; omega)) W; rw [hk] at this; exact this
  rw [dash_fact l 4 (by omega)] at hd
  rw [dash_fact l 7 (by omega)] at hd7
  obtain ⟨c, hc⟩ : ∃ c, c = l[4] := ⟨_, rfl⟩
  obtain ⟨c7, hc7⟩ : ∃ c, c = l[7] := ⟨_, rfl⟩
  have hg : (tb l)[4]'(by rw [hsz]; omega) = c := by rw [hc]; rfl
  have hg7 : (tb l)[7]'(by rw [hsz]; omega) = c7 := by rw [hc7]; rfl
  rw [← hc] at hd
  rw [← hc7] at hd7
  clear hy hm hk hl hc hc7
  generalize tb (l.take 4) = S1 at *
  generalize tb ((l.drop 5).take 2) = S2 at *
  generalize tb (l.drop 8) = S3 at *
  generalize tb l = S at *
  cases b1
  · cases b2
    · cases b3
      · have HE : Hid (Q = eForm) := Lib.hid hQ
        clear hQ
        go_enter Tryd.func47, Tryd.ntmps47
        go_wp2_with (first
          | ((with_reducible refine (HN1.out _).mono ?_); rintro e w1 ⟨rfl, rfl⟩)
          | ((with_reducible refine (HN2.out _).mono ?_); rintro e w1 ⟨rfl, rfl⟩)
          | ((with_reducible refine (HN3.out _).mono ?_); rintro e w1 ⟨rfl, rfl⟩))
        exact ret_span rfl w.heap.size rfl _ rfl (Blk.at w (iv [_, _]) _ 30 _ rfl rfl) _ Tryd.underlying30 rfl Tryd.sizeSpan rfl ⟨by rw [HE.out]; rfl, below_a1 _ _⟩
      · cases d7
        · have HE : Hid (Q = eForm) := Lib.hid hQ
          clear hQ
          go_enter Tryd.func47, Tryd.ntmps47
          go_wp2_with (first
            | ((with_reducible refine (HN1.out _).mono ?_); rintro e w1 ⟨rfl, rfl⟩)
            | ((with_reducible refine (HN2.out _).mono ?_); rintro e w1 ⟨rfl, rfl⟩)
            | ((with_reducible refine (HN3.out _).mono ?_); rintro e w1 ⟨rfl, rfl⟩))
          exact ret_span rfl w.heap.size rfl _ rfl (Blk.at w (iv [_, _]) _ 30 _ rfl rfl) _ Tryd.underlying30 rfl Tryd.sizeSpan rfl ⟨by rw [HE.out]; rfl, below_a1 _ _⟩
        · have HE : Hid (Q = eForm) := Lib.hid hQ
          clear hQ
          go_enter Tryd.func47, Tryd.ntmps47
          go_wp2_with (first
            | ((with_reducible refine (HN1.out _).mono ?_); rintro e w1 ⟨rfl, rfl⟩)
            | ((with_reducible refine (HN2.out _).mono ?_); rintro e w1 ⟨rfl, rfl⟩)
            | ((with_reducible refine (HN3.out _).mono ?_); rintro e w1 ⟨rfl, rfl⟩))
          exact ret_span rfl w.heap.size rfl _ rfl (Blk.at w (iv [_, _]) _ 30 _ rfl rfl) _ Tryd.underlying30 rfl Tryd.sizeSpan rfl ⟨by rw [HE.out]; rfl, below_a1 _ _⟩
    · cases d
      · cases b3
        · have HE : Hid (Q = eForm) := Lib.hid hQ
          clear hQ
          go_enter Tryd.func47, Tryd.ntmps47
          go_wp2_with (first
            | ((with_reducible refine (HN1.out _).mono ?_); rintro e w1 ⟨rfl, rfl⟩)
            | ((with_reducible refine (HN2.out _).mono ?_); rintro e w1 ⟨rfl, rfl⟩)
            | ((with_reducible refine (HN3.out _).mono ?_); rintro e w1 ⟨rfl, rfl⟩))
          exact ret_span rfl w.heap.size rfl _ rfl (Blk.at w (iv [_, _]) _ 30 _ rfl rfl) _ Tryd.underlying30 rfl Tryd.sizeSpan rfl ⟨by rw [HE.out]; rfl, below_a1 _ _⟩
        · cases d7
          · have HE : Hid (Q = eForm) := Lib.hid hQ
            clear hQ
            go_enter Tryd.func47, Tryd.ntmps47
            go_wp2_with (first
              | ((with_reducible refine (HN1.out _).mono ?_); rintro e w1 ⟨rfl, rfl⟩)
              | ((with_reducible refine (HN2.out _).mono ?_); rintro e w1 ⟨rfl, rfl⟩)
              | ((with_reducible refine (HN3.out _).mono ?_); rintro e w1 ⟨rfl, rfl⟩))
            exact ret_span rfl w.heap.size rfl _ rfl (Blk.at w (iv [_, _]) _ 30 _ rfl rfl) _ Tryd.underlying30 rfl Tryd.sizeSpan rfl ⟨by rw [HE.out]; rfl, below_a1 _ _⟩
          · have HE : Hid (Q = eForm) := Lib.hid hQ
            clear hQ
            go_enter Tryd.func47, Tryd.ntmps47
            go_wp2_with (first
              | ((with_reducible refine (HN1.out _).mono ?_); rintro e w1 ⟨rfl, rfl⟩)
              | ((with_reducible refine (HN2.out _).mono ?_); rintro e w1 ⟨rfl, rfl⟩)
              | ((with_reducible refine (HN3.out _).mono ?_); rintro e w1 ⟨rfl, rfl⟩))
            exact ret_span rfl w.heap.size rfl _ rfl (Blk.at w (iv [_, _]) _ 30 _ rfl rfl) _ Tryd.underlying30 rfl Tryd.sizeSpan rfl ⟨by rw [HE.out]; rfl, below_a1 _ _⟩
      · cases b3
        · have HE : Hid (Q = eForm) := Lib.hid hQ
          clear hQ
          go_enter Tryd.func47, Tryd.ntmps47
          go_wp2_with (first
            | ((with_reducible refine (HN1.out _).mono ?_); rintro e w1 ⟨rfl, rfl⟩)
            | ((with_reducible refine (HN2.out _).mono ?_); rintro e w1 ⟨rfl, rfl⟩)
            | ((with_reducible refine (HN3.out _).mono ?_); rintro e w1 ⟨rfl, rfl⟩))
          exact ret_span rfl w.heap.size rfl _ rfl (Blk.at w (iv [_, _]) _ 30 _ rfl rfl) _ Tryd.underlying30 rfl Tryd.sizeSpan rfl ⟨by rw [HE.out]; rfl, below_a1 _ _⟩
        · cases d7
          · have HE : Hid (Q = eForm) := Lib.hid hQ
            clear hQ
            go_enter Tryd.func47, Tryd.ntmps47
            go_wp2_with (first
              | ((with_reducible refine (HN1.out _).mono ?_); rintro e w1 ⟨rfl, rfl⟩)
              | ((with_reducible refine (HN2.out _).mono ?_); rintro e w1 ⟨rfl, rfl⟩)
              | ((with_reducible refine (HN3.out _).mono ?_); rintro e w1 ⟨rfl, rfl⟩))
            exact ret_span rfl w.heap.size rfl _ rfl (Blk.at w (iv [_, _]) _ 30 _ rfl rfl) _ Tryd.underlying30 rfl Tryd.sizeSpan rfl ⟨by rw [HE.out]; rfl, below_a1 _ _⟩
          · have HE : Hid (Q = eForm) := Lib.hid hQ
            clear hQ
            go_enter Tryd.func47, Tryd.ntmps47
            go_wp2_with (first
              | ((with_reducible refine (HN1.out _).mono ?_); rintro e w1 ⟨rfl, rfl⟩)
              | ((with_reducible refine (HN2.out _).mono ?_); rintro e w1 ⟨rfl, rfl⟩)
              | ((with_reducible refine (HN3.out _).mono ?_); rintro e w1 ⟨rfl, rfl⟩))
            exact ret_span rfl w.heap.size rfl _ rfl (Blk.at w (iv [_, _]) _ 30 _ rfl rfl) _ Tryd.underlying30 rfl Tryd.sizeSpan rfl ⟨by rw [HE.out]; rfl, below_a1 _ _⟩
  · cases b2
    · cases b3
      · have HE : Hid (Q = eForm) := Lib.hid hQ
        clear hQ
        go_enter Tryd.func47, Tryd.ntmps47
        go_wp2_with (first
          | ((with_reducible refine (HN1.out _).mono ?_); rintro e w1 ⟨rfl, rfl⟩)
          | ((with_reducible refine (HN2.out _).mono ?_); rintro e w1 ⟨rfl, rfl⟩)
          | ((with_reducible refine (HN3.out _).mono ?_); rintro e w1 ⟨rfl, rfl⟩))
        exact ret_span rfl w.heap.size rfl _ rfl (Blk.at w (iv [_, _]) _ 30 _ rfl rfl) _ Tryd.underlying30 rfl Tryd.sizeSpan rfl ⟨by rw [HE.out]; rfl, below_a1 _ _⟩
      · cases d7
        · have HE : Hid (Q = eForm) := Lib.hid hQ
          clear hQ
          go_enter Tryd.func47, Tryd.ntmps47
          go_wp2_with (first
            | ((with_reducible refine (HN1.out _).mono ?_); rintro e w1 ⟨rfl, rfl⟩)
            | ((with_reducible refine (HN2.out _).mono ?_); rintro e w1 ⟨rfl, rfl⟩)
            | ((with_reducible refine (HN3.out _).mono ?_); rintro e w1 ⟨rfl, rfl⟩))
          exact ret_span rfl w.heap.size rfl _ rfl (Blk.at w (iv [_, _]) _ 30 _ rfl rfl) _ Tryd.underlying30 rfl Tryd.sizeSpan rfl ⟨by rw [HE.out]; rfl, below_a1 _ _⟩
        · have HE : Hid (Q = eForm) := Lib.hid hQ
          clear hQ
          go_enter Tryd.func47, Tryd.ntmps47
          go_wp2_with (first
            | ((with_reducible refine (HN1.out _).mono ?_); rintro e w1 ⟨rfl, rfl⟩)
            | ((with_reducible refine (HN2.out _).mono ?_); rintro e w1 ⟨rfl, rfl⟩)
            | ((with_reducible refine (HN3.out _).mono ?_); rintro e w1 ⟨rfl, rfl⟩))
          exact ret_span rfl w.heap.size rfl _ rfl (Blk.at w (iv [_, _]) _ 30 _ rfl rfl) _ Tryd.underlying30 rfl Tryd.sizeSpan rfl ⟨by rw [HE.out]; rfl, below_a1 _ _⟩
    · cases d
      · cases b3
        · have HE : Hid (Q = eForm) := Lib.hid hQ
          clear hQ
          go_enter Tryd.func47, Tryd.ntmps47
          go_wp2_with (first
            | ((with_reducible refine (HN1.out _).mono ?_); rintro e w1 ⟨rfl, rfl⟩)
            | ((with_reducible refine (HN2.out _).mono ?_); rintro e w1 ⟨rfl, rfl⟩)
            | ((with_reducible refine (HN3.out _).mono ?_); rintro e w1 ⟨rfl, rfl⟩))
          exact ret_span rfl w.heap.size rfl _ rfl (Blk.at w (iv [_, _]) _ 30 _ rfl rfl) _ Tryd.underlying30 rfl Tryd.sizeSpan rfl ⟨by rw [HE.out]; rfl, below_a1 _ _⟩
        · cases d7
          · have HE : Hid (Q = eForm) := Lib.hid hQ
            clear hQ
            go_enter Tryd.func47, Tryd.ntmps47
            go_wp2_with (first
              | ((with_reducible refine (HN1.out _).mono ?_); rintro e w1 ⟨rfl, rfl⟩)
              | ((with_reducible refine (HN2.out _).mono ?_); rintro e w1 ⟨rfl, rfl⟩)
              | ((with_reducible refine (HN3.out _).mono ?_); rintro e w1 ⟨rfl, rfl⟩))
            exact ret_span rfl w.heap.size rfl _ rfl (Blk.at w (iv [_, _]) _ 30 _ rfl rfl) _ Tryd.underlying30 rfl Tryd.sizeSpan rfl ⟨by rw [HE.out]; rfl, below_a1 _ _⟩
          · have HE : Hid (Q = eForm) := Lib.hid hQ
            clear hQ
            go_enter Tryd.func47, Tryd.ntmps47
            go_wp2_with (first
              | ((with_reducible refine (HN1.out _).mono ?_); rintro e w1 ⟨rfl, rfl⟩)
              | ((with_reducible refine (HN2.out _).mono ?_); rintro e w1 ⟨rfl, rfl⟩)
              | ((with_reducible refine (HN3.out _).mono ?_); rintro e w1 ⟨rfl, rfl⟩))
            exact ret_span rfl w.heap.size rfl _ rfl (Blk.at w (iv [_, _]) _ 30 _ rfl rfl) _ Tryd.underlying30 rfl Tryd.sizeSpan rfl ⟨by rw [HE.out]; rfl, below_a1 _ _⟩
      · cases b3
        · have HE : Hid (Q = eForm) := Lib.hid hQ
          clear hQ
          go_enter Tryd.func47, Tryd.ntmps47
          go_wp2_with (first
            | ((with_reducible refine (HN1.out _).mono ?_); rintro e w1 ⟨rfl, rfl⟩)
            | ((with_reducible refine (HN2.out _).mono ?_); rintro e w1 ⟨rfl, rfl⟩)
            | ((with_reducible refine (HN3.out _).mono ?_); rintro e w1 ⟨rfl, rfl⟩))
          exact ret_span rfl w.heap.size rfl _ rfl (Blk.at w (iv [_, _]) _ 30 _ rfl rfl) _ Tryd.underlying30 rfl Tryd.sizeSpan rfl ⟨by rw [HE.out]; rfl, below_a1 _ _⟩
        · cases d7
          · have HE : Hid (Q = eForm) := Lib.hid hQ
            clear hQ
            go_enter Tryd.func47, Tryd.ntmps47
            go_wp2_with (first
              | ((with_reducible refine (HN1.out _).mono ?_); rintro e w1 ⟨rfl, rfl⟩)
              | ((with_reducible refine (HN2.out _).mono ?_); rintro e w1 ⟨rfl, rfl⟩)
              | ((with_reducible refine (HN3.out _).mono ?_); rintro e w1 ⟨rfl, rfl⟩))
            exact ret_span rfl w.heap.size rfl _ rfl (Blk.at w (iv [_, _]) _ 30 _ rfl rfl) _ Tryd.underlying30 rfl Tryd.sizeSpan rfl ⟨by rw [HE.out]; rfl, below_a1 _ _⟩
          · by_cases hx : ExP [y, m, k]
            · have HE : Hid (Q = (num y m k, num y m k, 0)) := Lib.hid (by rw [hQ]; simp only [Bool.and_self, if_true]; rw [per_ok hx, (fst3 hx).1, (fst3 hx).2])
              have HD1 : Hid (∀ W, Calls Tryd.prog 13 #[.int .i64 y, .int .i64 m, .int .i64 k] W fun e w' => e = .returned (.tuple #[.int .i64 (num y m k), .int .i64 0]) ∧ W = w') := Lib.hid fun W => rday_yes y m k hx W
              clear hx hQ
              go_enter Tryd.func47, Tryd.ntmps47
              go_wp2_with (first
                | ((with_reducible refine (HN1.out _).mono ?_); rintro e w1 ⟨rfl, rfl⟩)
                | ((with_reducible refine (HN2.out _).mono ?_); rintro e w1 ⟨rfl, rfl⟩)
                | ((with_reducible refine (HN3.out _).mono ?_); rintro e w1 ⟨rfl, rfl⟩)
                | ((with_reducible refine (HD1.out _).mono ?_); rintro e w1 ⟨rfl, rfl⟩))
              exact ret_span rfl w.heap.size rfl _ rfl (Blk.at w (iv [_, _]) _ 30 _ rfl rfl) _ Tryd.underlying30 rfl Tryd.sizeSpan rfl ⟨by rw [HE.out]; rfl, below_a1 _ _⟩
            · have HE : Hid (Q = eRange) := Lib.hid (by rw [hQ]; simp only [Bool.and_self, if_true]; rw [per_is hx])
              have HD1 : Hid (∀ W, Calls Tryd.prog 13 #[.int .i64 y, .int .i64 m, .int .i64 k] W fun e w' => e = .returned (.tuple #[.int .i64 0, .int .i64 5]) ∧ W = w') := Lib.hid fun W => rday_no y m k hx W
              clear hx hQ
              go_enter Tryd.func47, Tryd.ntmps47
              go_wp2_with (first
                | ((with_reducible refine (HN1.out _).mono ?_); rintro e w1 ⟨rfl, rfl⟩)
                | ((with_reducible refine (HN2.out _).mono ?_); rintro e w1 ⟨rfl, rfl⟩)
                | ((with_reducible refine (HN3.out _).mono ?_); rintro e w1 ⟨rfl, rfl⟩)
                | ((with_reducible refine (HD1.out _).mono ?_); rintro e w1 ⟨rfl, rfl⟩))
              exact ret_span rfl w.heap.size rfl _ rfl (Blk.at w (iv [_, _]) _ 30 _ rfl rfl) _ Tryd.underlying30 rfl Tryd.sizeSpan rfl ⟨by rw [HE.out]; rfl, below_a1 _ _⟩
theorem rtext_any (l : List UInt8) (hm : l.length ≤ maxLen) (w : World) : Calls Tryd.prog 47 #[.string (tb l)] w (TextPost w (rtx l)) := by
  by_cases h4 : l.length = 4
  · exact rtext_4 l h4 _ rfl w
  · by_cases h7 : l.length = 7
    · exact rtext_7 l h7 _ rfl w
    · by_cases h10 : l.length = 10
      · exact rtext_10 l h10 _ rfl w
      · exact rtext_no l hm h4 h7 h10 _ (rtx_no h4 h7 h10) w
end Go.Proofs.YtkaaejfochdjcaaDoor
