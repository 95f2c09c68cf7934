/-
  calendar.dateText; the closures of Print; shortest.
-/
import Derived.Test.YtkaaejfochdjcaaDoorCParse
namespace Go.Proofs.YtkaaejfochdjcaaDoor
open Go.RowKit
open Cal
set_option linter.unusedVariables false
set_option linter.unusedSimpArgs false

theorem txt_cons (y : Int) (q : List Int) : txt (y :: q) = pad4 y ++ q.flatMap fun n => 45 :: pad2 n := rfl
theorem flat_snoc (q : List Int) (k : Nat) (h : k < q.length) : (q.take (k + 1)).flatMap (fun n => (45 : UInt8) :: pad2 n) = (q.take k).flatMap (fun n => 45 :: pad2 n) ++ 45 :: pad2 (q.getD k 0) := by
  have e : q.getD k 0 = q[k] := by simp [List.getD, h]
  rw [List.take_succ_eq_append_getElem h, List.flatMap_append, e]
  simp
theorem flat_len (q : List Int) : (q.flatMap fun n => (45 : UInt8) :: pad2 n).length = 3 * q.length := by
  induction q with
  | nil => rfl
  | cons a q ih => rw [List.flatMap_cons, List.length_append, ih]; simp [pad2_length]; omega
set_option maxRecDepth 100000 in
set_option maxHeartbeats 2000000 in
theorem dateText_aux (y : Int) (q : List Int) (X : List UInt8) (hX : X = txt (y :: q)) (hy0 : 0 ≤ y) (hy1 : y ≤ 9999) (hq : ∀ x ∈ q, 0 ≤ x ∧ x ≤ 99) (hl : q.length ≤ 2) (b o n c : Nat) (hn : n = q.length + 1) (hc : n ≤ c) (hm : c ≤ maxLen) (w : World)
    (hr : ∀ j v, (iv (y :: q))[j]? = some v → w.cell? ⟨b, o + j, none⟩ = some v) (hK : KC w) :
    Calls Tryd.prog 50 #[.slice (some ⟨b, o, none⟩) n c] w fun e w' => e = .returned (.string (tb X)) ∧ Below w.heap.size w w' := by
  have hm' : c ≤ 9223372036854775807 := by unfold maxLen at hm; omega
  have hb0 : b < w.heap.size := World.block_lt_of_cell? w ⟨b, o + 0, none⟩ (hr 0 _ rfl)
  have hc0 : w.cell? ⟨b, o, none⟩ = some (.int .i64 y) := hr 0 _ rfl
  obtain ⟨m, hm0⟩ : ∃ m, m = q.length := ⟨_, rfl⟩
  rw [← hm0] at hn hl
  subst hn
  have HM0 := Lib.hid hm0
  have HR : Hid (∀ k, k < m → w.cell? ⟨b, o + 1 + k, none⟩ = some (.int .i64 (q.getD k 0))) := Lib.hid fun k hk => by
    have := hr (k + 1) (.int .i64 (q.getD k 0)) (by simp [iv, List.getD, show k < q.length by omega])
    rw [show o + 1 + k = o + (k + 1) by omega]
    exact this
  have HQ : Hid (∀ k, k < m → 0 ≤ q.getD k 0 ∧ q.getD k 0 ≤ 99) := Lib.hid fun k hk => hq _ (by simp [List.getD, show k < q.length by omega])
  have HX := Lib.hid hX
  have HK := Lib.hid hK
  clear hm0 hr hq hX hK
  have hn1 : (m : Int) + 1 - 1 = m := by omega
  go_enter Tryd.func50, Tryd.ntmps50
  have hF : ∀ k, k ≤ m → ∃ t : List UInt8, t = pad4 y ++ (q.take k).flatMap (fun n => 45 :: pad2 n) ∧ t.length ≤ 10 := fun k hk => ⟨_, rfl, by
    rw [List.length_append, flat_len, pad4_length, List.length_take]; omega⟩
  have HF := Lib.hid hF
  clear hF
  by_cases hc1 : c = 1
  · subst hc1
    obtain rfl : m = 0 := by omega
    have HE : Hid (X = pad4 y) := Lib.hid (by
      rw [HX.out, txt_cons, List.eq_nil_of_length_eq_zero HM0.out.symm]; simp)
    go_wp2_with ((with_reducible refine (dec4_any y hy0 hy1 _ HK.out).mono ?_); rintro e w1 ⟨rfl, hb1⟩)
    go_loopg [3, 13] 0 (fun g s3 s13 wr => s3 = .string (tb X) ∧ s13 = .int .i64 0 ∧ Below w.heap.size w wr)
    case atStart => exact ⟨by rw [HE.out], rfl, hb1⟩
    case round =>
      obtain ⟨rfl, rfl, hb⟩ := hrel
      go_wp2_with fail
      go_ret
      exact ⟨rfl, hb⟩
  · go_wp2_with ((with_reducible refine (dec4_any y hy0 hy1 _ HK.out).mono ?_); rintro e w1 ⟨rfl, hb1⟩)
    go_loopg [3, 13] m (fun g s3 s13 wr => ∃ (k : Nat) (t : List UInt8), k + g = m ∧ s13 = .int .i64 k ∧ s3 = .string (tb t) ∧ Hid (t = pad4 y ++ (q.take k).flatMap fun n => 45 :: pad2 n) ∧ t.length ≤ 10 ∧ Below w.heap.size w wr)
    case atStart => exact ⟨0, pad4 y, by omega, rfl, rfl, Lib.hid (by simp), by rw [pad4_length]; omega, hb1⟩
    case round =>
      clear hb1
      obtain ⟨k, t, hk, rfl, rfl, HT, htl, hb⟩ := hrel
      by_cases hlt : k < m
      · obtain ⟨g, rfl⟩ : ∃ g, gk = g + 1 := ⟨gk - 1, by omega⟩
        obtain ⟨x, hx⟩ : ∃ x, x = q.getD k 0 := ⟨_, rfl⟩
        have hcell : wr.cell? ⟨b, o + 1 + k, none⟩ = some (.int .i64 x) := by rw [hx]; exact (hb.cell (p := ⟨b, o + 1 + k, none⟩) hb0).trans (HR.out k hlt)
        have hx01 := HQ.out k hlt
        rw [← hx] at hx01
        obtain ⟨hx0, hx1⟩ := hx01
        obtain ⟨t', ht', htl'⟩ := HF.out (k + 1) (by omega)
        have htt : t ++ (45 :: pad2 x) = t' := by rw [ht', HT.out, flat_snoc q k (by rw [← HM0.out]; exact hlt), hx, List.append_assoc]
        have hcat1 : ∀ W, (Op.stringOp .add ⟨#[45]⟩ (tb (pad2 x))).run Tryd.prog W = .ok (.string (tb (45 :: pad2 x))) W := fun W => cat_tb (a := [45]) rfl (by simp [pad2_length]) W
        have hcat2 : ∀ W, (Op.stringOp .add (tb t) (tb (45 :: pad2 x))).run Tryd.prog W = .ok (.string (tb t')) W := fun W => cat_tb htt (by omega) W
        have HT' : Hid (t' = pad4 y ++ (q.take (k + 1)).flatMap fun n => 45 :: pad2 n) := Lib.hid ht'
        have HKr := Lib.hid (HK.out.below hb)
        clear hx ht' htt
        go_wp2_with ((with_reducible refine (dec2_any x hx0 hx1 _ HKr.out).mono ?_); rintro e w2 ⟨rfl, hb2⟩)
        go_roundg g
        case rel => exact ⟨k + 1, t', by omega, by go_num, rfl, HT', htl', below_next hb hb2⟩
        case measure => omega
      · obtain rfl : k = m := by omega
        have HE : Hid (t = X) := Lib.hid (by rw [HT.out, HX.out, txt_cons, HM0.out, List.take_length])
        go_wp2_with fail
        go_ret
        exact ⟨by rw [HE.out]; rfl, hb⟩
theorem dateText_any (p : List Int) (hp : Part p) (A : Option Addr) (n c : Nat) (hn : n = p.length) (hc : n ≤ c) (hm : c ≤ maxLen) (w : World) (hr : Rd w A (iv p)) (hK : KC w) :
    Calls Tryd.prog 50 #[.slice A n c] w fun e w' => e = .returned (.string (tb (txt p))) ∧ Below w.heap.size w w' := by
  rcases part_cases hp with ⟨y, rfl⟩ | ⟨y, m, rfl⟩ | ⟨y, m, d, rfl⟩
  · obtain ⟨b, o, rfl, hcell⟩ := hr.open (by simp [iv])
    exact dateText_aux y [] _ rfl hp.1 hp.2 (by simp) (by simp) b o n c (by simpa using hn) hc hm w hcell hK
  · obtain ⟨b, o, rfl, hcell⟩ := hr.open (by simp [iv])
    exact dateText_aux y [m] _ rfl hp.1 hp.2.1 (by intro x hx; simp at hx; subst hx; exact hp.2.2) (by simp) b o n c (by simpa using hn) hc hm w hcell hK
  · obtain ⟨b, o, rfl, hcell⟩ := hr.open (by simp [iv])
    exact dateText_aux y [m, d] _ rfl hp.1 hp.2.1 (by intro x hx; simp at hx; rcases hx with rfl | rfl; exact ⟨hp.2.2.1, hp.2.2.2.1⟩; exact hp.2.2.2.2) (by simp) b o n c (by simpa using hn) hc hm w hcell hK
end Go.Proofs.YtkaaejfochdjcaaDoor
