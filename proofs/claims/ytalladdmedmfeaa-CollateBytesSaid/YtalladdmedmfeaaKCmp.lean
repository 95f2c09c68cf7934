/-
  slices.CompareFunc at lists of letters; collate.compareBy.
-/
import Derived.Test.YtalladdmedmfeaaKLev
namespace Go.Proofs.Ytalladdmedmfeaa
open Go.RowKit
open Alp
open Col
set_option linter.unusedVariables false
set_option linter.unusedSimpArgs false

theorem cmpL_cons (f : Int → Int) (x y : Int) (a b : List Int) : cmpL ((x :: a).map f) ((y :: b).map f) = if cmpI (f x) (f y) = 0 then cmpL (a.map f) (b.map f) else cmpI (f x) (f y) := by
  show (if f x < f y then (-1 : Int) else if f y < f x then 1 else cmpL (a.map f) (b.map f)) = _
  unfold cmpI
  by_cases h1 : f x < f y
  · rw [if_pos h1, if_pos h1, if_neg (by decide)]
  · by_cases h2 : f y < f x
    · rw [if_neg h1, if_pos h2, if_neg h1, if_pos h2, if_neg (by decide)]
    · rw [if_neg h1, if_neg h2, if_neg h1, if_neg h2, if_pos rfl]
def inL (q : Nat) (l : List Int) : Prop := ∀ x ∈ l, 0 ≤ x ∧ x < (q : Int)
theorem inL_ltr (q : Nat) (l : List Int) : inL q (ltr q l) := fun x hx => ltr_mem hx
theorem inL_at {q : Nat} {l : List Int} (h : inL q l) {k : Nat} (hk : k < l.length) : ∃ a : Nat, (a : Int) = l.getD k 0 ∧ a < q := by
  have := h (l.getD k 0) (by simp [List.getD, hk])
  exact ⟨(l.getD k 0).toNat, by omega, by omega⟩
set_option maxRecDepth 100000 in
set_option maxHeartbeats 4000000 in
theorem cf_aux (f : Int → Int) (q C : Nat) (l1 l2 : List Int) (A1 A2 : Option Addr) (n1 n2 c1 c2 : Nat) (h1 : n1 = l1.length) (h2 : n2 = l2.length) (hc1 : n1 ≤ c1) (hm1 : c1 ≤ maxLen) (hc2 : n2 ≤ c2) (hm2 : c2 ≤ maxLen) (hl1 : inL q l1) (hl2 : inL q l2) (R : Int) (hR : R = cmpL (l1.map f) (l2.map f))
    (b1 o1 b2 o2 : Nat) (w : World) (hA1 : n1 = 0 ∨ (A1 = some ⟨b1, o1, none⟩ ∧ IL w b1 o1 l1)) (hA2 : n2 = 0 ∨ (A2 = some ⟨b2, o2, none⟩ ∧ IL w b2 o2 l2))
    (HC : Hid (∀ W, Below w.heap.size w W → ∀ x y : Nat, x < q → y < q → ∀ r, r = cmpI (f x) (f y) → Calls Try.prog 62 #[.int .i64 (x : Int), .int .i64 (y : Int), .pointer (some ⟨C, 0, none⟩)] W (IPost W r))) :
    Calls Try.prog 61 #[.slice A1 n1 c1, .slice A2 n2 c2, .func (.func 62) #[] #[.pointer (some ⟨C, 0, none⟩)]] w (IPost w R) := by
  have hm1' : c1 ≤ 9223372036854775807 := by unfold maxLen at hm1; omega
  have hm2' : c2 ≤ 9223372036854775807 := by unfold maxLen at hm2; omega
  have HN1 := Lib.hid h1
  have HN2 := Lib.hid h2
  have HA1 := Lib.hid hA1
  have HA2 := Lib.hid hA2
  have HL1 := Lib.hid hl1
  have HL2 := Lib.hid hl2
  have HR := Lib.hid hR
  clear h1 h2 hA1 hA2 hl1 hl2 hR
  go_enter Try.func61, Try.ntmps61
  go_wp2_with fail
  go_loopg [7, 8, 9, 10, 13] n1 (fun g s7 s8 s9 s10 s13 wr => ∃ (k : Nat), k + g = n1 ∧ k ≤ n2 ∧ s13 = .int .i64 (k : Int) ∧ Hid (R = cmpL ((l1.drop k).map f) ((l2.drop k).map f) ∧ Below w.heap.size w wr))
  case atStart => exact ⟨0, by omega, by omega, rfl, Lib.hid ⟨HR.out, Below.refl _ _⟩⟩
  case round =>
    obtain ⟨k, hk, hk2, rfl, HI⟩ := hrel
    by_cases hlt : k < n1
    · obtain ⟨g, rfl⟩ : ∃ g, gk = g + 1 := ⟨gk - 1, by omega⟩
      have hkl : k < l1.length := by rw [← HN1.out]; exact hlt
      obtain ⟨x, hx, hxq⟩ := inL_at HL1.out hkl
      obtain ⟨rfl, hil⟩ : A1 = some ⟨b1, o1, none⟩ ∧ IL w b1 o1 l1 := by
        rcases HA1.out with h | h
        · omega
        · exact h
      have hcx : wr.cell? ⟨b1, o1 + k, none⟩ = some (.int .i64 (x : Int)) := hil.at HI.out.2 hkl hx
      have HX := Lib.hid hx
      clear hx hil
      by_cases hlt2 : k < n2
      · have hkl2 : k < l2.length := by rw [← HN2.out]; exact hlt2
        obtain ⟨y, hy, hyq⟩ := inL_at HL2.out hkl2
        obtain ⟨rfl, hil2⟩ : A2 = some ⟨b2, o2, none⟩ ∧ IL w b2 o2 l2 := by
          rcases HA2.out with h | h
          · omega
          · exact h
        have hcy : wr.cell? ⟨b2, o2 + k, none⟩ = some (.int .i64 (y : Int)) := hil2.at HI.out.2 hkl2 hy
        have HY := Lib.hid hy
        clear hy hil2
        obtain ⟨r, hr⟩ : ∃ r, r = cmpI (f x) (f y) := ⟨_, rfl⟩
        have HCC : Hid (Calls Try.prog 62 #[.int .i64 (x : Int), .int .i64 (y : Int), .pointer (some ⟨C, 0, none⟩)] wr (IPost wr r)) := Lib.hid (HC.out wr HI.out.2 x y hxq hyq r hr)
        have HS : Hid (R = if r = 0 then cmpL ((l1.drop (k + 1)).map f) ((l2.drop (k + 1)).map f) else r) := Lib.hid (by rw [HI.out.1, drop_getD hkl HX.out, drop_getD hkl2 HY.out, cmpL_cons, hr])
        clear hr hxq hyq
        by_cases hr0 : r = 0
        · subst hr0
          go_wp2_with ((with_reducible refine HCC.out.mono ?_); rintro e w3 hp; obtain ⟨rfl, hb3⟩ := i_out hp; have HB3 : Hid (Below w.heap.size w w3) := Lib.hid (below_next HI.out.2 hb3); clear hp hb3)
          go_roundg g
          case rel => exact ⟨k + 1, by omega, by omega, by go_num, Lib.hid ⟨by rw [HS.out]; first | exact if_pos rfl | exact if_pos trivial, HB3.out⟩⟩
          case measure => omega
        · have hne : (r != 0) = true := bne_iff_ne.2 hr0
          have HS2 : Hid (R = r) := Lib.hid (by rw [HS.out]; exact if_neg hr0)
          clear hr0
          go_wp2_with ((with_reducible refine HCC.out.mono ?_); rintro e w3 hp; obtain ⟨rfl, hb3⟩ := i_out hp; have HB3 : Hid (Below w.heap.size w w3) := Lib.hid (below_next HI.out.2 hb3); clear hp hb3)
          go_ret
          exact ⟨ret_int HS2.out.symm, HB3.out⟩
      · obtain rfl : k = n2 := by omega
        have HE : Hid (R = 1) := Lib.hid (by
          rw [HI.out.1, drop_getD hkl HX.out, HN2.out, List.drop_length]
          rfl)
        go_wp2_with fail
        go_ret
        exact ⟨ret_int HE.out.symm, HI.out.2⟩
    · obtain rfl : k = n1 := by omega
      by_cases hlt2 : k < n2
      · have HE : Hid (R = -1) := Lib.hid (by
          have hkl2 : k < l2.length := by rw [← HN2.out]; exact hlt2
          rw [HI.out.1, drop_getD hkl2 rfl, HN1.out, List.drop_length]
          rfl)
        go_wp2_with fail
        go_ret
        exact ⟨ret_int HE.out.symm, HI.out.2⟩
      · obtain rfl : k = n2 := by omega
        have HE : Hid (R = 0) := Lib.hid (by
          have e1 : l1.drop k = [] := List.drop_of_length_le (by rw [← HN1.out]; omega)
          have e2 : l2.drop k = [] := List.drop_of_length_le (by rw [← HN2.out]; omega)
          rw [HI.out.1, e1, e2]
          rfl)
        go_wp2_with fail
        go_ret
        exact ⟨ret_int HE.out.symm, HI.out.2⟩
theorem il_or {w : World} {A : Option Addr} {l : List Int} {n : Nat} (hn : n = l.length) (hr : Rd w A (iv l)) : ∃ b o, n = 0 ∨ (A = some ⟨b, o, none⟩ ∧ IL w b o l) := by
  by_cases h0 : n = 0
  · exact ⟨0, 0, .inl h0⟩
  · obtain ⟨b, o, e, h⟩ := il_open hr (by intro e; subst e; exact h0 hn)
    exact ⟨b, o, .inr ⟨e, h⟩⟩
/-- A variable of its own that has just been made and filled. -/
theorem cell_made (w : World) (v : Value) (T : TypeId) : (w.alloc (.cells #[v] T)).cell? ⟨w.heap.size, 0, none⟩ = some v := (Blk.at w [v] _ T _ rfl rfl).cell rfl
theorem cf0_any (L : List Lt) (b o B C q cq : Nat) (hq : q = L.length) (hcq : q ≤ cq) (hcq2 : cq ≤ maxLen) (l1 l2 : List Int) (A1 A2 : Option Addr) (n1 n2 c1 c2 : Nat) (h1 : n1 = l1.length) (h2 : n2 = l2.length) (hc1 : n1 ≤ c1) (hm1 : c1 ≤ maxLen) (hc2 : n2 ≤ c2) (hm2 : c2 ≤ maxLen) (hl1 : inL q l1) (hl2 : inL q l2)
    (R : Int) (hR : R = cmpL (lev L 0 l1) (lev L 0 l2)) (w : World) (hs : w.cell? ⟨B, 0, none⟩ = some (.slice (some ⟨b, o, none⟩) q cq)) (hrl : RL w b o L) (hC : w.cell? ⟨C, 0, none⟩ = some (.func (.func 56) #[] #[.pointer (some ⟨B, 0, none⟩)])) (hr1 : Rd w A1 (iv l1)) (hr2 : Rd w A2 (iv l2)) :
    Calls Try.prog 61 #[.slice A1 n1 c1, .slice A2 n2 c2, .func (.func 62) #[] #[.pointer (some ⟨C, 0, none⟩)]] w (IPost w R) := by
  obtain ⟨b1, o1, e1⟩ := il_or h1 hr1
  obtain ⟨b2, o2, e2⟩ := il_or h2 hr2
  refine cf_aux (num L 0) q C l1 l2 A1 A2 n1 n2 c1 c2 h1 h2 hc1 hm1 hc2 hm2 hl1 hl2 R ?_ b1 o1 b2 o2 w e1 e2 (Lib.hid fun W hb x y hx hy r hr => ?_)
  · rw [hR, lev_eq (by rw [← hq]; exact hl1), lev_eq (by rw [← hq]; exact hl2)]
  · exact cb0_any L b o B C x y q cq hq hx hy hcq hcq2 r hr W ((hb.cell (p := ⟨B, 0, none⟩) (World.block_lt_of_cell? w _ hs)).trans hs) (hrl.below hb) ((hb.cell (p := ⟨C, 0, none⟩) (World.block_lt_of_cell? w _ hC)).trans hC)
theorem cf1_any (L : List Lt) (b o B C q cq : Nat) (hq : q = L.length) (hcq : q ≤ cq) (hcq2 : cq ≤ maxLen) (l1 l2 : List Int) (A1 A2 : Option Addr) (n1 n2 c1 c2 : Nat) (h1 : n1 = l1.length) (h2 : n2 = l2.length) (hc1 : n1 ≤ c1) (hm1 : c1 ≤ maxLen) (hc2 : n2 ≤ c2) (hm2 : c2 ≤ maxLen) (hl1 : inL q l1) (hl2 : inL q l2)
    (R : Int) (hR : R = cmpL (lev L 1 l1) (lev L 1 l2)) (w : World) (hs : w.cell? ⟨B, 0, none⟩ = some (.slice (some ⟨b, o, none⟩) q cq)) (hrl : RL w b o L) (hC : w.cell? ⟨C, 0, none⟩ = some (.func (.func 57) #[] #[.pointer (some ⟨B, 0, none⟩)])) (hr1 : Rd w A1 (iv l1)) (hr2 : Rd w A2 (iv l2)) :
    Calls Try.prog 61 #[.slice A1 n1 c1, .slice A2 n2 c2, .func (.func 62) #[] #[.pointer (some ⟨C, 0, none⟩)]] w (IPost w R) := by
  obtain ⟨b1, o1, e1⟩ := il_or h1 hr1
  obtain ⟨b2, o2, e2⟩ := il_or h2 hr2
  refine cf_aux (num L 1) q C l1 l2 A1 A2 n1 n2 c1 c2 h1 h2 hc1 hm1 hc2 hm2 hl1 hl2 R ?_ b1 o1 b2 o2 w e1 e2 (Lib.hid fun W hb x y hx hy r hr => ?_)
  · rw [hR, lev_eq (by rw [← hq]; exact hl1), lev_eq (by rw [← hq]; exact hl2)]
  · exact cb1_any L b o B C x y q cq hq hx hy hcq hcq2 r hr W ((hb.cell (p := ⟨B, 0, none⟩) (World.block_lt_of_cell? w _ hs)).trans hs) (hrl.below hb) ((hb.cell (p := ⟨C, 0, none⟩) (World.block_lt_of_cell? w _ hC)).trans hC)
theorem cf2_any (L : List Lt) (b o B C q cq : Nat) (hq : q = L.length) (hcq : q ≤ cq) (hcq2 : cq ≤ maxLen) (l1 l2 : List Int) (A1 A2 : Option Addr) (n1 n2 c1 c2 : Nat) (h1 : n1 = l1.length) (h2 : n2 = l2.length) (hc1 : n1 ≤ c1) (hm1 : c1 ≤ maxLen) (hc2 : n2 ≤ c2) (hm2 : c2 ≤ maxLen) (hl1 : inL q l1) (hl2 : inL q l2)
    (R : Int) (hR : R = cmpL (lev L 2 l1) (lev L 2 l2)) (w : World) (hs : w.cell? ⟨B, 0, none⟩ = some (.slice (some ⟨b, o, none⟩) q cq)) (hrl : RL w b o L) (hC : w.cell? ⟨C, 0, none⟩ = some (.func (.func 58) #[] #[.pointer (some ⟨B, 0, none⟩)])) (hr1 : Rd w A1 (iv l1)) (hr2 : Rd w A2 (iv l2)) :
    Calls Try.prog 61 #[.slice A1 n1 c1, .slice A2 n2 c2, .func (.func 62) #[] #[.pointer (some ⟨C, 0, none⟩)]] w (IPost w R) := by
  obtain ⟨b1, o1, e1⟩ := il_or h1 hr1
  obtain ⟨b2, o2, e2⟩ := il_or h2 hr2
  refine cf_aux (num L 2) q C l1 l2 A1 A2 n1 n2 c1 c2 h1 h2 hc1 hm1 hc2 hm2 hl1 hl2 R ?_ b1 o1 b2 o2 w e1 e2 (Lib.hid fun W hb x y hx hy r hr => ?_)
  · rw [hR, lev_eq (by rw [← hq]; exact hl1), lev_eq (by rw [← hq]; exact hl2)]
  · exact cb2_any L b o B C x y q cq hq hx hy hcq hcq2 r hr W ((hb.cell (p := ⟨B, 0, none⟩) (World.block_lt_of_cell? w _ hs)).trans hs) (hrl.below hb) ((hb.cell (p := ⟨C, 0, none⟩) (World.block_lt_of_cell? w _ hC)).trans hC)
theorem cf3_any (L : List Lt) (b o B C q cq : Nat) (hq : q = L.length) (hcq : q ≤ cq) (hcq2 : cq ≤ maxLen) (l1 l2 : List Int) (A1 A2 : Option Addr) (n1 n2 c1 c2 : Nat) (h1 : n1 = l1.length) (h2 : n2 = l2.length) (hc1 : n1 ≤ c1) (hm1 : c1 ≤ maxLen) (hc2 : n2 ≤ c2) (hm2 : c2 ≤ maxLen) (hl1 : inL q l1) (hl2 : inL q l2)
    (R : Int) (hR : R = cmpL (lev L 3 l1) (lev L 3 l2)) (w : World) (hs : w.cell? ⟨B, 0, none⟩ = some (.slice (some ⟨b, o, none⟩) q cq)) (hrl : RL w b o L) (hC : w.cell? ⟨C, 0, none⟩ = some (.func (.func 59) #[] #[])) (hr1 : Rd w A1 (iv l1)) (hr2 : Rd w A2 (iv l2)) :
    Calls Try.prog 61 #[.slice A1 n1 c1, .slice A2 n2 c2, .func (.func 62) #[] #[.pointer (some ⟨C, 0, none⟩)]] w (IPost w R) := by
  obtain ⟨b1, o1, e1⟩ := il_or h1 hr1
  obtain ⟨b2, o2, e2⟩ := il_or h2 hr2
  refine cf_aux (num L 3) q C l1 l2 A1 A2 n1 n2 c1 c2 h1 h2 hc1 hm1 hc2 hm2 hl1 hl2 R ?_ b1 o1 b2 o2 w e1 e2 (Lib.hid fun W hb x y hx hy r hr => ?_)
  · rw [hR, lev_eq (by rw [← hq]; exact hl1), lev_eq (by rw [← hq]; exact hl2)]
  · exact cb3_any L b o B C x y q cq hq hx hy hcq hcq2 r hr W ((hb.cell (p := ⟨B, 0, none⟩) (World.block_lt_of_cell? w _ hs)).trans hs) (hrl.below hb) ((hb.cell (p := ⟨C, 0, none⟩) (World.block_lt_of_cell? w _ hC)).trans hC)
/-- The table's variable and its functions. -/
def TabB (w : World) (sv : Value) (g B : Nat) : Prop := w.cell? ⟨B, 0, none⟩ = some sv ∧ ∀ k v, (fnV B)[k]? = some v → w.cell? ⟨g, k, none⟩ = some v
theorem TabB.below {w w' : World} {sv : Value} {g B : Nat} (h : TabB w sv g B) (hb : Below w.heap.size w w') : TabB w' sv g B := by
  obtain ⟨h1, h2⟩ := h
  exact ⟨(hb.cell (p := ⟨B, 0, none⟩) (World.block_lt_of_cell? w _ h1)).trans h1, fun k v hv => (hb.cell (p := ⟨g, k, none⟩) (World.block_lt_of_cell? w _ (h2 k v hv))).trans (h2 k v hv)⟩
set_option maxRecDepth 100000 in
set_option maxHeartbeats 8000000 in
theorem by_aux (L : List Lt) (b o g B q cq n c : Nat) (hq : q = L.length) (hcq : q ≤ cq) (hcq2 : cq ≤ maxLen) (hn4 : n ≤ 4) (hc : n ≤ c) (hm : c ≤ maxLen) (l1 l2 : List Int) (A1 A2 : Option Addr) (n1 n2 c1 c2 : Nat) (h1 : n1 = l1.length) (h2 : n2 = l2.length) (hc1 : n1 ≤ c1) (hm1 : c1 ≤ maxLen) (hc2 : n2 ≤ c2) (hm2 : c2 ≤ maxLen) (hl1 : inL q l1) (hl2 : inL q l2)
    (R : Int) (hR : R = cmpU L l1 l2 0 n) (w : World) (ht : TabB w (.slice (some ⟨b, o, none⟩) q cq) g B) (hrl : RL w b o L) (hr1 : Rd w A1 (iv l1)) (hr2 : Rd w A2 (iv l2)) :
    Calls Try.prog 48 #[.slice (some ⟨g, 0, none⟩) n c, .slice A1 n1 c1, .slice A2 n2 c2] w (IPost w R) := by
  have hm' : c ≤ 9223372036854775807 := by unfold maxLen at hm; omega
  have HQ := Lib.hid hq
  have HT := Lib.hid ht
  have HR := Lib.hid hR
  have HX : Hid (n1 = l1.length ∧ n2 = l2.length ∧ inL q l1 ∧ inL q l2 ∧ RL w b o L ∧ Rd w A1 (iv l1) ∧ Rd w A2 (iv l2)) := Lib.hid ⟨h1, h2, hl1, hl2, hrl, hr1, hr2⟩
  clear hq ht hR h1 h2 hl1 hl2 hrl hr1 hr2
  go_enter Try.func48, Try.ntmps48
  go_wp2_with fail
  go_loopg [8, 9, 12] n (fun gg s8 s9 s12 wr => ∃ (j : Nat), j + gg = n ∧ s12 = .int .i64 (j : Int) ∧ Hid (R = cmpU L l1 l2 j (n - j) ∧ Below w.heap.size w wr))
  case atStart => exact ⟨0, by omega, rfl, Lib.hid ⟨HR.out, Below.refl _ _⟩⟩
  case round =>
    obtain ⟨j, hj, rfl, HI⟩ := hrel
    by_cases hlt : j < n
    · obtain ⟨gg, rfl⟩ : ∃ x, gk = x + 1 := ⟨gk - 1, by omega⟩
      rcases (by omega : j = 0 ∨ j = 1 ∨ j = 2 ∨ j = 3) with rfl | rfl | rfl | rfl
      · have hcf : wr.cell? ⟨g, 0, none⟩ = some (.func (.func 56) #[] #[.pointer (some ⟨B, 0, none⟩)]) := by first | exact (HT.out.below HI.out.2).2 0 _ rfl | exact (HT.out.below HI.out.2).2 0 _ (by rfl)
        obtain ⟨r, hr⟩ : ∃ r, r = cmpL (lev L 0 l1) (lev L 0 l2) := ⟨_, rfl⟩
        have HCC : Hid (∀ W C, Below w.heap.size w W → W.cell? ⟨C, 0, none⟩ = some (.func (.func 56) #[] #[.pointer (some ⟨B, 0, none⟩)]) → Calls Try.prog 61 #[.slice A1 n1 c1, .slice A2 n2 c2, .func (.func 62) #[] #[.pointer (some ⟨C, 0, none⟩)]] W (IPost W r)) := Lib.hid fun W C hb hC => cf0_any L b o B C q cq HQ.out hcq hcq2 l1 l2 A1 A2 n1 n2 c1 c2 HX.out.1 HX.out.2.1 hc1 hm1 hc2 hm2 HX.out.2.2.1 HX.out.2.2.2.1 r hr W ((hb.cell (p := ⟨B, 0, none⟩) (World.block_lt_of_cell? w _ HT.out.1)).trans HT.out.1) (HX.out.2.2.2.2.1.below hb) hC (HX.out.2.2.2.2.2.1.below hb) (HX.out.2.2.2.2.2.2.below hb)
        have HS : Hid (R = if r = 0 then cmpU L l1 l2 (0 + 1) (n - 0 - 1) else r) := Lib.hid (by rw [HI.out.1, hr, show n - 0 = (n - 0 - 1) + 1 by omega, cmpU_succ]; rfl)
        clear hr
        by_cases hr0 : r = 0
        · subst hr0
          go_wp2_with ((with_reducible refine (HCC.out _ _ (below_al HI.out.2 _) (cell_made _ _ _)).mono ?_); rintro e w3 hp; obtain ⟨rfl, hb3⟩ := i_out hp; have HB3 : Hid (Below w.heap.size w w3) := Lib.hid (below_next (below_al HI.out.2 _) hb3); clear hp hb3)
          go_roundg gg
          case rel => exact ⟨0 + 1, by omega, by go_num, Lib.hid ⟨by rw [HS.out]; first | (rw [if_pos rfl, Nat.sub_sub]) | (rw [if_pos trivial, Nat.sub_sub]), HB3.out⟩⟩
          case measure => omega
        · have hne : (r != 0) = true := bne_iff_ne.2 hr0
          have HS2 : Hid (R = r) := Lib.hid (by rw [HS.out]; exact if_neg hr0)
          clear hr0
          go_wp2_with ((with_reducible refine (HCC.out _ _ (below_al HI.out.2 _) (cell_made _ _ _)).mono ?_); rintro e w3 hp; obtain ⟨rfl, hb3⟩ := i_out hp; have HB3 : Hid (Below w.heap.size w w3) := Lib.hid (below_next (below_al HI.out.2 _) hb3); clear hp hb3)
          go_ret
          exact ⟨ret_int HS2.out.symm, HB3.out⟩
      · have hcf : wr.cell? ⟨g, 1, none⟩ = some (.func (.func 57) #[] #[.pointer (some ⟨B, 0, none⟩)]) := by first | exact (HT.out.below HI.out.2).2 1 _ rfl | exact (HT.out.below HI.out.2).2 1 _ (by rfl)
        obtain ⟨r, hr⟩ : ∃ r, r = cmpL (lev L 1 l1) (lev L 1 l2) := ⟨_, rfl⟩
        have HCC : Hid (∀ W C, Below w.heap.size w W → W.cell? ⟨C, 0, none⟩ = some (.func (.func 57) #[] #[.pointer (some ⟨B, 0, none⟩)]) → Calls Try.prog 61 #[.slice A1 n1 c1, .slice A2 n2 c2, .func (.func 62) #[] #[.pointer (some ⟨C, 0, none⟩)]] W (IPost W r)) := Lib.hid fun W C hb hC => cf1_any L b o B C q cq HQ.out hcq hcq2 l1 l2 A1 A2 n1 n2 c1 c2 HX.out.1 HX.out.2.1 hc1 hm1 hc2 hm2 HX.out.2.2.1 HX.out.2.2.2.1 r hr W ((hb.cell (p := ⟨B, 0, none⟩) (World.block_lt_of_cell? w _ HT.out.1)).trans HT.out.1) (HX.out.2.2.2.2.1.below hb) hC (HX.out.2.2.2.2.2.1.below hb) (HX.out.2.2.2.2.2.2.below hb)
        have HS : Hid (R = if r = 0 then cmpU L l1 l2 (1 + 1) (n - 1 - 1) else r) := Lib.hid (by rw [HI.out.1, hr, show n - 1 = (n - 1 - 1) + 1 by omega, cmpU_succ]; rfl)
        clear hr
        by_cases hr0 : r = 0
        · subst hr0
          go_wp2_with ((with_reducible refine (HCC.out _ _ (below_al HI.out.2 _) (cell_made _ _ _)).mono ?_); rintro e w3 hp; obtain ⟨rfl, hb3⟩ := i_out hp; have HB3 : Hid (Below w.heap.size w w3) := Lib.hid (below_next (below_al HI.out.2 _) hb3); clear hp hb3)
          go_roundg gg
          case rel => exact ⟨1 + 1, by omega, by go_num, Lib.hid ⟨by rw [HS.out]; first | (rw [if_pos rfl, Nat.sub_sub]) | (rw [if_pos trivial, Nat.sub_sub]), HB3.out⟩⟩
          case measure => omega
        · have hne : (r != 0) = true := bne_iff_ne.2 hr0
          have HS2 : Hid (R = r) := Lib.hid (by rw [HS.out]; exact if_neg hr0)
          clear hr0
          go_wp2_with ((with_reducible refine (HCC.out _ _ (below_al HI.out.2 _) (cell_made _ _ _)).mono ?_); rintro e w3 hp; obtain ⟨rfl, hb3⟩ := i_out hp; have HB3 : Hid (Below w.heap.size w w3) := Lib.hid (below_next (below_al HI.out.2 _) hb3); clear hp hb3)
          go_ret
          exact ⟨ret_int HS2.out.symm, HB3.out⟩
      · have hcf : wr.cell? ⟨g, 2, none⟩ = some (.func (.func 58) #[] #[.pointer (some ⟨B, 0, none⟩)]) := by first | exact (HT.out.below HI.out.2).2 2 _ rfl | exact (HT.out.below HI.out.2).2 2 _ (by rfl)
        obtain ⟨r, hr⟩ : ∃ r, r = cmpL (lev L 2 l1) (lev L 2 l2) := ⟨_, rfl⟩
        have HCC : Hid (∀ W C, Below w.heap.size w W → W.cell? ⟨C, 0, none⟩ = some (.func (.func 58) #[] #[.pointer (some ⟨B, 0, none⟩)]) → Calls Try.prog 61 #[.slice A1 n1 c1, .slice A2 n2 c2, .func (.func 62) #[] #[.pointer (some ⟨C, 0, none⟩)]] W (IPost W r)) := Lib.hid fun W C hb hC => cf2_any L b o B C q cq HQ.out hcq hcq2 l1 l2 A1 A2 n1 n2 c1 c2 HX.out.1 HX.out.2.1 hc1 hm1 hc2 hm2 HX.out.2.2.1 HX.out.2.2.2.1 r hr W ((hb.cell (p := ⟨B, 0, none⟩) (World.block_lt_of_cell? w _ HT.out.1)).trans HT.out.1) (HX.out.2.2.2.2.1.below hb) hC (HX.out.2.2.2.2.2.1.below hb) (HX.out.2.2.2.2.2.2.below hb)
        have HS : Hid (R = if r = 0 then cmpU L l1 l2 (2 + 1) (n - 2 - 1) else r) := Lib.hid (by rw [HI.out.1, hr, show n - 2 = (n - 2 - 1) + 1 by omega, cmpU_succ]; rfl)
        clear hr
        by_cases hr0 : r = 0
        · subst hr0
          go_wp2_with ((with_reducible refine (HCC.out _ _ (below_al HI.out.2 _) (cell_made _ _ _)).mono ?_); rintro e w3 hp; obtain ⟨rfl, hb3⟩ := i_out hp; have HB3 : Hid (Below w.heap.size w w3) := Lib.hid (below_next (below_al HI.out.2 _) hb3); clear hp hb3)
          go_roundg gg
          case rel => exact ⟨2 + 1, by omega, by go_num, Lib.hid ⟨by rw [HS.out]; first | (rw [if_pos rfl, Nat.sub_sub]) | (rw [if_pos trivial, Nat.sub_sub]), HB3.out⟩⟩
          case measure => omega
        · have hne : (r != 0) = true := bne_iff_ne.2 hr0
          have HS2 : Hid (R = r) := Lib.hid (by rw [HS.out]; exact if_neg hr0)
          clear hr0
          go_wp2_with ((with_reducible refine (HCC.out _ _ (below_al HI.out.2 _) (cell_made _ _ _)).mono ?_); rintro e w3 hp; obtain ⟨rfl, hb3⟩ := i_out hp; have HB3 : Hid (Below w.heap.size w w3) := Lib.hid (below_next (below_al HI.out.2 _) hb3); clear hp hb3)
          go_ret
          exact ⟨ret_int HS2.out.symm, HB3.out⟩
      · have hcf : wr.cell? ⟨g, 3, none⟩ = some (.func (.func 59) #[] #[]) := by first | exact (HT.out.below HI.out.2).2 3 _ rfl | exact (HT.out.below HI.out.2).2 3 _ (by rfl)
        obtain ⟨r, hr⟩ : ∃ r, r = cmpL (lev L 3 l1) (lev L 3 l2) := ⟨_, rfl⟩
        have HCC : Hid (∀ W C, Below w.heap.size w W → W.cell? ⟨C, 0, none⟩ = some (.func (.func 59) #[] #[]) → Calls Try.prog 61 #[.slice A1 n1 c1, .slice A2 n2 c2, .func (.func 62) #[] #[.pointer (some ⟨C, 0, none⟩)]] W (IPost W r)) := Lib.hid fun W C hb hC => cf3_any L b o B C q cq HQ.out hcq hcq2 l1 l2 A1 A2 n1 n2 c1 c2 HX.out.1 HX.out.2.1 hc1 hm1 hc2 hm2 HX.out.2.2.1 HX.out.2.2.2.1 r hr W ((hb.cell (p := ⟨B, 0, none⟩) (World.block_lt_of_cell? w _ HT.out.1)).trans HT.out.1) (HX.out.2.2.2.2.1.below hb) hC (HX.out.2.2.2.2.2.1.below hb) (HX.out.2.2.2.2.2.2.below hb)
        have HS : Hid (R = if r = 0 then cmpU L l1 l2 (3 + 1) (n - 3 - 1) else r) := Lib.hid (by rw [HI.out.1, hr, show n - 3 = (n - 3 - 1) + 1 by omega, cmpU_succ]; rfl)
        clear hr
        by_cases hr0 : r = 0
        · subst hr0
          go_wp2_with ((with_reducible refine (HCC.out _ _ (below_al HI.out.2 _) (cell_made _ _ _)).mono ?_); rintro e w3 hp; obtain ⟨rfl, hb3⟩ := i_out hp; have HB3 : Hid (Below w.heap.size w w3) := Lib.hid (below_next (below_al HI.out.2 _) hb3); clear hp hb3)
          go_roundg gg
          case rel => exact ⟨3 + 1, by omega, by go_num, Lib.hid ⟨by rw [HS.out]; first | (rw [if_pos rfl, Nat.sub_sub]) | (rw [if_pos trivial, Nat.sub_sub]), HB3.out⟩⟩
          case measure => omega
        · have hne : (r != 0) = true := bne_iff_ne.2 hr0
          have HS2 : Hid (R = r) := Lib.hid (by rw [HS.out]; exact if_neg hr0)
          clear hr0
          go_wp2_with ((with_reducible refine (HCC.out _ _ (below_al HI.out.2 _) (cell_made _ _ _)).mono ?_); rintro e w3 hp; obtain ⟨rfl, hb3⟩ := i_out hp; have HB3 : Hid (Below w.heap.size w w3) := Lib.hid (below_next (below_al HI.out.2 _) hb3); clear hp hb3)
          go_ret
          exact ⟨ret_int HS2.out.symm, HB3.out⟩
    · obtain rfl : j = n := by omega
      have HE : Hid (R = 0) := Lib.hid (by rw [HI.out.1, Nat.sub_self]; rfl)
      go_wp2_with fail
      go_ret
      exact ⟨ret_int HE.out.symm, HI.out.2⟩
theorem by_any (L : List Lt) (b o g q cq n c : Nat) (hq : q = L.length) (hcq : q ≤ cq) (hcq2 : cq ≤ maxLen) (hn4 : n ≤ 4) (hc : n ≤ c) (hm : c ≤ maxLen) (l1 l2 : List Int) (A1 A2 : Option Addr) (n1 n2 c1 c2 : Nat) (h1 : n1 = l1.length) (h2 : n2 = l2.length) (hc1 : n1 ≤ c1) (hm1 : c1 ≤ maxLen) (hc2 : n2 ≤ c2) (hm2 : c2 ≤ maxLen) (hl1 : inL q l1) (hl2 : inL q l2)
    (R : Int) (hR : R = cmpU L l1 l2 0 n) (w : World) (ht : Tab w (.slice (some ⟨b, o, none⟩) q cq) g) (hrl : RL w b o L) (hr1 : Rd w A1 (iv l1)) (hr2 : Rd w A2 (iv l2)) :
    Calls Try.prog 48 #[.slice (some ⟨g, 0, none⟩) n c, .slice A1 n1 c1, .slice A2 n2 c2] w (IPost w R) := by
  obtain ⟨B, h⟩ := ht
  exact by_aux L b o g B q cq n c hq hcq hcq2 hn4 hc hm l1 l2 A1 A2 n1 n2 c1 c2 h1 h2 hc1 hm1 hc2 hm2 hl1 hl2 R hR w h hrl hr1 hr2
end Go.Proofs.Ytalladdmedmfeaa
