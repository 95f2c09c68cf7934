/-
  The walk of the law's own examples (sanity): true, and nothing that was there has turned.
-/
import Derived.Test.YtelkekicceoaoaaWSameD
import Derived.Test.YtelkekicceoaoaaWGetX
namespace Go.Proofs.Ytelkekicceoaoaa
open Go.RowKit
set_option linter.unusedVariables false

theorem rd_new (w : World) (C : Array Value) (t : TypeId) (xs : List Value) (h : C.toList = xs) : Rd (w.alloc (.cells C t)) (some ⟨w.heap.size, 0, none⟩) xs := by
  subst h
  refine .inr ⟨w.heap.size, 0, rfl, fun k v hv => ?_⟩
  rw [cell_of_row _ w.heap.size (0 + k) C t (0, 0) (heap_alloc_new w _)]
  simpa using hv

theorem rd_at {w : World} {C : Array Value} {t : TypeId} {xs : List Value} {g : Nat} (h : C.toList = xs) (hg : g = w.heap.size) : Rd (w.alloc (.cells C t)) (some ⟨g, 0, none⟩) xs := by
  subst hg
  exact rd_new w C t xs h
theorem below_new {w w' : World} {o : Obj} (h : Below (w.alloc o).heap.size (w.alloc o) w') : Below w.heap.size w w' := ((Below.refl _ _).alloc (Nat.le_refl _) o).trans (h.mono (by simp))
theorem below_next {w0 w w' : World} (h : Below w0.heap.size w0 w) (k : Below w.heap.size w w') : Below w0.heap.size w0 w' := h.trans (k.mono h.size)
theorem below_drewN {w0 w : World} (h : Below w0.heap.size w0 w) (n : Nat) : Below w0.heap.size w0 (w.drewN n) := ⟨h.os, h.tape, h.output, h.size, h.block⟩

/-! ## one call on a slice that has just been laid -/

theorem st_int {w : World} {C : Array Value} {t : TypeId} {g n : Nat} (l : List UInt8) (r : Int × Nat × Int) (hr : gI l = r) (hC : C.toList = bs l) (hn : l.length = n) (hm : n ≤ maxLen) (hg : g = w.heap.size) :
    Calls Try.prog 24 #[.slice (some ⟨g, 0, none⟩) n n] (w.alloc (.cells C t)) fun e w' => e = ret3 r ∧ Below w.heap.size w w' := by
  subst hn
  exact (getInt_any l _ _ _ (Nat.le_refl _) hm (rd_at hC hg)).mono fun e w' ⟨h1, h2⟩ => ⟨by rw [← hr]; exact h1, by subst h2; exact below_new (Below.refl _ _)⟩
theorem st_bytes {w : World} {C : Array Value} {t : TypeId} {g n : Nat} (l : List UInt8) (r : List UInt8 × Nat × Int) (hr : gB3 l = r) (hC : C.toList = bs l) (hn : l.length = n) (hm : n ≤ maxLen) (hg : g = w.heap.size) :
    Calls Try.prog 26 #[.slice (some ⟨g, 0, none⟩) n n] (w.alloc (.cells C t)) fun e w' => e = retS r ∧ Below w.heap.size w w' := by
  subst hn
  exact (getBytes_any l _ _ _ (Nat.le_refl _) hm (rd_at hC hg)).mono fun e w' ⟨h1, h2⟩ => ⟨by rw [← hr]; exact h1, by subst h2; exact below_new (Below.refl _ _)⟩
theorem postL_ok {w w' : World} {t : TypeId} {size : Nat} {res : Nat × Int} {cells : List (List Value)} {e : Ending} (h : PostL w t size res cells e w') (h0 : res.2 = 0) :
    ∃ A c, e = .returned (.tuple #[.slice A cells.length c, .int .i64 res.1, .int .i64 0]) ∧ Rd w' A cells.flatten ∧ Below w.heap.size w w' ∧ cells.length ≤ maxLen := by
  obtain ⟨v, he, hb, _, hown⟩ := h
  obtain ⟨A, c, rfl, hrd, hc, hm⟩ := Rd.of_own (hown h0)
  exact ⟨A, c, by rw [he, h0], hrd, hb, Nat.le_trans hc hm⟩
theorem st_list {w : World} {o : Obj} {f : FuncId} {args : Array Value} {t : TypeId} {size : Nat} {res : Nat × Int} {cells : List (List Value)} (h : Calls Try.prog f args (w.alloc o) (PostL (w.alloc o) t size res cells)) (u : Nat) (cs : List (List Value)) (h1 : res = (u, 0)) (h2 : cells = cs) :
    Calls Try.prog f args (w.alloc o) fun e w' => ∃ A c, e = .returned (.tuple #[.slice A cs.length c, .int .i64 u, .int .i64 0]) ∧ Rd w' A cs.flatten ∧ Below w.heap.size w w' := by
  subst h1 h2
  exact h.mono fun e w' h => by
    obtain ⟨A, c, he, hr, hb, _⟩ := postL_ok h rfl
    exact ⟨A, c, he, hr, below_new hb⟩
theorem st_own {w : World} {f : FuncId} {args : Array Value} {W : World} {l : List UInt8} (h : Calls Try.prog f args W fun e w' => ∃ v', e = .returned v' ∧ w'.ownsRow W.heap.size 5 1 v' l.length (bs l) ∧ Below W.heap.size W w') (l' : List UInt8) (hl : l = l') (hb : Below w.heap.size w W) :
    Calls Try.prog f args W fun e w' => ∃ A c, e = .returned (.slice A l'.length c) ∧ (Rd w' A (bs l') ∧ l'.length ≤ c ∧ c ≤ maxLen) ∧ Below w.heap.size w w' := by
  subst hl
  exact h.mono fun e w' ⟨v, he, hown, hb'⟩ => by
    obtain ⟨A, c, rfl, hr, h1, h2⟩ := Rd.of_own hown
    exact ⟨A, c, he, ⟨hr, h1, h2⟩, below_next hb hb'⟩

theorem st_list0 {f : FuncId} {args : Array Value} {W : World} {t : TypeId} {size : Nat} {res : Nat × Int} {cells : List (List Value)} (h : Calls Try.prog f args W (PostL W t size res cells)) (u : Nat) (cs : List (List Value)) (h1 : res = (u, 0)) (h2 : cells = cs) :
    Calls Try.prog f args W fun e w' => ∃ A c, e = .returned (.tuple #[.slice A cs.length c, .int .i64 u, .int .i64 0]) ∧ Rd w' A cs.flatten ∧ Below W.heap.size W w' := by
  subst h1 h2
  exact h.mono fun e w' h => by
    obtain ⟨A, c, he, hr, hb, _⟩ := postL_ok h rfl
    exact ⟨A, c, he, hr, hb⟩
theorem st_drew {f : FuncId} {args : Array Value} {W w : World} (h : Calls Try.prog f args W fun e w' => e = .returned (.bool true) ∧ ∃ m, w' = W.drewN m) (hb : Below w.heap.size w W) : Calls Try.prog f args W fun e w' => e = .returned (.bool true) ∧ Below w.heap.size w w' :=
  h.mono fun e w' ⟨he, m, hm⟩ => ⟨he, by subst hm; exact below_drewN hb m⟩
theorem below_a1 (w : World) (o : Obj) : Below w.heap.size w (w.alloc o) := (Below.refl _ _).alloc (Nat.le_refl _) o
theorem below_a2 (w : World) (o o' : Obj) : Below w.heap.size w ((w.alloc o).alloc o') := (below_a1 w o).alloc (by simp) o'

theorem sI1 : gI [130, 1, 0, 9] = (256, 3, 0) := by decide +kernel
theorem sI2 : gI [130, 1] = (0, 0, 3) := by decide +kernel
theorem sI3 : gI [129, 0] = (0, 0, 2) := by decide +kernel
theorem sB1 : gB3 [129, 2, 97, 98, 7] = ([97, 98], 4, 0) := by decide +kernel
theorem sL1 : gList elI [129, 2, 129, 1, 127] 1 = (5, 0) := by decide +kernel
theorem sL2 : sList stI elI [129, 2, 129, 1, 127] 1 [] = [[.int .i64 1], [.int .i64 (-1)]] := by kernel_rfl
theorem sS1 : gList elS [129, 2, 128, 129, 1, 97, 5] 1 = (6, 0) := by decide +kernel
theorem sS2 : sList stS elS [129, 2, 128, 129, 1, 97, 5] 1 [] = [[.string ⟨#[]⟩], [.string ⟨#[97]⟩]] := by kernel_rfl
def dig1 : List UInt8 := [1, 2, 0, 0, 0, 0, 0, 0, 0, 0, 0, 0, 0, 0, 0, 0]
def D18 : List UInt8 := 129 :: 1 :: dig1
theorem sD0 : eD [dig1] = D18 := by decide +kernel
theorem sD1 : gList elD D18 16 = (18, 0) := by decide +kernel
theorem sD2 : sList stD elD D18 16 [] = [bs dig1] := by kernel_rfl
def E1 : List UInt8 := [125, 254, 255]
def E2 : List UInt8 := [129, 2, 97, 98]
def E3 : List UInt8 := [129, 2, 129, 1, 127]
def E4 : List UInt8 := [129, 2, 128, 129, 1, 97]
def TX : List ByteArray := [⟨#[]⟩, ⟨#[97]⟩]
theorem rd_cells {w : World} {g : Nat} {xs : List Value} (h : Rd w (some ⟨g, 0, none⟩) xs) : ∀ k v, xs[k]? = some v → w.cell? ⟨g, k, none⟩ = some v := by
  intro k v hv
  rcases h with rfl | ⟨b, o, e, hc⟩
  · simp at hv
  · obtain ⟨rfl, rfl⟩ : g = b ∧ 0 = o := by simpa using e
    have := hc k v hv
    rwa [Nat.zero_add] at this
theorem sE1 : en (-257) = E1 := by decide +kernel
theorem sE2 : eB [97, 98] = E2 := by decide +kernel
theorem sE3 : eL [1, -1] = E3 := by decide +kernel
theorem sE4 : eS (lists TX) = E4 := by decide +kernel

def San (w : World) (e : Ending) (w' : World) : Prop := e = .returned (.bool true) ∧ Below w.heap.size w w'

set_option maxRecDepth 100000 in
set_option maxHeartbeats 1000000 in
theorem sanity_any (w : World) : Calls Try.prog 12 #[] w (San w) := by
  go_enter Try.func12, Try.ntmps12
  have hb0 := Below.refl w.heap.size w
  go_wp2_with fail
  refine (st_int [130, 1, 0, 9] _ sI1 rfl rfl (by unfold maxLen; decide) (by simp)).mono ?_
  rintro e w1 ⟨rfl, hn1⟩
  unfold ret3
  have hb1 := below_next hb0 hn1
  clear hn1
  go_wp2_with fail
  refine (st_int [130, 1] _ sI2 rfl rfl (by unfold maxLen; decide) (by simp)).mono ?_
  rintro e w2 ⟨rfl, hn2⟩
  unfold ret3
  have hb2 := below_next hb1 hn2
  clear hn2
  go_wp2_with fail
  refine (st_int [129, 0] _ sI3 rfl rfl (by unfold maxLen; decide) (by simp)).mono ?_
  rintro e w3 ⟨rfl, hn3⟩
  unfold ret3
  have hb3 := below_next hb2 hn3
  clear hn3
  go_wp2_with fail
  refine (st_bytes [129, 2, 97, 98, 7] _ sB1 rfl rfl (by unfold maxLen; decide) (by simp)).mono ?_
  rintro e w4 ⟨rfl, hn4⟩
  unfold retS
  have hb4 := below_next hb3 hn4
  clear hn4
  go_wp2_with fail
  refine (st_list (getI_any [129, 2, 129, 1, 127] _ 5 _ (by decide) (by decide) (by unfold maxLen; omega) (by exact rd_at rfl (by simp))) 5 _ sL1 sL2).mono ?_
  rintro e w5 ⟨A5, c5, rfl, hr5, hn5⟩
  have HR5 : Hid (Rd w5 A5 (([1, -1] : List Int).map (Value.int .i64))) := hr5
  have hb5 := below_next hb4 hn5
  clear hn5 hr5
  go_wp2_with fail
  refine (st_own (w := w5.alloc (.cells #[.int .u8 1, .int .u8 2, .int .u8 0, .int .u8 0, .int .u8 0, .int .u8 0, .int .u8 0, .int .u8 0, .int .u8 0, .int .u8 0, .int .u8 0, .int .u8 0, .int .u8 0, .int .u8 0, .int .u8 0, .int .u8 0] 57)) (digests_any [dig1] _ 1 _ (by decide) (by simp [dig1]) (by exact rd_at rfl (by simp))) D18 sD0 (below_a1 _ _)).mono ?_
  rintro e w6 ⟨A6, c6, rfl, hr6, hn6⟩
  have hm6 := hn6
  replace hn6 := below_new hn6
  have HR5 := Lib.hid (HR5.out.below hn6)
  have hb6 := below_next hb5 hn6
  have HRD : Hid (Rd w6 (some ⟨w5.heap.size, 0, none⟩) (bs dig1)) := (rd_at (w := w5) (C := #[.int .u8 1, .int .u8 2, .int .u8 0, .int .u8 0, .int .u8 0, .int .u8 0, .int .u8 0, .int .u8 0, .int .u8 0, .int .u8 0, .int .u8 0, .int .u8 0, .int .u8 0, .int .u8 0, .int .u8 0, .int .u8 0]) (t := 57) rfl rfl).below hm6
  clear hn6 hb5
  clear hm6
  have HR6 := Lib.hid hr6; clear hr6
  go_wp2_with fail
  refine (st_list0 (getD_any D18 A6 c6 w6 (by decide) HR6.out.2.1 HR6.out.2.2 HR6.out.1) 18 _ sD1 sD2).mono ?_
  rintro e w7 ⟨A7, c7, rfl, hr7, hn7⟩
  have HR5 := Lib.hid (HR5.out.below hn7)
  have HRD := Lib.hid (HRD.out.below hn7)
  have hb7 := below_next hb6 hn7
  have HR7 : Hid (Rd w7 A7 (bs [dig1].flatten)) := hr7
  clear hn7 hb6
  clear HR6 hr7
  go_wp2_with fail
  refine (st_list (getS_any [129, 2, 128, 129, 1, 97, 5] _ 7 _ (by decide) (by decide) (by unfold maxLen; decide) (by exact rd_at rfl (by simp))) 6 _ sS1 sS2).mono ?_
  rintro e w8 ⟨A8, c8, rfl, hr8, hn8⟩
  have HR5 := Lib.hid (HR5.out.below hn8)
  have HRD := Lib.hid (HRD.out.below hn8)
  have HR7 := Lib.hid (HR7.out.below hn8)
  have hb8 := below_next hb7 hn8
  have HR8 : Hid (Rd w8 A8 (TX.map Value.string)) := hr8
  clear hn8 hb7
  clear hr8
  go_wp2_with fail
  refine (st_drew (w := w8) (sameTexts_rd TX A8 _ c8 2 _ (by unfold maxLen; decide) (HR8.out.alloc _) (by exact rd_at rfl (by simp))) (below_a1 _ _)).mono ?_
  rintro e w9 ⟨rfl, hn9⟩
  have HR5 := Lib.hid (HR5.out.below hn9)
  have HRD := Lib.hid (HRD.out.below hn9)
  have HR7 := Lib.hid (HR7.out.below hn9)
  have HR8 := Lib.hid (HR8.out.below hn9)
  have hb9 := below_next hb8 hn9
  clear hn9 hb8
  clear HR8
  go_wp2_with fail
  refine (st_own (w := w9) (strings_any TX _ 2 _ (by decide) (by decide) (by exact rd_at rfl (by simp))) E4 sE4 (below_a1 _ _)).mono ?_
  rintro e w10 ⟨A10, c10, rfl, hr10, hn10⟩
  have HR5 := Lib.hid (HR5.out.below hn10)
  have HRD := Lib.hid (HRD.out.below hn10)
  have HR7 := Lib.hid (HR7.out.below hn10)
  have hb10 := below_next hb9 hn10
  clear hn10 hb9
  go_wp2_with fail
  refine (st_drew (w := w10) (same_rd E4 A10 _ c10 6 _ (by unfold maxLen; decide) (hr10.1.alloc _) (by exact rd_at rfl (by simp))) (below_a1 _ _)).mono ?_
  rintro e w11 ⟨rfl, hn11⟩
  have HR5 := Lib.hid (HR5.out.below hn11)
  have HRD := Lib.hid (HRD.out.below hn11)
  have HR7 := Lib.hid (HR7.out.below hn11)
  have hb11 := below_next hb10 hn11
  clear hn11 hb10
  clear hr10
  go_wp2_with fail
  refine (st_own (w := w11) (int_any (-257) (by unfold inI; omega) w11) E1 sE1 (Below.refl _ _)).mono ?_
  rintro e w12 ⟨A12, c12, rfl, hr12, hn12⟩
  have HR5 := Lib.hid (HR5.out.below hn12)
  have HRD := Lib.hid (HRD.out.below hn12)
  have HR7 := Lib.hid (HR7.out.below hn12)
  have hb12 := below_next hb11 hn12
  clear hn12 hb11
  go_wp2_with fail
  refine (st_drew (w := w12) (same_rd E1 A12 _ c12 3 _ (by unfold maxLen; decide) (hr12.1.alloc _) (by exact rd_at rfl (by simp))) (below_a1 _ _)).mono ?_
  rintro e w13 ⟨rfl, hn13⟩
  have HR5 := Lib.hid (HR5.out.below hn13)
  have HRD := Lib.hid (HRD.out.below hn13)
  have HR7 := Lib.hid (HR7.out.below hn13)
  have hb13 := below_next hb12 hn13
  clear hn13 hb12
  clear hr12
  go_wp2_with fail
  refine (st_drew (w := w13) (sameInts_rd [1, -1] A5 _ c5 2 _ (by unfold maxLen; decide) (HR5.out.alloc _) (by exact rd_at rfl (by simp))) (below_a1 _ _)).mono ?_
  rintro e w14 ⟨rfl, hn14⟩
  have HR5 := Lib.hid (HR5.out.below hn14)
  have HRD := Lib.hid (HRD.out.below hn14)
  have HR7 := Lib.hid (HR7.out.below hn14)
  have hb14 := below_next hb13 hn14
  clear hn14 hb13
  clear HR5
  go_wp2_with fail
  refine (st_own (w := w14) (bytes_any ⟨#[97, 98]⟩ w14 (by decide)) E2 sE2 (Below.refl _ _)).mono ?_
  rintro e w15 ⟨A15, c15, rfl, hr15, hn15⟩
  have HRD := Lib.hid (HRD.out.below hn15)
  have HR7 := Lib.hid (HR7.out.below hn15)
  have hb15 := below_next hb14 hn15
  clear hn15 hb14
  go_wp2_with fail
  refine (st_drew (w := w15) (same_rd E2 A15 _ c15 4 _ (by unfold maxLen; decide) (hr15.1.alloc _) (by exact rd_at rfl (by simp))) (below_a1 _ _)).mono ?_
  rintro e w16 ⟨rfl, hn16⟩
  have HRD := Lib.hid (HRD.out.below hn16)
  have HR7 := Lib.hid (HR7.out.below hn16)
  have hb16 := below_next hb15 hn16
  clear hn16 hb15
  clear hr15
  go_wp2_with fail
  refine (st_own (w := w16) (ints_any [1, -1] _ 2 _ (by decide) (by intro n hn; simp at hn; unfold inI; omega) (by exact rd_at rfl (by simp))) E3 sE3 (below_a1 _ _)).mono ?_
  rintro e w17 ⟨A17, c17, rfl, hr17, hn17⟩
  have HRD := Lib.hid (HRD.out.below hn17)
  have HR7 := Lib.hid (HR7.out.below hn17)
  have hb17 := below_next hb16 hn17
  clear hn17 hb16
  go_wp2_with fail
  refine (st_drew (w := w17) (same_rd E3 A17 _ c17 5 _ (by unfold maxLen; decide) (hr17.1.alloc _) (by exact rd_at rfl (by simp))) (below_a1 _ _)).mono ?_
  rintro e w18 ⟨rfl, hn18⟩
  have HRD := Lib.hid (HRD.out.below hn18)
  have HR7 := Lib.hid (HR7.out.below hn18)
  have hb18 := below_next hb17 hn18
  clear hn18 hb17
  clear hr17
  have hcd := rd_cells HRD.out
  have hcd0 : w18.cell? ⟨w5.heap.size, 0, none⟩ = some (.int .u8 1) := hcd 0 _ rfl
  have hcd1 : w18.cell? ⟨w5.heap.size, 1, none⟩ = some (.int .u8 2) := hcd 1 _ rfl
  have hcd2 : w18.cell? ⟨w5.heap.size, 2, none⟩ = some (.int .u8 0) := hcd 2 _ rfl
  have hcd3 : w18.cell? ⟨w5.heap.size, 3, none⟩ = some (.int .u8 0) := hcd 3 _ rfl
  have hcd4 : w18.cell? ⟨w5.heap.size, 4, none⟩ = some (.int .u8 0) := hcd 4 _ rfl
  have hcd5 : w18.cell? ⟨w5.heap.size, 5, none⟩ = some (.int .u8 0) := hcd 5 _ rfl
  have hcd6 : w18.cell? ⟨w5.heap.size, 6, none⟩ = some (.int .u8 0) := hcd 6 _ rfl
  have hcd7 : w18.cell? ⟨w5.heap.size, 7, none⟩ = some (.int .u8 0) := hcd 7 _ rfl
  have hcd8 : w18.cell? ⟨w5.heap.size, 8, none⟩ = some (.int .u8 0) := hcd 8 _ rfl
  have hcd9 : w18.cell? ⟨w5.heap.size, 9, none⟩ = some (.int .u8 0) := hcd 9 _ rfl
  have hcd10 : w18.cell? ⟨w5.heap.size, 10, none⟩ = some (.int .u8 0) := hcd 10 _ rfl
  have hcd11 : w18.cell? ⟨w5.heap.size, 11, none⟩ = some (.int .u8 0) := hcd 11 _ rfl
  have hcd12 : w18.cell? ⟨w5.heap.size, 12, none⟩ = some (.int .u8 0) := hcd 12 _ rfl
  have hcd13 : w18.cell? ⟨w5.heap.size, 13, none⟩ = some (.int .u8 0) := hcd 13 _ rfl
  have hcd14 : w18.cell? ⟨w5.heap.size, 14, none⟩ = some (.int .u8 0) := hcd 14 _ rfl
  have hcd15 : w18.cell? ⟨w5.heap.size, 15, none⟩ = some (.int .u8 0) := hcd 15 _ rfl
  clear hcd
  go_wp2_with fail
  refine (st_drew (w := w18) (sameD_rd [dig1] (by simp [dig1]) A7 _ c7 1 _ (by unfold maxLen; decide) (HR7.out.alloc _) (by exact rd_at rfl (by simp))) (below_a1 _ _)).mono ?_
  rintro e w19 ⟨rfl, hn19⟩
  have HRD := Lib.hid (HRD.out.below hn19)
  have HR7 := Lib.hid (HR7.out.below hn19)
  have hb19 := below_next hb18 hn19
  clear hn19 hb18
  go_wp2_with fail
  go_ret
  exact ⟨rfl, hb19⟩

end Go.Proofs.Ytelkekicceoaoaa
