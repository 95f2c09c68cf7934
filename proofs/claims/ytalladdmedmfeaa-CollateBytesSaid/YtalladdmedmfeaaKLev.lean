/-
  collate: isLetter, lettersOf, levels and their functions, cmp.Compare, the closure of compareBy.
-/
import Derived.Test.YtalladdmedmfeaaAFold
import Derived.Test.YtalladdmedmfeaaKPure
import Derived.Laws.EntriesVeiled
namespace Go.Proofs.Ytalladdmedmfeaa
open Go.RowKit
open Alp
open Col
set_option linter.unusedVariables false
set_option linter.unusedSimpArgs false

def IPost (w : World) (n : Int) (e : Ending) (w' : World) : Prop := e = .returned (.int .i64 n) ∧ Below w.heap.size w w'
theorem i_out {w w' : World} {n : Int} {e : Ending} (h : IPost w n e w') : e = .returned (.int .i64 n) ∧ Below w.heap.size w w' := h
set_option maxRecDepth 100000 in
set_option maxHeartbeats 2000000 in
theorem isLetter_any (A : Option Addr) (n c : Nat) (x : Int) (w : World) (b : Bool) (hb : b = isL n x) : Calls Try.prog 47 #[.slice A n c, .int .i64 x] w (BoolIs w b) := by
  subst hb
  by_cases h1 : 0 ≤ x
  · by_cases h2 : x < n
    · have e : isL n x = true := (isL_iff n x).2 ⟨h1, h2⟩
      rw [e]
      clear e
      go_enter Try.func47, Try.ntmps47
      go_wp2_with fail
      go_ret
      exact ⟨rfl, rfl⟩
    · have e : isL n x = false := Bool.eq_false_iff.2 fun h => h2 ((isL_iff n x).1 h).2
      rw [e]
      clear e
      go_enter Try.func47, Try.ntmps47
      go_wp2_with fail
      go_ret
      exact ⟨rfl, rfl⟩
  · have e : isL n x = false := Bool.eq_false_iff.2 fun h => h1 ((isL_iff n x).1 h).1
    rw [e]
    clear e
    go_enter Try.func47, Try.ntmps47
    go_wp2_with fail
    go_ret
    exact ⟨rfl, rfl⟩
theorem run_make_ints0 (n : Nat) (hn : n ≤ 1000000) (w : World) : (Instr.makeSlice 22 (.int .i64 0) (.int .i64 (n : Int))).run Try.prog w = .ok (.slice (some ⟨w.heap.size, 0, none⟩) 0 n) (w.alloc (.cells (iv (List.replicate n 0)).toArray 3)) := by
  obtain ⟨i0, hi0, hz0, hz1, hz2⟩ := info_parts Try.infoInt
  have h := run_make (P := Try.prog) w 22 3 i0 _ Try.underlying22 hi0 hz0 .i64 .i64 0 (n : Int) (Int.le_refl _) (by omega) (by rw [hz2]; omega) (by omega)
  have e : madeCells (Value.int .i64 0).cells n = (iv (List.replicate n 0)).toArray := by
    apply Array.ext
    · simp [iv_length, madeCells]
    · intro i h1 h2
      simp [madeCells, iv, Value.cells, Nat.mod_one]
  rw [h, Int.toNat_natCast, hz1, Nat.mul_one, e]
  rfl
theorem own_made (w : World) (n : Nat) (hn : n ≤ 1000000) (Z : Array Value) (hZ : Z = (iv (List.replicate n 0)).toArray) : (w.alloc (.cells Z 3)).ownsRow w.heap.size 3 1 (.slice (some ⟨w.heap.size, 0, none⟩) 0 n) 0 (iv []) := by
  subst hZ
  exact ⟨rfl, .inr ⟨w.heap.size, n, _, rfl, Nat.le_refl _, heap_alloc_new w _, Nat.zero_le _, by unfold maxLen; omega, by simp [iv_length], rfl⟩⟩
theorem ltr_step_yes {q : Nat} {l : List Int} {k : Nat} (hk : k < l.length) {x : Int} (hx : x = l.getD k 0) (h : 0 ≤ x ∧ x < (q : Int)) : ltr q (l.take (k + 1)) = ltr q (l.take k) ++ [x] := by
  rw [List.take_succ_eq_append_getElem hk, show l[k] = x by rw [hx]; simp [List.getD, hk]]
  exact ltr_snoc_yes h
theorem ltr_step_no {q : Nat} {l : List Int} {k : Nat} (hk : k < l.length) {x : Int} (hx : x = l.getD k 0) (h : ¬ (0 ≤ x ∧ x < (q : Int))) : ltr q (l.take (k + 1)) = ltr q (l.take k) := by
  rw [List.take_succ_eq_append_getElem hk, show l[k] = x by rw [hx]; simp [List.getD, hk]]
  exact ltr_snoc_no h
set_option maxRecDepth 100000 in
set_option maxHeartbeats 4000000 in
theorem letters_aux (q cq : Nat) (AL : Option Addr) (l : List Int) (A : Option Addr) (n c : Nat) (hn : n = l.length) (hn2 : n ≤ 100000) (hc : n ≤ c) (hcm : c ≤ maxLen) (hcq : q ≤ cq) (hcq2 : cq ≤ maxLen) (w : World) (b o : Nat) (hA : n = 0 ∨ (A = some ⟨b, o, none⟩ ∧ IL w b o l)) :
    Calls Try.prog 44 #[.slice AL q cq, .slice A n c] w (LPost w (ltr q l)) := by
  obtain ⟨i0, hi0, hz0, hz1, hz2⟩ := info_parts Try.infoInt
  have hmk := fun W => run_make_ints0 n (by omega) W
  obtain ⟨Z, hZ⟩ : ∃ Z, Z = (iv (List.replicate n 0)).toArray := ⟨_, rfl⟩
  rw [← hZ] at hmk
  have hm' : c ≤ 9223372036854775807 := by unfold maxLen at hcm; omega
  have hq' : q ≤ 9223372036854775807 := by unfold maxLen at hcq2; omega
  have HN := Lib.hid hn
  have HA := Lib.hid hA
  have HZ := Lib.hid hZ
  have HW0 : Hid ((w.alloc (.cells Z 3)).ownsRow w.heap.size 3 1 (.slice (some ⟨w.heap.size, 0, none⟩) 0 n) 0 (iv [])) := Lib.hid (own_made w n (by omega) Z hZ)
  clear hn hA hZ
  go_enter Try.func44, Try.ntmps44
  go_wp2_with fail
  go_loopg [5, 7, 13] n (fun g s5 s7 s13 wr => ∃ (k : Nat) (D : List Int), k + g = n ∧ D.length ≤ k ∧ s13 = .int .i64 (k : Int) ∧ Hid (D = ltr q (l.take k) ∧ wr.ownsRow w.heap.size 3 1 s5 D.length (iv D) ∧ Below w.heap.size w wr))
  case atStart => exact ⟨0, [], by omega, Nat.le_refl _, rfl, Lib.hid ⟨rfl, HW0.out, below_a1 _ _⟩⟩
  case round =>
    obtain ⟨k, D, hk, hDk, rfl, HI⟩ := hrel
    obtain ⟨A2, c2, hv, hrd, hmc, hm2⟩ := Rd.of_own HI.out.2.1
    subst hv
    have HRD := Lib.hid hrd
    have HBW : Hid (Below w.heap.size w wr) := Lib.hid HI.out.2.2
    clear hrd
    obtain ⟨d, hd⟩ : ∃ d, d = D.length := ⟨_, rfl⟩
    have HO : Hid (wr.ownsRow w.heap.size 3 1 (.slice A2 d c2) d (iv D)) := Lib.hid (by rw [hd]; exact HI.out.2.1)
    have HD := Lib.hid hd
    rw [← hd] at hDk hmc ⊢
    clear hd
    by_cases hlt : k < n
    · obtain ⟨g, rfl⟩ : ∃ g, gk = g + 1 := ⟨gk - 1, by omega⟩
      obtain ⟨x, hx⟩ : ∃ x, x = l.getD k 0 := ⟨_, rfl⟩
      have hkl : k < l.length := by rw [← HN.out]; exact hlt
      obtain ⟨rfl, hil⟩ : A = some ⟨b, o, none⟩ ∧ IL w b o l := by
        rcases HA.out with h | h
        · omega
        · exact h
      have hcx : wr.cell? ⟨b, o + k, none⟩ = some (.int .i64 x) := hil.at HI.out.2.2 hkl hx
      by_cases h0 : 0 ≤ x ∧ x < (q : Int)
      · have HH : Hid (∀ W, Calls Try.prog 47 #[.slice AL q cq, .int .i64 x] W fun e w' => e = .returned (.bool true) ∧ W = w') := Lib.hid fun W => isLetter_any _ q cq x W true ((isL_iff q x).2 h0).symm
        have HS : Hid (D ++ [x] = ltr q (l.take (k + 1))) := Lib.hid (by rw [ltr_step_yes hkl hx h0, HI.out.1])
        have hs1 : d + 1 ≤ maxLen := by unfold maxLen; omega
        have hs2 : (d + 1) * 8 ≤ 140737488355328 := by omega
        clear hx hil h0
        go_wp2_with (first
          | ((with_reducible refine (HH.out _).mono ?_); rintro e w0 ⟨rfl, rfl⟩)
          | (at_builtin; refine wpList_own_src rfl (.tmp 20) (.tmp 22) 22 22 rfl w.heap.size 3 i0 _ 1 8 Try.underlying22 hi0 hz0 hz1 hz2 rfl _ _ _ rfl (own_alc HO.out _) _ 1 [.int .i64 x] rfl (src_one Try.underlying22 hz1 _ _ _ rfl) hs1 hs2 (below_al HBW.out _).size ?_; intro v4 w4 hown4 hg4 hat4; have HX4 : Hid (w4.ownsRow w.heap.size 3 1 v4 (d + 1) (iv D ++ [.int .i64 x]) ∧ Below w.heap.size w w4) := Lib.hid ⟨hown4, below_own (below_al HBW.out _) hg4 (fun g hg => (HO.out.lt _ hg).1)⟩; clear hown4 hg4 hat4))
        go_roundg g
        case rel => exact ⟨k + 1, D ++ [x], by omega, by rw [List.length_append, List.length_singleton, ← HD.out]; omega, by go_num, Lib.hid ⟨HS.out, by rw [List.length_append, List.length_singleton, ← HD.out, iv_snoc]; exact HX4.out.1, HX4.out.2⟩⟩
        case measure => omega
      · have HH : Hid (∀ W, Calls Try.prog 47 #[.slice AL q cq, .int .i64 x] W fun e w' => e = .returned (.bool false) ∧ W = w') := Lib.hid fun W => isLetter_any _ q cq x W false (Bool.eq_false_iff.2 fun h => h0 ((isL_iff q x).1 h)).symm
        have HS : Hid (D = ltr q (l.take (k + 1))) := Lib.hid (by rw [ltr_step_no hkl hx h0, HI.out.1])
        clear hx hil h0
        go_wp2_with ((with_reducible refine (HH.out _).mono ?_); rintro e w0 ⟨rfl, rfl⟩)
        go_roundg g
        case rel => exact ⟨k + 1, D, by omega, by rw [← HD.out]; omega, by go_num, Lib.hid ⟨HS.out, by rw [← HD.out]; exact HO.out, HI.out.2.2⟩⟩
        case measure => omega
    · obtain rfl : k = n := by omega
      have HE : Hid (D = ltr q l) := Lib.hid (by rw [HI.out.1, HN.out, List.take_length])
      go_wp2_with fail
      go_ret
      exact ⟨A2, c2, d, rfl, by rw [← HE.out]; exact HD.out, by rw [← HE.out]; exact HRD.out, hmc, hm2, HI.out.2.2⟩
theorem letters_of (q cq : Nat) (AL : Option Addr) (l : List Int) (A : Option Addr) (n c : Nat) (hn : n = l.length) (hn2 : n ≤ 100000) (hc : n ≤ c) (hcm : c ≤ maxLen) (hcq : q ≤ cq) (hcq2 : cq ≤ maxLen) (w : World) (hr : Rd w A (iv l)) :
    Calls Try.prog 44 #[.slice AL q cq, .slice A n c] w (LPost w (ltr q l)) := by
  by_cases h0 : n = 0
  · exact letters_aux q cq AL l A n c hn hn2 hc hcm hcq hcq2 w 0 0 (.inl h0)
  · obtain ⟨b, o, e, h⟩ := il_open hr (by intro e; subst e; exact h0 hn)
    exact letters_aux q cq AL l A n c hn hn2 hc hcm hcq hcq2 w b o (.inr ⟨e, h⟩)
/-- The table of the levels' functions. -/
def fnV (B : Nat) : List Value := [.func (.func 56) #[] #[.pointer (some ⟨B, 0, none⟩)], .func (.func 57) #[] #[.pointer (some ⟨B, 0, none⟩)], .func (.func 58) #[] #[.pointer (some ⟨B, 0, none⟩)], .func (.func 59) #[] #[]]
def Tab (w : World) (sv : Value) (g : Nat) : Prop := ∃ B, w.cell? ⟨B, 0, none⟩ = some sv ∧ ∀ k v, (fnV B)[k]? = some v → w.cell? ⟨g, k, none⟩ = some v
theorem Tab.below {w w' : World} {sv : Value} {g : Nat} (h : Tab w sv g) (hb : Below w.heap.size w w') : Tab w' sv g := by
  obtain ⟨B, h1, h2⟩ := h
  exact ⟨B, (hb.cell (p := ⟨B, 0, none⟩) (World.block_lt_of_cell? w _ h1)).trans h1, fun k v hv => (hb.cell (p := ⟨g, k, none⟩) (World.block_lt_of_cell? w _ (h2 k v hv))).trans (h2 k v hv)⟩
def TabPost (w : World) (sv : Value) (e : Ending) (w' : World) : Prop := ∃ g, e = .returned (.slice (some ⟨g, 0, none⟩) 4 4) ∧ Tab w' sv g ∧ Below w.heap.size w w'
theorem tab_out {w w' : World} {sv : Value} {e : Ending} (h : TabPost w sv e w') : ∃ g, e = .returned (.slice (some ⟨g, 0, none⟩) 4 4) ∧ Tab w' sv g ∧ Below w.heap.size w w' := h
theorem tab_new (w : World) (sv : Value) (T U : TypeId) (B g : Nat) (hB : B = w.heap.size) (hg : g = (w.alloc (.cells #[sv] T)).heap.size) (F : Array Value) (hF : F = (fnV B).toArray) : Tab ((w.alloc (.cells #[sv] T)).alloc (.cells F U)) sv g := by
  subst hF
  have h1 : Blk (w.alloc (.cells #[sv] T)) B [sv] T := Blk.at w [sv] _ T B rfl hB
  have h2 : Blk ((w.alloc (.cells #[sv] T)).alloc (.cells (fnV B).toArray U)) g (fnV B) U := Blk.at _ _ _ U g rfl hg
  exact ⟨B, (h1.alloc _).cell rfl, fun k v hv => h2.cell hv⟩
set_option maxRecDepth 100000 in
set_option maxHeartbeats 2000000 in
theorem levels_any (A : Option Addr) (n c : Nat) (w : World) : Calls Try.prog 45 #[.slice A n c] w (TabPost w (.slice A n c)) := by
  go_enter Try.func45, Try.ntmps45
  go_wp2_with fail
  go_ret
  exact ⟨_, rfl, tab_new w _ _ _ _ _ (by rfl) (by simp) _ (by rfl), below_al (below_a1 _ _) _⟩
set_option maxRecDepth 100000 in
set_option maxHeartbeats 2000000 in
theorem lv0_any (L : List Lt) (b o B x n c : Nat) (hn : n = L.length) (hx : x < n) (hc : n ≤ c) (hm : c ≤ maxLen) (y : Int) (hy : y = num L 0 (x : Int)) (w : World) (hs : w.cell? ⟨B, 0, none⟩ = some (.slice (some ⟨b, o, none⟩) n c)) (hr : RL w b o L) :
    Calls Try.prog 56 #[.int .i64 (x : Int), .pointer (some ⟨B, 0, none⟩)] w fun e w' => e = .returned (.int .i64 y) ∧ w' = w := by
  have hm' : c ≤ 9223372036854775807 := by unfold maxLen at hm; omega
  have hcx : w.cell? ⟨b, o + x * 5 + 1, none⟩ = some (.int .i64 y) := by
    rw [hy]
    show _ = some (Value.int .i64 (L.getD ((x : Int)).toNat z).base)
    rw [Int.toNat_natCast]
    exact hr.c1 (by omega) rfl
  clear hr hy hn
  go_enter Try.func56, Try.ntmps56
  go_wp2_with fail
  go_ret
  exact ⟨rfl, rfl⟩
set_option maxRecDepth 100000 in
set_option maxHeartbeats 2000000 in
theorem lv1_any (L : List Lt) (b o B x n c : Nat) (hn : n = L.length) (hx : x < n) (hc : n ≤ c) (hm : c ≤ maxLen) (y : Int) (hy : y = num L 1 (x : Int)) (w : World) (hs : w.cell? ⟨B, 0, none⟩ = some (.slice (some ⟨b, o, none⟩) n c)) (hr : RL w b o L) :
    Calls Try.prog 57 #[.int .i64 (x : Int), .pointer (some ⟨B, 0, none⟩)] w fun e w' => e = .returned (.int .i64 y) ∧ w' = w := by
  have hm' : c ≤ 9223372036854775807 := by unfold maxLen at hm; omega
  have hcx : w.cell? ⟨b, o + x * 5 + 2, none⟩ = some (.int .i64 y) := by
    rw [hy]
    show _ = some (Value.int .i64 (L.getD ((x : Int)).toNat z).mark)
    rw [Int.toNat_natCast]
    exact hr.c2 (by omega) rfl
  clear hr hy hn
  go_enter Try.func57, Try.ntmps57
  go_wp2_with fail
  go_ret
  exact ⟨rfl, rfl⟩
set_option maxRecDepth 100000 in
set_option maxHeartbeats 2000000 in
theorem lv2_any (L : List Lt) (b o B x n c : Nat) (hn : n = L.length) (hx : x < n) (hc : n ≤ c) (hm : c ≤ maxLen) (y : Int) (hy : y = num L 2 (x : Int)) (w : World) (hs : w.cell? ⟨B, 0, none⟩ = some (.slice (some ⟨b, o, none⟩) n c)) (hr : RL w b o L) :
    Calls Try.prog 58 #[.int .i64 (x : Int), .pointer (some ⟨B, 0, none⟩)] w fun e w' => e = .returned (.int .i64 y) ∧ w' = w := by
  have hm' : c ≤ 9223372036854775807 := by unfold maxLen at hm; omega
  have hcx : w.cell? ⟨b, o + x * 5 + 3, none⟩ = some (.int .i64 y) := by
    rw [hy]
    show _ = some (Value.int .i64 (L.getD ((x : Int)).toNat z).cas)
    rw [Int.toNat_natCast]
    exact hr.c3 (by omega) rfl
  clear hr hy hn
  go_enter Try.func58, Try.ntmps58
  go_wp2_with fail
  go_ret
  exact ⟨rfl, rfl⟩
set_option maxRecDepth 100000 in
set_option maxHeartbeats 2000000 in
theorem lv3_any (x : Int) (w : World) : Calls Try.prog 59 #[.int .i64 x] w fun e w' => e = .returned (.int .i64 x) ∧ w' = w := by
  go_enter Try.func59, Try.ntmps59
  go_wp2_with fail
  go_ret
  exact ⟨rfl, rfl⟩
def cmpI (x y : Int) : Int := if x < y then -1 else if y < x then 1 else 0
set_option maxRecDepth 100000 in
set_option maxHeartbeats 2000000 in
theorem nan_any (x : Int) (w : World) : Calls Try.prog 69 #[.int .i64 x] w fun e w' => e = .returned (.bool false) ∧ w' = w := by
  have hne : (x != x) = false := by simp
  go_enter Try.func69, Try.ntmps69
  go_wp2_with fail
  go_ret
  exact ⟨rfl, rfl⟩
set_option maxRecDepth 100000 in
set_option maxHeartbeats 2000000 in
theorem cmpint_any (x y r : Int) (hr : r = cmpI x y) (w : World) : Calls Try.prog 63 #[.int .i64 x, .int .i64 y] w fun e w' => e = .returned (.int .i64 r) ∧ w' = w := by
  have HNA : Hid (∀ x W, Calls Try.prog 69 #[.int .i64 x] W fun e w' => e = .returned (.bool false) ∧ w' = W) := Lib.hid nan_any
  by_cases h1 : x < y
  · obtain rfl : r = -1 := by rw [hr]; unfold cmpI; rw [if_pos h1]
    clear hr
    go_enter Try.func63, Try.ntmps63
    go_wp2_with ((with_reducible refine (HNA.out _ _).mono ?_); rintro e w1 ⟨rfl, rfl⟩)
    go_ret
    exact ⟨rfl, rfl⟩
  · by_cases h2 : y < x
    · obtain rfl : r = 1 := by rw [hr]; unfold cmpI; rw [if_neg h1, if_pos h2]
      clear hr
      go_enter Try.func63, Try.ntmps63
      go_wp2_with ((with_reducible refine (HNA.out _ _).mono ?_); rintro e w1 ⟨rfl, rfl⟩)
      go_ret
      exact ⟨rfl, rfl⟩
    · obtain rfl : r = 0 := by rw [hr]; unfold cmpI; rw [if_neg h1, if_neg h2]
      clear hr
      go_enter Try.func63, Try.ntmps63
      go_wp2_with ((with_reducible refine (HNA.out _ _).mono ?_); rintro e w1 ⟨rfl, rfl⟩)
      go_ret
      exact ⟨rfl, rfl⟩
set_option maxRecDepth 100000 in
set_option maxHeartbeats 2000000 in
theorem cb0_any (L : List Lt) (b o B C x y n c : Nat) (hn : n = L.length) (hx : x < n) (hy : y < n) (hc : n ≤ c) (hm : c ≤ maxLen) (r : Int) (hR : r = cmpI (num L 0 (x : Int)) (num L 0 (y : Int))) (w : World) (hs : w.cell? ⟨B, 0, none⟩ = some (.slice (some ⟨b, o, none⟩) n c)) (hr : RL w b o L)
    (hC : w.cell? ⟨C, 0, none⟩ = some (.func (.func 56) #[] #[.pointer (some ⟨B, 0, none⟩)])) :
    Calls Try.prog 62 #[.int .i64 (x : Int), .int .i64 (y : Int), .pointer (some ⟨C, 0, none⟩)] w (IPost w r) := by
  obtain ⟨u, hu⟩ : ∃ u, u = num L 0 (x : Int) := ⟨_, rfl⟩
  obtain ⟨v, hv⟩ : ∃ v, v = num L 0 (y : Int) := ⟨_, rfl⟩
  rw [← hu, ← hv] at hR
  have Hu : Hid (∀ W, W.heap = w.heap → Calls Try.prog 56 #[.int .i64 (x : Int), .pointer (some ⟨B, 0, none⟩)] W fun e w' => e = .returned (.int .i64 u) ∧ w' = W) := Lib.hid fun W hW => lv0_any L b o B x n c hn hx hc hm u hu W (by unfold World.cell? at hs ⊢; rw [hW]; exact hs) (fun k hk j v hv => by have := hr k hk j v hv; unfold World.cell? at this ⊢; rw [hW]; exact this)
  have Hv : Hid (∀ W, W.heap = w.heap → Calls Try.prog 56 #[.int .i64 (y : Int), .pointer (some ⟨B, 0, none⟩)] W fun e w' => e = .returned (.int .i64 v) ∧ w' = W) := Lib.hid fun W hW => lv0_any L b o B y n c hn hy hc hm v hv W (by unfold World.cell? at hs ⊢; rw [hW]; exact hs) (fun k hk j v hv => by have := hr k hk j v hv; unfold World.cell? at this ⊢; rw [hW]; exact this)
  have HC : Hid (∀ W, Calls Try.prog 63 #[.int .i64 u, .int .i64 v] W fun e w' => e = .returned (.int .i64 r) ∧ w' = W) := Lib.hid fun W => cmpint_any u v r hR W
  clear hu hv hR hr hs
  go_enter Try.func62, Try.ntmps62
  go_wp2_with fail
  go_quiet ((first | (go_at_call 56; first | exact Calls.quiet_of_same (Hu.out _ rfl) | exact Calls.quiet_of_same (Hv.out _ rfl)) | (go_at_call 63; exact Calls.quiet_of_same (HC.out _))))
  go_wp2_with fail
  go_ret
  exact ⟨rfl, below_drewN (Below.refl _ _) _⟩
set_option maxRecDepth 100000 in
set_option maxHeartbeats 2000000 in
theorem cb1_any (L : List Lt) (b o B C x y n c : Nat) (hn : n = L.length) (hx : x < n) (hy : y < n) (hc : n ≤ c) (hm : c ≤ maxLen) (r : Int) (hR : r = cmpI (num L 1 (x : Int)) (num L 1 (y : Int))) (w : World) (hs : w.cell? ⟨B, 0, none⟩ = some (.slice (some ⟨b, o, none⟩) n c)) (hr : RL w b o L)
    (hC : w.cell? ⟨C, 0, none⟩ = some (.func (.func 57) #[] #[.pointer (some ⟨B, 0, none⟩)])) :
    Calls Try.prog 62 #[.int .i64 (x : Int), .int .i64 (y : Int), .pointer (some ⟨C, 0, none⟩)] w (IPost w r) := by
  obtain ⟨u, hu⟩ : ∃ u, u = num L 1 (x : Int) := ⟨_, rfl⟩
  obtain ⟨v, hv⟩ : ∃ v, v = num L 1 (y : Int) := ⟨_, rfl⟩
  rw [← hu, ← hv] at hR
  have Hu : Hid (∀ W, W.heap = w.heap → Calls Try.prog 57 #[.int .i64 (x : Int), .pointer (some ⟨B, 0, none⟩)] W fun e w' => e = .returned (.int .i64 u) ∧ w' = W) := Lib.hid fun W hW => lv1_any L b o B x n c hn hx hc hm u hu W (by unfold World.cell? at hs ⊢; rw [hW]; exact hs) (fun k hk j v hv => by have := hr k hk j v hv; unfold World.cell? at this ⊢; rw [hW]; exact this)
  have Hv : Hid (∀ W, W.heap = w.heap → Calls Try.prog 57 #[.int .i64 (y : Int), .pointer (some ⟨B, 0, none⟩)] W fun e w' => e = .returned (.int .i64 v) ∧ w' = W) := Lib.hid fun W hW => lv1_any L b o B y n c hn hy hc hm v hv W (by unfold World.cell? at hs ⊢; rw [hW]; exact hs) (fun k hk j v hv => by have := hr k hk j v hv; unfold World.cell? at this ⊢; rw [hW]; exact this)
  have HC : Hid (∀ W, Calls Try.prog 63 #[.int .i64 u, .int .i64 v] W fun e w' => e = .returned (.int .i64 r) ∧ w' = W) := Lib.hid fun W => cmpint_any u v r hR W
  clear hu hv hR hr hs
  go_enter Try.func62, Try.ntmps62
  go_wp2_with fail
  go_quiet ((first | (go_at_call 57; first | exact Calls.quiet_of_same (Hu.out _ rfl) | exact Calls.quiet_of_same (Hv.out _ rfl)) | (go_at_call 63; exact Calls.quiet_of_same (HC.out _))))
  go_wp2_with fail
  go_ret
  exact ⟨rfl, below_drewN (Below.refl _ _) _⟩
set_option maxRecDepth 100000 in
set_option maxHeartbeats 2000000 in
theorem cb2_any (L : List Lt) (b o B C x y n c : Nat) (hn : n = L.length) (hx : x < n) (hy : y < n) (hc : n ≤ c) (hm : c ≤ maxLen) (r : Int) (hR : r = cmpI (num L 2 (x : Int)) (num L 2 (y : Int))) (w : World) (hs : w.cell? ⟨B, 0, none⟩ = some (.slice (some ⟨b, o, none⟩) n c)) (hr : RL w b o L)
    (hC : w.cell? ⟨C, 0, none⟩ = some (.func (.func 58) #[] #[.pointer (some ⟨B, 0, none⟩)])) :
    Calls Try.prog 62 #[.int .i64 (x : Int), .int .i64 (y : Int), .pointer (some ⟨C, 0, none⟩)] w (IPost w r) := by
  obtain ⟨u, hu⟩ : ∃ u, u = num L 2 (x : Int) := ⟨_, rfl⟩
  obtain ⟨v, hv⟩ : ∃ v, v = num L 2 (y : Int) := ⟨_, rfl⟩
  rw [← hu, ← hv] at hR
  have Hu : Hid (∀ W, W.heap = w.heap → Calls Try.prog 58 #[.int .i64 (x : Int), .pointer (some ⟨B, 0, none⟩)] W fun e w' => e = .returned (.int .i64 u) ∧ w' = W) := Lib.hid fun W hW => lv2_any L b o B x n c hn hx hc hm u hu W (by unfold World.cell? at hs ⊢; rw [hW]; exact hs) (fun k hk j v hv => by have := hr k hk j v hv; unfold World.cell? at this ⊢; rw [hW]; exact this)
  have Hv : Hid (∀ W, W.heap = w.heap → Calls Try.prog 58 #[.int .i64 (y : Int), .pointer (some ⟨B, 0, none⟩)] W fun e w' => e = .returned (.int .i64 v) ∧ w' = W) := Lib.hid fun W hW => lv2_any L b o B y n c hn hy hc hm v hv W (by unfold World.cell? at hs ⊢; rw [hW]; exact hs) (fun k hk j v hv => by have := hr k hk j v hv; unfold World.cell? at this ⊢; rw [hW]; exact this)
  have HC : Hid (∀ W, Calls Try.prog 63 #[.int .i64 u, .int .i64 v] W fun e w' => e = .returned (.int .i64 r) ∧ w' = W) := Lib.hid fun W => cmpint_any u v r hR W
  clear hu hv hR hr hs
  go_enter Try.func62, Try.ntmps62
  go_wp2_with fail
  go_quiet ((first | (go_at_call 58; first | exact Calls.quiet_of_same (Hu.out _ rfl) | exact Calls.quiet_of_same (Hv.out _ rfl)) | (go_at_call 63; exact Calls.quiet_of_same (HC.out _))))
  go_wp2_with fail
  go_ret
  exact ⟨rfl, below_drewN (Below.refl _ _) _⟩
set_option maxRecDepth 100000 in
set_option maxHeartbeats 2000000 in
theorem cb3_any (L : List Lt) (b o B C x y n c : Nat) (hn : n = L.length) (hx : x < n) (hy : y < n) (hc : n ≤ c) (hm : c ≤ maxLen) (r : Int) (hR : r = cmpI (num L 3 (x : Int)) (num L 3 (y : Int))) (w : World) (hs : w.cell? ⟨B, 0, none⟩ = some (.slice (some ⟨b, o, none⟩) n c)) (hr : RL w b o L)
    (hC : w.cell? ⟨C, 0, none⟩ = some (.func (.func 59) #[] #[])) :
    Calls Try.prog 62 #[.int .i64 (x : Int), .int .i64 (y : Int), .pointer (some ⟨C, 0, none⟩)] w (IPost w r) := by
  obtain ⟨u, hu⟩ : ∃ u, u = num L 3 (x : Int) := ⟨_, rfl⟩
  obtain ⟨v, hv⟩ : ∃ v, v = num L 3 (y : Int) := ⟨_, rfl⟩
  rw [← hu, ← hv] at hR
  have Hu : Hid (∀ W, Calls Try.prog 59 #[.int .i64 (x : Int)] W fun e w' => e = .returned (.int .i64 u) ∧ w' = W) := Lib.hid fun W => by rw [hu]; exact lv3_any _ W
  have Hv : Hid (∀ W, Calls Try.prog 59 #[.int .i64 (y : Int)] W fun e w' => e = .returned (.int .i64 v) ∧ w' = W) := Lib.hid fun W => by rw [hv]; exact lv3_any _ W
  have HC : Hid (∀ W, Calls Try.prog 63 #[.int .i64 u, .int .i64 v] W fun e w' => e = .returned (.int .i64 r) ∧ w' = W) := Lib.hid fun W => cmpint_any u v r hR W
  clear hu hv hR hr hs
  go_enter Try.func62, Try.ntmps62
  go_wp2_with fail
  go_quiet ((first | (go_at_call 59; first | exact Calls.quiet_of_same (Hu.out _) | exact Calls.quiet_of_same (Hv.out _)) | (go_at_call 63; exact Calls.quiet_of_same (HC.out _))))
  go_wp2_with fail
  go_ret
  exact ⟨rfl, below_drewN (Below.refl _ _) _⟩
end Go.Proofs.Ytalladdmedmfeaa
