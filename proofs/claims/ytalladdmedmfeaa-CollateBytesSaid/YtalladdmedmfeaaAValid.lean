/-
  alphabet.validLetter, validNumbers, Valid.
-/
import Derived.Test.YtalladdmedmfeaaALet
namespace Go.Proofs.Ytalladdmedmfeaa
open Go.RowKit
open Alp
set_option linter.unusedVariables false
set_option linter.unusedSimpArgs false

def BoolB (w : World) (b : Bool) (e : Ending) (w' : World) : Prop := e = .returned (.bool b) ∧ Below w.heap.size w w'
theorem boolb_out {w w' : World} {b : Bool} {e : Ending} (h : BoolB w b e w') : e = .returned (.bool b) ∧ Below w.heap.size w w' := h
set_option maxRecDepth 100000 in
set_option maxHeartbeats 1000000 in
theorem vl_text (t : B) (bs mk cs wd : Int) (n c b o k : Nat) (hk : k < n) (hc : n ≤ c) (hm : c ≤ maxLen) (ht : t.length ≤ maxLen) (hp : plain t = false) (w : World) (hr : w.rangeAt b (o + k * 5) (lc ⟨t, bs, mk, cs, wd⟩)) :
    Calls Try.prog 66 #[.slice (some ⟨b, o, none⟩) n c, .int .i64 (k : Int)] w (BoolB w false) := by
  have hm' : c ≤ 9223372036854775807 := by unfold maxLen at hm; omega
  have HQ : Hid (∀ W, Calls Try.prog 72 #[.string (tb t)] W fun e w' => e = .returned (.bool false) ∧ w' = W) := Lib.hid fun W => (validText_any t ht W).mono fun e w' h => by rw [hp] at h; exact ⟨h.1, h.2.symm⟩
  have HX := Lib.hid hr
  clear hr hp
  go_enter Try.func66, Try.ntmps66
  go_wp2_with (refine wpList_load_lt rfl (.tmp 8) rfl b (o + k * 5) rfl ⟨t, bs, mk, cs, wd⟩ HX.out ?_)
  go_quiet ((go_at_call 72; exact Calls.quiet_of_same (HQ.out _)))
  go_wp2_with fail
  go_ret
  exact ⟨rfl, below_drewN (below_a1 _ _) _⟩
set_option maxRecDepth 100000 in
set_option maxHeartbeats 1000000 in
theorem vl_has (t : B) (bs mk cs wd : Int) (n c b o k : Nat) (hk : k < n) (hc : n ≤ c) (hm : c ≤ maxLen) (ht : t.length ≤ maxLen) (hp : plain t = true) (h0 : ¬ (0 ≤ bs ∧ bs < n)) (w : World) (hr : w.rangeAt b (o + k * 5) (lc ⟨t, bs, mk, cs, wd⟩)) :
    Calls Try.prog 66 #[.slice (some ⟨b, o, none⟩) n c, .int .i64 (k : Int)] w (BoolB w false) := by
  have hm' : c ≤ 9223372036854775807 := by unfold maxLen at hm; omega
  have HQ : Hid (∀ W, Calls Try.prog 72 #[.string (tb t)] W fun e w' => e = .returned (.bool true) ∧ w' = W) := Lib.hid fun W => (validText_any t ht W).mono fun e w' h => by rw [hp] at h; exact ⟨h.1, h.2.symm⟩
  have HH : Hid (∀ W, Calls Try.prog 53 #[.slice (some ⟨b, o, none⟩) n c, .int .i64 bs] W fun e w' => e = .returned (.bool false) ∧ w' = W) := Lib.hid fun W => (has_any _ n c _ W false (by rw [decide_eq_false h0])).mono fun e w' h => ⟨h.1, h.2.symm⟩
  have HX := Lib.hid hr
  clear hr hp h0
  go_enter Try.func66, Try.ntmps66
  go_wp2_with (refine wpList_load_lt rfl (.tmp 8) rfl b (o + k * 5) rfl ⟨t, bs, mk, cs, wd⟩ HX.out ?_)
  go_quiet ((first | (go_at_call 72; exact Calls.quiet_of_same (HQ.out _)) | (go_at_call 53; exact Calls.quiet_of_same (HH.out _))))
  go_wp2_with fail
  go_ret
  exact ⟨rfl, below_drewN (below_a1 _ _) _⟩
set_option maxRecDepth 100000 in
set_option maxHeartbeats 1000000 in
theorem vl_base (t : B) (q : Nat) (mk cs wd : Int) (n c b o k : Nat) (hk : k < n) (hc : n ≤ c) (hm : c ≤ maxLen) (ht : t.length ≤ maxLen) (hp : plain t = true) (hq : q < n) (x : Int) (hx : x ≠ q) (w : World) (hr : w.rangeAt b (o + k * 5) (lc ⟨t, (q : Int), mk, cs, wd⟩)) (hcx : w.cell? ⟨b, o + q * 5 + 1, none⟩ = some (.int .i64 x)) :
    Calls Try.prog 66 #[.slice (some ⟨b, o, none⟩) n c, .int .i64 (k : Int)] w (BoolB w false) := by
  have hm' : c ≤ 9223372036854775807 := by unfold maxLen at hm; omega
  have h0 : (0 : Int) ≤ q ∧ (q : Int) < n := by omega
  have HQ : Hid (∀ W, Calls Try.prog 72 #[.string (tb t)] W fun e w' => e = .returned (.bool true) ∧ w' = W) := Lib.hid fun W => (validText_any t ht W).mono fun e w' h => by rw [hp] at h; exact ⟨h.1, h.2.symm⟩
  have HH : Hid (∀ W, Calls Try.prog 53 #[.slice (some ⟨b, o, none⟩) n c, .int .i64 (q : Int)] W fun e w' => e = .returned (.bool true) ∧ w' = W) := Lib.hid fun W => (has_any _ n c _ W true (by rw [decide_eq_true h0])).mono fun e w' h => ⟨h.1, h.2.symm⟩
  have HX := Lib.hid hr
  have hne : (x != (q : Int)) = true := bne_iff_ne.2 hx
  have hbl := World.block_lt_of_cell? w _ hcx
  have hcy : (w.alloc (.cells #[.string (tb t), .int .i64 (q : Int), .int .i64 mk, .int .i64 cs, .int .i64 wd] 54)).cell? ⟨b, o + q * 5 + 1, none⟩ = some (.int .i64 x) := (World.cell?_alloc_lt w _ ⟨b, o + q * 5 + 1, none⟩ hbl).trans hcx
  clear hr hp h0 hx hcx hbl
  go_enter Try.func66, Try.ntmps66
  go_wp2_with (refine wpList_load_lt rfl (.tmp 8) rfl b (o + k * 5) rfl ⟨t, (q : Int), mk, cs, wd⟩ HX.out ?_)
  go_quiet ((first | (go_at_call 72; exact Calls.quiet_of_same (HQ.out _)) | (go_at_call 53; exact Calls.quiet_of_same (HH.out _))))
  go_wp2_with fail
  go_ret
  exact ⟨rfl, below_drewN (below_a1 _ _) _⟩
set_option maxRecDepth 100000 in
set_option maxHeartbeats 1000000 in
theorem vl_bad0 (t : B) (q : Nat) (mk cs wd : Int) (n c b o k : Nat) (hk : k < n) (hc : n ≤ c) (hm : c ≤ maxLen) (ht : t.length ≤ maxLen) (hp : plain t = true) (hq : q < n) (g0 : mk < 0) (w : World) (hr : w.rangeAt b (o + k * 5) (lc ⟨t, (q : Int), mk, cs, wd⟩)) (hcx : w.cell? ⟨b, o + q * 5 + 1, none⟩ = some (.int .i64 (q : Int))) :
    Calls Try.prog 66 #[.slice (some ⟨b, o, none⟩) n c, .int .i64 (k : Int)] w (BoolB w false) := by
  have hm' : c ≤ 9223372036854775807 := by unfold maxLen at hm; omega
  have h0 : (0 : Int) ≤ q ∧ (q : Int) < n := by omega
  have HQ : Hid (∀ W, Calls Try.prog 72 #[.string (tb t)] W fun e w' => e = .returned (.bool true) ∧ w' = W) := Lib.hid fun W => (validText_any t ht W).mono fun e w' h => by rw [hp] at h; exact ⟨h.1, h.2.symm⟩
  have HH : Hid (∀ W, Calls Try.prog 53 #[.slice (some ⟨b, o, none⟩) n c, .int .i64 (q : Int)] W fun e w' => e = .returned (.bool true) ∧ w' = W) := Lib.hid fun W => (has_any _ n c _ W true (by rw [decide_eq_true h0])).mono fun e w' h => ⟨h.1, h.2.symm⟩
  have HX := Lib.hid hr
  have hne : ((q : Int) != (q : Int)) = false := by simp
  have hbl := World.block_lt_of_cell? w _ hcx
  have hcy : (w.alloc (.cells #[.string (tb t), .int .i64 (q : Int), .int .i64 mk, .int .i64 cs, .int .i64 wd] 54)).cell? ⟨b, o + q * 5 + 1, none⟩ = some (.int .i64 (q : Int)) := (World.cell?_alloc_lt w _ ⟨b, o + q * 5 + 1, none⟩ hbl).trans hcx
  clear hr hp h0 hcx hbl
  have d0 : decide (mk < 0) = true := decide_eq_true (by omega)
  go_enter Try.func66, Try.ntmps66
  go_wp2_with (refine wpList_load_lt rfl (.tmp 8) rfl b (o + k * 5) rfl ⟨t, (q : Int), mk, cs, wd⟩ HX.out ?_)
  go_quiet ((first | (go_at_call 72; exact Calls.quiet_of_same (HQ.out _)) | (go_at_call 53; exact Calls.quiet_of_same (HH.out _))))
  go_wp2_with fail
  go_ret
  exact ⟨rfl, below_drewN (below_a1 _ _) _⟩
set_option maxRecDepth 100000 in
set_option maxHeartbeats 1000000 in
theorem vl_bad1 (t : B) (q : Nat) (mk cs wd : Int) (n c b o k : Nat) (hk : k < n) (hc : n ≤ c) (hm : c ≤ maxLen) (ht : t.length ≤ maxLen) (hp : plain t = true) (hq : q < n) (g0 : 0 ≤ mk) (g1 : 15 < mk) (w : World) (hr : w.rangeAt b (o + k * 5) (lc ⟨t, (q : Int), mk, cs, wd⟩)) (hcx : w.cell? ⟨b, o + q * 5 + 1, none⟩ = some (.int .i64 (q : Int))) :
    Calls Try.prog 66 #[.slice (some ⟨b, o, none⟩) n c, .int .i64 (k : Int)] w (BoolB w false) := by
  have hm' : c ≤ 9223372036854775807 := by unfold maxLen at hm; omega
  have h0 : (0 : Int) ≤ q ∧ (q : Int) < n := by omega
  have HQ : Hid (∀ W, Calls Try.prog 72 #[.string (tb t)] W fun e w' => e = .returned (.bool true) ∧ w' = W) := Lib.hid fun W => (validText_any t ht W).mono fun e w' h => by rw [hp] at h; exact ⟨h.1, h.2.symm⟩
  have HH : Hid (∀ W, Calls Try.prog 53 #[.slice (some ⟨b, o, none⟩) n c, .int .i64 (q : Int)] W fun e w' => e = .returned (.bool true) ∧ w' = W) := Lib.hid fun W => (has_any _ n c _ W true (by rw [decide_eq_true h0])).mono fun e w' h => ⟨h.1, h.2.symm⟩
  have HX := Lib.hid hr
  have hne : ((q : Int) != (q : Int)) = false := by simp
  have hbl := World.block_lt_of_cell? w _ hcx
  have hcy : (w.alloc (.cells #[.string (tb t), .int .i64 (q : Int), .int .i64 mk, .int .i64 cs, .int .i64 wd] 54)).cell? ⟨b, o + q * 5 + 1, none⟩ = some (.int .i64 (q : Int)) := (World.cell?_alloc_lt w _ ⟨b, o + q * 5 + 1, none⟩ hbl).trans hcx
  clear hr hp h0 hcx hbl
  have d0 : decide (mk < 0) = false := decide_eq_false (by omega)
  have d1 : decide (15 < mk) = true := decide_eq_true (by omega)
  go_enter Try.func66, Try.ntmps66
  go_wp2_with (refine wpList_load_lt rfl (.tmp 8) rfl b (o + k * 5) rfl ⟨t, (q : Int), mk, cs, wd⟩ HX.out ?_)
  go_quiet ((first | (go_at_call 72; exact Calls.quiet_of_same (HQ.out _)) | (go_at_call 53; exact Calls.quiet_of_same (HH.out _))))
  go_wp2_with fail
  go_ret
  exact ⟨rfl, below_drewN (below_a1 _ _) _⟩
set_option maxRecDepth 100000 in
set_option maxHeartbeats 1000000 in
theorem vl_bad2 (t : B) (q : Nat) (mk cs wd : Int) (n c b o k : Nat) (hk : k < n) (hc : n ≤ c) (hm : c ≤ maxLen) (ht : t.length ≤ maxLen) (hp : plain t = true) (hq : q < n) (g0 : 0 ≤ mk) (g1 : mk ≤ 15) (g2 : cs < 0) (w : World) (hr : w.rangeAt b (o + k * 5) (lc ⟨t, (q : Int), mk, cs, wd⟩)) (hcx : w.cell? ⟨b, o + q * 5 + 1, none⟩ = some (.int .i64 (q : Int))) :
    Calls Try.prog 66 #[.slice (some ⟨b, o, none⟩) n c, .int .i64 (k : Int)] w (BoolB w false) := by
  have hm' : c ≤ 9223372036854775807 := by unfold maxLen at hm; omega
  have h0 : (0 : Int) ≤ q ∧ (q : Int) < n := by omega
  have HQ : Hid (∀ W, Calls Try.prog 72 #[.string (tb t)] W fun e w' => e = .returned (.bool true) ∧ w' = W) := Lib.hid fun W => (validText_any t ht W).mono fun e w' h => by rw [hp] at h; exact ⟨h.1, h.2.symm⟩
  have HH : Hid (∀ W, Calls Try.prog 53 #[.slice (some ⟨b, o, none⟩) n c, .int .i64 (q : Int)] W fun e w' => e = .returned (.bool true) ∧ w' = W) := Lib.hid fun W => (has_any _ n c _ W true (by rw [decide_eq_true h0])).mono fun e w' h => ⟨h.1, h.2.symm⟩
  have HX := Lib.hid hr
  have hne : ((q : Int) != (q : Int)) = false := by simp
  have hbl := World.block_lt_of_cell? w _ hcx
  have hcy : (w.alloc (.cells #[.string (tb t), .int .i64 (q : Int), .int .i64 mk, .int .i64 cs, .int .i64 wd] 54)).cell? ⟨b, o + q * 5 + 1, none⟩ = some (.int .i64 (q : Int)) := (World.cell?_alloc_lt w _ ⟨b, o + q * 5 + 1, none⟩ hbl).trans hcx
  clear hr hp h0 hcx hbl
  have d0 : decide (mk < 0) = false := decide_eq_false (by omega)
  have d1 : decide (15 < mk) = false := decide_eq_false (by omega)
  have d2 : decide (cs < 0) = true := decide_eq_true (by omega)
  go_enter Try.func66, Try.ntmps66
  go_wp2_with (refine wpList_load_lt rfl (.tmp 8) rfl b (o + k * 5) rfl ⟨t, (q : Int), mk, cs, wd⟩ HX.out ?_)
  go_quiet ((first | (go_at_call 72; exact Calls.quiet_of_same (HQ.out _)) | (go_at_call 53; exact Calls.quiet_of_same (HH.out _))))
  go_wp2_with fail
  go_ret
  exact ⟨rfl, below_drewN (below_a1 _ _) _⟩
set_option maxRecDepth 100000 in
set_option maxHeartbeats 1000000 in
theorem vl_bad3 (t : B) (q : Nat) (mk cs wd : Int) (n c b o k : Nat) (hk : k < n) (hc : n ≤ c) (hm : c ≤ maxLen) (ht : t.length ≤ maxLen) (hp : plain t = true) (hq : q < n) (g0 : 0 ≤ mk) (g1 : mk ≤ 15) (g2 : 0 ≤ cs) (g3 : 1 < cs) (w : World) (hr : w.rangeAt b (o + k * 5) (lc ⟨t, (q : Int), mk, cs, wd⟩)) (hcx : w.cell? ⟨b, o + q * 5 + 1, none⟩ = some (.int .i64 (q : Int))) :
    Calls Try.prog 66 #[.slice (some ⟨b, o, none⟩) n c, .int .i64 (k : Int)] w (BoolB w false) := by
  have hm' : c ≤ 9223372036854775807 := by unfold maxLen at hm; omega
  have h0 : (0 : Int) ≤ q ∧ (q : Int) < n := by omega
  have HQ : Hid (∀ W, Calls Try.prog 72 #[.string (tb t)] W fun e w' => e = .returned (.bool true) ∧ w' = W) := Lib.hid fun W => (validText_any t ht W).mono fun e w' h => by rw [hp] at h; exact ⟨h.1, h.2.symm⟩
  have HH : Hid (∀ W, Calls Try.prog 53 #[.slice (some ⟨b, o, none⟩) n c, .int .i64 (q : Int)] W fun e w' => e = .returned (.bool true) ∧ w' = W) := Lib.hid fun W => (has_any _ n c _ W true (by rw [decide_eq_true h0])).mono fun e w' h => ⟨h.1, h.2.symm⟩
  have HX := Lib.hid hr
  have hne : ((q : Int) != (q : Int)) = false := by simp
  have hbl := World.block_lt_of_cell? w _ hcx
  have hcy : (w.alloc (.cells #[.string (tb t), .int .i64 (q : Int), .int .i64 mk, .int .i64 cs, .int .i64 wd] 54)).cell? ⟨b, o + q * 5 + 1, none⟩ = some (.int .i64 (q : Int)) := (World.cell?_alloc_lt w _ ⟨b, o + q * 5 + 1, none⟩ hbl).trans hcx
  clear hr hp h0 hcx hbl
  have d0 : decide (mk < 0) = false := decide_eq_false (by omega)
  have d1 : decide (15 < mk) = false := decide_eq_false (by omega)
  have d2 : decide (cs < 0) = false := decide_eq_false (by omega)
  have d3 : decide (1 < cs) = true := decide_eq_true (by omega)
  go_enter Try.func66, Try.ntmps66
  go_wp2_with (refine wpList_load_lt rfl (.tmp 8) rfl b (o + k * 5) rfl ⟨t, (q : Int), mk, cs, wd⟩ HX.out ?_)
  go_quiet ((first | (go_at_call 72; exact Calls.quiet_of_same (HQ.out _)) | (go_at_call 53; exact Calls.quiet_of_same (HH.out _))))
  go_wp2_with fail
  go_ret
  exact ⟨rfl, below_drewN (below_a1 _ _) _⟩
set_option maxRecDepth 100000 in
set_option maxHeartbeats 1000000 in
theorem vl_bad4 (t : B) (q : Nat) (mk cs wd : Int) (n c b o k : Nat) (hk : k < n) (hc : n ≤ c) (hm : c ≤ maxLen) (ht : t.length ≤ maxLen) (hp : plain t = true) (hq : q < n) (g0 : 0 ≤ mk) (g1 : mk ≤ 15) (g2 : 0 ≤ cs) (g3 : cs ≤ 1) (g4 : wd < 1) (w : World) (hr : w.rangeAt b (o + k * 5) (lc ⟨t, (q : Int), mk, cs, wd⟩)) (hcx : w.cell? ⟨b, o + q * 5 + 1, none⟩ = some (.int .i64 (q : Int))) :
    Calls Try.prog 66 #[.slice (some ⟨b, o, none⟩) n c, .int .i64 (k : Int)] w (BoolB w false) := by
  have hm' : c ≤ 9223372036854775807 := by unfold maxLen at hm; omega
  have h0 : (0 : Int) ≤ q ∧ (q : Int) < n := by omega
  have HQ : Hid (∀ W, Calls Try.prog 72 #[.string (tb t)] W fun e w' => e = .returned (.bool true) ∧ w' = W) := Lib.hid fun W => (validText_any t ht W).mono fun e w' h => by rw [hp] at h; exact ⟨h.1, h.2.symm⟩
  have HH : Hid (∀ W, Calls Try.prog 53 #[.slice (some ⟨b, o, none⟩) n c, .int .i64 (q : Int)] W fun e w' => e = .returned (.bool true) ∧ w' = W) := Lib.hid fun W => (has_any _ n c _ W true (by rw [decide_eq_true h0])).mono fun e w' h => ⟨h.1, h.2.symm⟩
  have HX := Lib.hid hr
  have hne : ((q : Int) != (q : Int)) = false := by simp
  have hbl := World.block_lt_of_cell? w _ hcx
  have hcy : (w.alloc (.cells #[.string (tb t), .int .i64 (q : Int), .int .i64 mk, .int .i64 cs, .int .i64 wd] 54)).cell? ⟨b, o + q * 5 + 1, none⟩ = some (.int .i64 (q : Int)) := (World.cell?_alloc_lt w _ ⟨b, o + q * 5 + 1, none⟩ hbl).trans hcx
  clear hr hp h0 hcx hbl
  have d0 : decide (mk < 0) = false := decide_eq_false (by omega)
  have d1 : decide (15 < mk) = false := decide_eq_false (by omega)
  have d2 : decide (cs < 0) = false := decide_eq_false (by omega)
  have d3 : decide (1 < cs) = false := decide_eq_false (by omega)
  have d4 : decide (wd < 1) = true := decide_eq_true (by omega)
  go_enter Try.func66, Try.ntmps66
  go_wp2_with (refine wpList_load_lt rfl (.tmp 8) rfl b (o + k * 5) rfl ⟨t, (q : Int), mk, cs, wd⟩ HX.out ?_)
  go_quiet ((first | (go_at_call 72; exact Calls.quiet_of_same (HQ.out _)) | (go_at_call 53; exact Calls.quiet_of_same (HH.out _))))
  go_wp2_with fail
  go_ret
  exact ⟨rfl, below_drewN (below_a1 _ _) _⟩
set_option maxRecDepth 100000 in
set_option maxHeartbeats 1000000 in
theorem vl_bad5 (t : B) (q : Nat) (mk cs wd : Int) (n c b o k : Nat) (hk : k < n) (hc : n ≤ c) (hm : c ≤ maxLen) (ht : t.length ≤ maxLen) (hp : plain t = true) (hq : q < n) (g0 : 0 ≤ mk) (g1 : mk ≤ 15) (g2 : 0 ≤ cs) (g3 : cs ≤ 1) (g4 : 1 ≤ wd) (g5 : 1000 < wd) (w : World) (hr : w.rangeAt b (o + k * 5) (lc ⟨t, (q : Int), mk, cs, wd⟩)) (hcx : w.cell? ⟨b, o + q * 5 + 1, none⟩ = some (.int .i64 (q : Int))) :
    Calls Try.prog 66 #[.slice (some ⟨b, o, none⟩) n c, .int .i64 (k : Int)] w (BoolB w false) := by
  have hm' : c ≤ 9223372036854775807 := by unfold maxLen at hm; omega
  have h0 : (0 : Int) ≤ q ∧ (q : Int) < n := by omega
  have HQ : Hid (∀ W, Calls Try.prog 72 #[.string (tb t)] W fun e w' => e = .returned (.bool true) ∧ w' = W) := Lib.hid fun W => (validText_any t ht W).mono fun e w' h => by rw [hp] at h; exact ⟨h.1, h.2.symm⟩
  have HH : Hid (∀ W, Calls Try.prog 53 #[.slice (some ⟨b, o, none⟩) n c, .int .i64 (q : Int)] W fun e w' => e = .returned (.bool true) ∧ w' = W) := Lib.hid fun W => (has_any _ n c _ W true (by rw [decide_eq_true h0])).mono fun e w' h => ⟨h.1, h.2.symm⟩
  have HX := Lib.hid hr
  have hne : ((q : Int) != (q : Int)) = false := by simp
  have hbl := World.block_lt_of_cell? w _ hcx
  have hcy : (w.alloc (.cells #[.string (tb t), .int .i64 (q : Int), .int .i64 mk, .int .i64 cs, .int .i64 wd] 54)).cell? ⟨b, o + q * 5 + 1, none⟩ = some (.int .i64 (q : Int)) := (World.cell?_alloc_lt w _ ⟨b, o + q * 5 + 1, none⟩ hbl).trans hcx
  clear hr hp h0 hcx hbl
  have d0 : decide (mk < 0) = false := decide_eq_false (by omega)
  have d1 : decide (15 < mk) = false := decide_eq_false (by omega)
  have d2 : decide (cs < 0) = false := decide_eq_false (by omega)
  have d3 : decide (1 < cs) = false := decide_eq_false (by omega)
  have d4 : decide (wd < 1) = false := decide_eq_false (by omega)
  have d5 : decide (1000 < wd) = true := decide_eq_true (by omega)
  go_enter Try.func66, Try.ntmps66
  go_wp2_with (refine wpList_load_lt rfl (.tmp 8) rfl b (o + k * 5) rfl ⟨t, (q : Int), mk, cs, wd⟩ HX.out ?_)
  go_quiet ((first | (go_at_call 72; exact Calls.quiet_of_same (HQ.out _)) | (go_at_call 53; exact Calls.quiet_of_same (HH.out _))))
  go_wp2_with fail
  go_ret
  exact ⟨rfl, below_drewN (below_a1 _ _) _⟩
set_option maxRecDepth 100000 in
set_option maxHeartbeats 1000000 in
theorem vl_far (t : B) (q : Nat) (mk cs wd : Int) (n c b o k : Nat) (hk : k < n) (hc : n ≤ c) (hm : c ≤ maxLen) (ht : t.length ≤ maxLen) (hp : plain t = true) (hq : q < n) (g0 : 0 ≤ mk) (g1 : mk ≤ 15) (g2 : 0 ≤ cs) (g3 : cs ≤ 1) (g4 : 1 ≤ wd) (g5 : wd ≤ 1000) (hqk : q ≠ k) (w : World) (hr : w.rangeAt b (o + k * 5) (lc ⟨t, (q : Int), mk, cs, wd⟩)) (hcx : w.cell? ⟨b, o + q * 5 + 1, none⟩ = some (.int .i64 (q : Int))) :
    Calls Try.prog 66 #[.slice (some ⟨b, o, none⟩) n c, .int .i64 (k : Int)] w (BoolB w true) := by
  have hm' : c ≤ 9223372036854775807 := by unfold maxLen at hm; omega
  have h0 : (0 : Int) ≤ q ∧ (q : Int) < n := by omega
  have HQ : Hid (∀ W, Calls Try.prog 72 #[.string (tb t)] W fun e w' => e = .returned (.bool true) ∧ w' = W) := Lib.hid fun W => (validText_any t ht W).mono fun e w' h => by rw [hp] at h; exact ⟨h.1, h.2.symm⟩
  have HH : Hid (∀ W, Calls Try.prog 53 #[.slice (some ⟨b, o, none⟩) n c, .int .i64 (q : Int)] W fun e w' => e = .returned (.bool true) ∧ w' = W) := Lib.hid fun W => (has_any _ n c _ W true (by rw [decide_eq_true h0])).mono fun e w' h => ⟨h.1, h.2.symm⟩
  have HX := Lib.hid hr
  have hne : ((q : Int) != (q : Int)) = false := by simp
  have hbl := World.block_lt_of_cell? w _ hcx
  have hcy : (w.alloc (.cells #[.string (tb t), .int .i64 (q : Int), .int .i64 mk, .int .i64 cs, .int .i64 wd] 54)).cell? ⟨b, o + q * 5 + 1, none⟩ = some (.int .i64 (q : Int)) := (World.cell?_alloc_lt w _ ⟨b, o + q * 5 + 1, none⟩ hbl).trans hcx
  clear hr hp h0 hcx hbl
  have d0 : decide (mk < 0) = false := decide_eq_false (by omega)
  have d1 : decide (15 < mk) = false := decide_eq_false (by omega)
  have d2 : decide (cs < 0) = false := decide_eq_false (by omega)
  have d3 : decide (1 < cs) = false := decide_eq_false (by omega)
  have d4 : decide (wd < 1) = false := decide_eq_false (by omega)
  have d5 : decide (1000 < wd) = false := decide_eq_false (by omega)
  have e1 : ((q : Int) != (k : Int)) = true := bne_iff_ne.2 (by omega)
  go_enter Try.func66, Try.ntmps66
  go_wp2_with (refine wpList_load_lt rfl (.tmp 8) rfl b (o + k * 5) rfl ⟨t, (q : Int), mk, cs, wd⟩ HX.out ?_)
  go_quiet ((first | (go_at_call 72; exact Calls.quiet_of_same (HQ.out _)) | (go_at_call 53; exact Calls.quiet_of_same (HH.out _))))
  go_wp2_with fail
  go_ret
  exact ⟨rfl, below_drewN (below_a1 _ _) _⟩
set_option maxRecDepth 100000 in
set_option maxHeartbeats 1000000 in
theorem vl_own (t : B) (q : Nat) (mk cs wd : Int) (n c b o k : Nat) (hk : k < n) (hc : n ≤ c) (hm : c ≤ maxLen) (ht : t.length ≤ maxLen) (hp : plain t = true) (hq : q < n) (g0 : 0 ≤ mk) (g1 : mk ≤ 15) (g2 : 0 ≤ cs) (g3 : cs ≤ 1) (g4 : 1 ≤ wd) (g5 : wd ≤ 1000) (hqk : q = k) (hm0 : mk = 0) (hc0 : cs = 0) (w : World) (hr : w.rangeAt b (o + k * 5) (lc ⟨t, (q : Int), mk, cs, wd⟩)) (hcx : w.cell? ⟨b, o + q * 5 + 1, none⟩ = some (.int .i64 (q : Int))) :
    Calls Try.prog 66 #[.slice (some ⟨b, o, none⟩) n c, .int .i64 (k : Int)] w (BoolB w true) := by
  have hm' : c ≤ 9223372036854775807 := by unfold maxLen at hm; omega
  have h0 : (0 : Int) ≤ q ∧ (q : Int) < n := by omega
  have HQ : Hid (∀ W, Calls Try.prog 72 #[.string (tb t)] W fun e w' => e = .returned (.bool true) ∧ w' = W) := Lib.hid fun W => (validText_any t ht W).mono fun e w' h => by rw [hp] at h; exact ⟨h.1, h.2.symm⟩
  have HH : Hid (∀ W, Calls Try.prog 53 #[.slice (some ⟨b, o, none⟩) n c, .int .i64 (q : Int)] W fun e w' => e = .returned (.bool true) ∧ w' = W) := Lib.hid fun W => (has_any _ n c _ W true (by rw [decide_eq_true h0])).mono fun e w' h => ⟨h.1, h.2.symm⟩
  have HX := Lib.hid hr
  have hne : ((q : Int) != (q : Int)) = false := by simp
  have hbl := World.block_lt_of_cell? w _ hcx
  have hcy : (w.alloc (.cells #[.string (tb t), .int .i64 (q : Int), .int .i64 mk, .int .i64 cs, .int .i64 wd] 54)).cell? ⟨b, o + q * 5 + 1, none⟩ = some (.int .i64 (q : Int)) := (World.cell?_alloc_lt w _ ⟨b, o + q * 5 + 1, none⟩ hbl).trans hcx
  clear hr hp h0 hcx hbl
  subst hqk hm0 hc0
  have d0 : decide ((0 : Int) < 0) = false := decide_eq_false (by omega)
  have d1 : decide (15 < (0 : Int)) = false := decide_eq_false (by omega)
  have d2 : decide ((0 : Int) < 0) = false := decide_eq_false (by omega)
  have d3 : decide (1 < (0 : Int)) = false := decide_eq_false (by omega)
  have d4 : decide (wd < 1) = false := decide_eq_false (by omega)
  have d5 : decide (1000 < wd) = false := decide_eq_false (by omega)
  have e1 : ((q : Int) != (q : Int)) = false := by simp
  go_enter Try.func66, Try.ntmps66
  go_wp2_with (refine wpList_load_lt rfl (.tmp 8) rfl b (o + q * 5) rfl ⟨t, (q : Int), 0, 0, wd⟩ HX.out ?_)
  go_quiet ((first | (go_at_call 72; exact Calls.quiet_of_same (HQ.out _)) | (go_at_call 53; exact Calls.quiet_of_same (HH.out _))))
  go_wp2_with fail
  go_ret
  exact ⟨rfl, below_drewN (below_a1 _ _) _⟩
set_option maxRecDepth 100000 in
set_option maxHeartbeats 1000000 in
theorem vl_own1 (t : B) (q : Nat) (mk cs wd : Int) (n c b o k : Nat) (hk : k < n) (hc : n ≤ c) (hm : c ≤ maxLen) (ht : t.length ≤ maxLen) (hp : plain t = true) (hq : q < n) (g0 : 0 ≤ mk) (g1 : mk ≤ 15) (g2 : 0 ≤ cs) (g3 : cs ≤ 1) (g4 : 1 ≤ wd) (g5 : wd ≤ 1000) (hqk : q = k) (hm0 : mk ≠ 0) (w : World) (hr : w.rangeAt b (o + k * 5) (lc ⟨t, (q : Int), mk, cs, wd⟩)) (hcx : w.cell? ⟨b, o + q * 5 + 1, none⟩ = some (.int .i64 (q : Int))) :
    Calls Try.prog 66 #[.slice (some ⟨b, o, none⟩) n c, .int .i64 (k : Int)] w (BoolB w false) := by
  have hm' : c ≤ 9223372036854775807 := by unfold maxLen at hm; omega
  have h0 : (0 : Int) ≤ q ∧ (q : Int) < n := by omega
  have HQ : Hid (∀ W, Calls Try.prog 72 #[.string (tb t)] W fun e w' => e = .returned (.bool true) ∧ w' = W) := Lib.hid fun W => (validText_any t ht W).mono fun e w' h => by rw [hp] at h; exact ⟨h.1, h.2.symm⟩
  have HH : Hid (∀ W, Calls Try.prog 53 #[.slice (some ⟨b, o, none⟩) n c, .int .i64 (q : Int)] W fun e w' => e = .returned (.bool true) ∧ w' = W) := Lib.hid fun W => (has_any _ n c _ W true (by rw [decide_eq_true h0])).mono fun e w' h => ⟨h.1, h.2.symm⟩
  have HX := Lib.hid hr
  have hne : ((q : Int) != (q : Int)) = false := by simp
  have hbl := World.block_lt_of_cell? w _ hcx
  have hcy : (w.alloc (.cells #[.string (tb t), .int .i64 (q : Int), .int .i64 mk, .int .i64 cs, .int .i64 wd] 54)).cell? ⟨b, o + q * 5 + 1, none⟩ = some (.int .i64 (q : Int)) := (World.cell?_alloc_lt w _ ⟨b, o + q * 5 + 1, none⟩ hbl).trans hcx
  clear hr hp h0 hcx hbl
  subst hqk
  have d0 : decide (mk < 0) = false := decide_eq_false (by omega)
  have d1 : decide (15 < mk) = false := decide_eq_false (by omega)
  have d2 : decide (cs < 0) = false := decide_eq_false (by omega)
  have d3 : decide (1 < cs) = false := decide_eq_false (by omega)
  have d4 : decide (wd < 1) = false := decide_eq_false (by omega)
  have d5 : decide (1000 < wd) = false := decide_eq_false (by omega)
  have e1 : ((q : Int) != (q : Int)) = false := by simp
  have e2 : (mk == 0) = false := beq_eq_false_iff_ne.2 hm0
  clear hm0
  go_enter Try.func66, Try.ntmps66
  go_wp2_with (refine wpList_load_lt rfl (.tmp 8) rfl b (o + q * 5) rfl ⟨t, (q : Int), mk, cs, wd⟩ HX.out ?_)
  go_quiet ((first | (go_at_call 72; exact Calls.quiet_of_same (HQ.out _)) | (go_at_call 53; exact Calls.quiet_of_same (HH.out _))))
  go_wp2_with fail
  go_ret
  exact ⟨rfl, below_drewN (below_a1 _ _) _⟩
set_option maxRecDepth 100000 in
set_option maxHeartbeats 1000000 in
theorem vl_own2 (t : B) (q : Nat) (mk cs wd : Int) (n c b o k : Nat) (hk : k < n) (hc : n ≤ c) (hm : c ≤ maxLen) (ht : t.length ≤ maxLen) (hp : plain t = true) (hq : q < n) (g0 : 0 ≤ mk) (g1 : mk ≤ 15) (g2 : 0 ≤ cs) (g3 : cs ≤ 1) (g4 : 1 ≤ wd) (g5 : wd ≤ 1000) (hqk : q = k) (hm0 : mk = 0) (hc0 : cs ≠ 0) (w : World) (hr : w.rangeAt b (o + k * 5) (lc ⟨t, (q : Int), mk, cs, wd⟩)) (hcx : w.cell? ⟨b, o + q * 5 + 1, none⟩ = some (.int .i64 (q : Int))) :
    Calls Try.prog 66 #[.slice (some ⟨b, o, none⟩) n c, .int .i64 (k : Int)] w (BoolB w false) := by
  have hm' : c ≤ 9223372036854775807 := by unfold maxLen at hm; omega
  have h0 : (0 : Int) ≤ q ∧ (q : Int) < n := by omega
  have HQ : Hid (∀ W, Calls Try.prog 72 #[.string (tb t)] W fun e w' => e = .returned (.bool true) ∧ w' = W) := Lib.hid fun W => (validText_any t ht W).mono fun e w' h => by rw [hp] at h; exact ⟨h.1, h.2.symm⟩
  have HH : Hid (∀ W, Calls Try.prog 53 #[.slice (some ⟨b, o, none⟩) n c, .int .i64 (q : Int)] W fun e w' => e = .returned (.bool true) ∧ w' = W) := Lib.hid fun W => (has_any _ n c _ W true (by rw [decide_eq_true h0])).mono fun e w' h => ⟨h.1, h.2.symm⟩
  have HX := Lib.hid hr
  have hne : ((q : Int) != (q : Int)) = false := by simp
  have hbl := World.block_lt_of_cell? w _ hcx
  have hcy : (w.alloc (.cells #[.string (tb t), .int .i64 (q : Int), .int .i64 mk, .int .i64 cs, .int .i64 wd] 54)).cell? ⟨b, o + q * 5 + 1, none⟩ = some (.int .i64 (q : Int)) := (World.cell?_alloc_lt w _ ⟨b, o + q * 5 + 1, none⟩ hbl).trans hcx
  clear hr hp h0 hcx hbl
  subst hqk hm0
  have d0 : decide ((0 : Int) < 0) = false := decide_eq_false (by omega)
  have d1 : decide (15 < (0 : Int)) = false := decide_eq_false (by omega)
  have d2 : decide (cs < 0) = false := decide_eq_false (by omega)
  have d3 : decide (1 < cs) = false := decide_eq_false (by omega)
  have d4 : decide (wd < 1) = false := decide_eq_false (by omega)
  have d5 : decide (1000 < wd) = false := decide_eq_false (by omega)
  have e1 : ((q : Int) != (q : Int)) = false := by simp
  have e2 : (cs == 0) = false := beq_eq_false_iff_ne.2 hc0
  clear hc0
  go_enter Try.func66, Try.ntmps66
  go_wp2_with (refine wpList_load_lt rfl (.tmp 8) rfl b (o + q * 5) rfl ⟨t, (q : Int), 0, cs, wd⟩ HX.out ?_)
  go_quiet ((first | (go_at_call 72; exact Calls.quiet_of_same (HQ.out _)) | (go_at_call 53; exact Calls.quiet_of_same (HH.out _))))
  go_wp2_with fail
  go_ret
  exact ⟨rfl, below_drewN (below_a1 _ _) _⟩
theorem lok_no {L : List Lt} {n : Nat} {l : Lt} (h : ¬ (plain l.text = true ∧ (0 ≤ l.base ∧ l.base < L.length) ∧ (L.getD l.base.toNat z).base = l.base ∧ (0 ≤ l.mark ∧ l.mark ≤ 15) ∧ (0 ≤ l.cas ∧ l.cas ≤ 1) ∧ (1 ≤ l.width ∧ l.width ≤ 1000) ∧ (l.base ≠ n ∨ (l.mark = 0 ∧ l.cas = 0)))) : lok L n l = false := by
  rw [Bool.eq_false_iff]
  exact fun e => h ((lok_iff _ _ _).1 e)
theorem validLetter_any (L : List Lt) (n c b o k : Nat) (hn : n = L.length) (hk : k < n) (hc : n ≤ c) (hm : c ≤ maxLen) (hs : ∀ l ∈ L, l.text.length ≤ maxLen) (w : World) (hr : RL w b o L) :
    Calls Try.prog 66 #[.slice (some ⟨b, o, none⟩) n c, .int .i64 (k : Int)] w (BoolB w (lOK L k)) := by
  obtain ⟨l, hl⟩ : ∃ l, l = L.getD k z := ⟨_, rfl⟩
  have hX := hr.range (by omega) hl
  have hT : l.text.length ≤ maxLen := by rw [hl]; exact hs _ (getD_mem (by omega))
  unfold lOK
  rw [← hl]
  obtain ⟨t, bs, mk, cs, wd⟩ := l
  by_cases hp : plain t = true
  · by_cases h0 : 0 ≤ bs ∧ bs < n
    · obtain ⟨q, rfl⟩ : ∃ q : Nat, bs = q := ⟨bs.toNat, by omega⟩
      have hq : q < n := by omega
      have hcx := hr.c1 (k := q) (by omega) rfl
      by_cases hx : (L.getD q z).base = q
      · rw [hx] at hcx
        by_cases g0 : 0 ≤ mk
        rotate_left
        · rw [lok_no (fun h => by obtain ⟨_, _, _, h4, h5, h6, h7⟩ := h; simp only at h4 h5 h6 h7; omega)]
          exact vl_bad0 t q mk cs wd n c b o k hk hc hm hT hp hq (by omega) w hX hcx
        by_cases g1 : mk ≤ 15
        rotate_left
        · rw [lok_no (fun h => by obtain ⟨_, _, _, h4, h5, h6, h7⟩ := h; simp only at h4 h5 h6 h7; omega)]
          exact vl_bad1 t q mk cs wd n c b o k hk hc hm hT hp hq g0 (by omega) w hX hcx
        by_cases g2 : 0 ≤ cs
        rotate_left
        · rw [lok_no (fun h => by obtain ⟨_, _, _, h4, h5, h6, h7⟩ := h; simp only at h4 h5 h6 h7; omega)]
          exact vl_bad2 t q mk cs wd n c b o k hk hc hm hT hp hq g0 g1 (by omega) w hX hcx
        by_cases g3 : cs ≤ 1
        rotate_left
        · rw [lok_no (fun h => by obtain ⟨_, _, _, h4, h5, h6, h7⟩ := h; simp only at h4 h5 h6 h7; omega)]
          exact vl_bad3 t q mk cs wd n c b o k hk hc hm hT hp hq g0 g1 g2 (by omega) w hX hcx
        by_cases g4 : 1 ≤ wd
        rotate_left
        · rw [lok_no (fun h => by obtain ⟨_, _, _, h4, h5, h6, h7⟩ := h; simp only at h4 h5 h6 h7; omega)]
          exact vl_bad4 t q mk cs wd n c b o k hk hc hm hT hp hq g0 g1 g2 g3 (by omega) w hX hcx
        by_cases g5 : wd ≤ 1000
        rotate_left
        · rw [lok_no (fun h => by obtain ⟨_, _, _, h4, h5, h6, h7⟩ := h; simp only at h4 h5 h6 h7; omega)]
          exact vl_bad5 t q mk cs wd n c b o k hk hc hm hT hp hq g0 g1 g2 g3 g4 (by omega) w hX hcx
        by_cases hqk : q = k
        · by_cases hm0 : mk = 0
          · by_cases hc0 : cs = 0
            · rw [(lok_iff _ _ _).2 ⟨hp, ⟨by simp only; omega, by simp only; omega⟩, by simp only [Int.toNat_natCast]; exact hx, ⟨g0, g1⟩, ⟨g2, g3⟩, ⟨g4, g5⟩, .inr ⟨hm0, hc0⟩⟩]
              exact vl_own t q mk cs wd n c b o k hk hc hm hT hp hq g0 g1 g2 g3 g4 g5 hqk hm0 hc0 w hX hcx
            · rw [lok_no (fun h => by obtain ⟨_, _, _, h4, h5, h6, h7⟩ := h; simp only at h4 h5 h6 h7; omega)]
              exact vl_own2 t q mk cs wd n c b o k hk hc hm hT hp hq g0 g1 g2 g3 g4 g5 hqk hm0 hc0 w hX hcx
          · rw [lok_no (fun h => by obtain ⟨_, _, _, h4, h5, h6, h7⟩ := h; simp only at h4 h5 h6 h7; omega)]
            exact vl_own1 t q mk cs wd n c b o k hk hc hm hT hp hq g0 g1 g2 g3 g4 g5 hqk hm0 w hX hcx
        · rw [(lok_iff _ _ _).2 ⟨hp, ⟨by simp only; omega, by simp only; omega⟩, by simp only [Int.toNat_natCast]; exact hx, ⟨g0, g1⟩, ⟨g2, g3⟩, ⟨g4, g5⟩, .inl (by simp only; omega)⟩]
          exact vl_far t q mk cs wd n c b o k hk hc hm hT hp hq g0 g1 g2 g3 g4 g5 hqk w hX hcx
      · rw [lok_no (fun h => hx (by have := h.2.2.1; simpa only [Int.toNat_natCast] using this))]
        exact vl_base t q mk cs wd n c b o k hk hc hm hT hp hq _ hx w hX hcx
    · rw [lok_no (fun h => h0 (by rw [hn]; exact h.2.1))]
      exact vl_has t bs mk cs wd n c b o k hk hc hm hT hp h0 w hX
  · have hp' : plain t = false := by simpa using hp
    rw [lok_no (fun h => hp h.1)]
    exact vl_text t bs mk cs wd n c b o k hk hc hm hT hp' w hX
end Go.Proofs.Ytalladdmedmfeaa
