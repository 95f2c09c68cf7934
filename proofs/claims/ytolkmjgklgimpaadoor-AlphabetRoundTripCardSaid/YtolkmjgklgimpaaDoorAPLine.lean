/-
  alphabet.readLine; strings.Split at one byte, strings.Clone.
-/
import Derived.Test.YtolkmjgklgimpaaDoorARLine
namespace Go.Proofs.YtolkmjgklgimpaaDoor
open Go.RowKit
open Alp
set_option linter.unusedVariables false
set_option linter.unusedSimpArgs false

/-- The variable of the library's own that its searches read holds some number. -/
def ML (w : World) : Prop := ∃ m, w.cell? ⟨0, 0, none⟩ = some (.int .i64 m)
theorem ML.below {w w' : World} (h : ML w) (hb : Below w.heap.size w w') : ML w' := by
  obtain ⟨m, hm⟩ := h
  exact ⟨m, (hb.cell (p := ⟨0, 0, none⟩) (World.block_lt_of_cell? w _ hm)).trans hm⟩
theorem splitB_tb (c : UInt8) (s : B) : ((Lib.splitB ⟨#[c]⟩ 0 (Lib.countB (tb s) ⟨#[c]⟩) (tb s)).map Value.string) = tv (splitC c s) := by
  have h := Lib.splitB_data ⟨#[c]⟩ 0 (Lib.countB (tb s) ⟨#[c]⟩) (tb s)
  have e : Lib.splitK ([c]) 0 (Lib.countB (tb s) ⟨#[c]⟩) (tb s).data.toList = splitC c s := by
    have : (tb s).data.toList = s := tb_list s
    show Lib.splitK [c] 0 (Lib.count (tb s).data.toList [c]) _ = _
    rw [this]
    exact splitK_eq c s.length s (Nat.le_refl _)
  have h2 : (Lib.splitB ⟨#[c]⟩ 0 (Lib.countB (tb s) ⟨#[c]⟩) (tb s)).map (·.data.toList) = splitC c s := h.trans e
  rw [← h2, tv, List.map_map]
  rfl
theorem split_any (s : B) (hs : s.length ≤ 1000000) (n : Nat) (hn : n = (splitC 32 s).length) (w : World) (hm : ML w) : Calls Tryd.prog 54 #[.string (tb s), .string ⟨#[32]⟩] w fun e w' => e = .returned (.slice (some ⟨w.heap.size, 0, none⟩) n n) ∧ w' = w.alloc (.cells (tv (splitC 32 s)).toArray 9) := by
  obtain ⟨m, hm⟩ := hm
  refine (Tryd.strings_Split (tb s) ⟨#[32]⟩ m w (by rw [tb_size]; omega) hm (by decide)).mono fun e w' ⟨he, hw⟩ => ?_
  rw [splitB_tb] at hw
  have hl := congrArg List.length (splitB_tb 32 s)
  rw [List.length_map, Lib.splitB_all ⟨#[32]⟩ (by decide) 0 _ (tb s) rfl, tv_len, ← hn] at hl
  rw [hl] at he
  exact ⟨he, hw⟩
theorem clone_any (t : B) (ht : t.length ≤ 1000000) (w : World) : Calls Tryd.prog 57 #[.string (tb t)] w fun e w' => e = .returned (.string (tb t)) ∧ Below w.heap.size w w' := by
  have HC := Lib.hid (Tryd.stringslite_Clone (tb t) w (by rw [tb_size]; omega))
  clear ht
  go_enter Tryd.func57, Tryd.ntmps57
  go_wp2_with ((with_reducible refine HC.out.mono ?_); rintro e w1 ⟨rfl, hb1⟩)
  go_ret
  exact ⟨rfl, hb1⟩
theorem rl1_enter (args : Array Value) (W : World) : (callFunc 55 args).run Tryd.prog W = .ok (.enter 55 args) W := by kernel_rfl
set_option maxHeartbeats 1000000 in
theorem rl1_any (i : Nat) (hi : i < 5) (t : B) (ht : t.length ≤ maxLen) (g o c bp bo : Nat) (v : Bool) (w : World) (hp : w.cell? ⟨bp, 0, none⟩ = some (.slice (some ⟨g, o, none⟩) 5 c)) (hc : w.cell? ⟨g, o + i, none⟩ = some (.string (tb t))) (hb : Blk w bo [.bool v] 4) :
    Calls Tryd.prog 55 #[.int .i64 (i : Int), .pointer (some ⟨bp, 0, none⟩), .pointer (some ⟨bo, 0, none⟩)] w fun e w' => e = .returned (.int .i64 (numR t)) ∧ w' = w.setCell ⟨bo, 0, none⟩ (.bool (v && numOK t)) := by
  have HN : Hid (∀ W, Calls Tryd.prog 56 #[.string (tb t)] W fun e w' => e = .returned (.tuple #[.int .i64 (numR t), .bool (numOK t)]) ∧ W = w') := Lib.hid fun W => readNumber_any t ht W
  have hcb : w.cell? ⟨bo, 0, none⟩ = some (.bool v) := hb.cell rfl
  have hfb : w.frozen? ⟨bo, 0, none⟩ = false := hb.frozen 0
  clear hb
  cases v
  · go_enter Tryd.func55, Tryd.ntmps55
    go_wp2_with ((with_reducible refine (HN.out _).mono ?_); rintro e w1 ⟨rfl, rfl⟩)
    go_ret
    exact ⟨rfl, rfl⟩
  · go_enter Tryd.func55, Tryd.ntmps55
    go_wp2_with ((with_reducible refine (HN.out _).mono ?_); rintro e w1 ⟨rfl, rfl⟩)
    go_ret
    exact ⟨rfl, by simp⟩
set_option maxRecDepth 100000 in
set_option maxHeartbeats 4000000 in
theorem pline_len (s : B) (hs : s.length ≤ 1000000) (n : Nat) (hn : n = (splitC 32 s).length) (hl : n ≠ 5) (w : World) (hm : ML w) : Calls Tryd.prog 48 #[.string (tb s)] w (LinePost w (lineP s)) := by
  obtain ⟨P, hP⟩ : ∃ P, P = (tv (splitC 32 s)).toArray := ⟨_, rfl⟩
  have HC : Hid (∀ W, Below w.heap.size w W → Calls Tryd.prog 54 #[.string (tb s), .string ⟨#[32]⟩] W fun e w' => e = .returned (.slice (some ⟨W.heap.size, 0, none⟩) n n) ∧ w' = W.alloc (.cells P 9)) := Lib.hid fun W hb => by rw [hP]; exact split_any s hs n hn W (hm.below hb)
  have HL : Hid (lineP s = none) := Lib.hid (by unfold lineP; exact lineOf_len (by rw [← hn]; exact hl))
  have hne : ((n : Int) != 5) = true := bne_iff_ne.2 (by omega)
  clear hP hn hl hs
  go_enter Tryd.func48, Tryd.ntmps48
  go_wp2_with ((with_reducible refine (HC.out _ (below_a1 w _)).mono ?_); rintro e w1 ⟨rfl, rfl⟩)
  exact ret_blk3 rfl w.heap.size rfl _ _ rfl rfl (C := zl) (T := 50) (((Blk.at w zl _ 50 _ rfl rfl).alloc _).alloc _) _ Tryd.underlying50 rfl Tryd.sizeLt rfl (line_none HL.out z [] (below_al (below_al (below_a1 w _) _) _))
set_option maxRecDepth 100000 in
set_option maxHeartbeats 4000000 in
theorem pline_e0 (s : B) (hs : s.length ≤ 1000000) (a b c d f : B) (hp : splitC 32 s = [a, b, c, d, f]) (h0 : a = []) (w : World) (hm : ML w) : Calls Tryd.prog 48 #[.string (tb s)] w (LinePost w (lineP s)) := by
  have HC : Hid (∀ W, Below w.heap.size w W → Calls Tryd.prog 54 #[.string (tb s), .string ⟨#[32]⟩] W fun e w' => e = .returned (.slice (some ⟨W.heap.size, 0, none⟩) 5 5) ∧ w' = W.alloc (.cells #[.string (tb a), .string (tb b), .string (tb c), .string (tb d), .string (tb f)] 9)) := Lib.hid fun W hb => by have := split_any s hs 5 (by rw [hp]; rfl) W (hm.below hb); rw [hp] at this; exact this
  have HL : Hid (lineP s = none) := Lib.hid (by unfold lineP; rw [hp]; exact lineOf_bad fun h => h.1 h0)
  have he := empty_yes h0
  clear hp h0 hs
  go_enter Tryd.func48, Tryd.ntmps48
  go_wp2_with ((with_reducible refine (HC.out _ (below_a1 w _)).mono ?_); rintro e w1 ⟨rfl, rfl⟩)
  exact ret_blk3 rfl w.heap.size rfl _ _ rfl rfl (C := zl) (T := 50) (((Blk.at w zl _ 50 _ rfl rfl).alloc _).alloc _) _ Tryd.underlying50 rfl Tryd.sizeLt rfl (line_none HL.out z [] (below_al (below_al (below_a1 w _) _) _))
set_option maxRecDepth 100000 in
set_option maxHeartbeats 4000000 in
theorem pline_e1 (s : B) (hs : s.length ≤ 1000000) (a b c d f : B) (hp : splitC 32 s = [a, b, c, d, f]) (ha : a ≠ []) (h0 : b = []) (w : World) (hm : ML w) : Calls Tryd.prog 48 #[.string (tb s)] w (LinePost w (lineP s)) := by
  have HC : Hid (∀ W, Below w.heap.size w W → Calls Tryd.prog 54 #[.string (tb s), .string ⟨#[32]⟩] W fun e w' => e = .returned (.slice (some ⟨W.heap.size, 0, none⟩) 5 5) ∧ w' = W.alloc (.cells #[.string (tb a), .string (tb b), .string (tb c), .string (tb d), .string (tb f)] 9)) := Lib.hid fun W hb => by have := split_any s hs 5 (by rw [hp]; rfl) W (hm.below hb); rw [hp] at this; exact this
  have HL : Hid (lineP s = none) := Lib.hid (by unfold lineP; rw [hp]; exact lineOf_bad fun h => h.2.1 h0)
  have hea := empty_no ha
  have he := empty_yes h0
  clear hp h0 ha hs
  go_enter Tryd.func48, Tryd.ntmps48
  go_wp2_with ((with_reducible refine (HC.out _ (below_a1 w _)).mono ?_); rintro e w1 ⟨rfl, rfl⟩)
  exact ret_blk3 rfl w.heap.size rfl _ _ rfl rfl (C := zl) (T := 50) (((Blk.at w zl _ 50 _ rfl rfl).alloc _).alloc _) _ Tryd.underlying50 rfl Tryd.sizeLt rfl (line_none HL.out z [] (below_al (below_al (below_a1 w _) _) _))
set_option maxRecDepth 100000 in
set_option maxHeartbeats 4000000 in
theorem pline_good (s : B) (hs : s.length ≤ 1000000) (a b c d f : B) (hp : splitC 32 s = [a, b, c, d, f]) (ha : a ≠ []) (hb : b ≠ []) (w : World) (hm : ML w) : Calls Tryd.prog 48 #[.string (tb s)] w (LinePost w (lineP s)) := by
  have HC : Hid (∀ W, Below w.heap.size w W → Calls Tryd.prog 54 #[.string (tb s), .string ⟨#[32]⟩] W fun e w' => e = .returned (.slice (some ⟨W.heap.size, 0, none⟩) 5 5) ∧ w' = W.alloc (.cells #[.string (tb a), .string (tb b), .string (tb c), .string (tb d), .string (tb f)] 9)) := Lib.hid fun W hb => by have := split_any s hs 5 (by rw [hp]; rfl) W (hm.below hb); rw [hp] at this; exact this
  have HL : Hid (lineP s = lineOf [a, b, c, d, f]) := Lib.hid (by unfold lineP; rw [hp])
  have HS : Hid (a.length ≤ maxLen ∧ b.length ≤ maxLen ∧ c.length ≤ maxLen ∧ d.length ≤ maxLen ∧ f.length ≤ maxLen) := Lib.hid (by
    have := splitC_part 32 s
    rw [hp] at this
    have h1 := this a (by simp)
    have h2 := this b (by simp)
    have h3 := this c (by simp)
    have h4 := this d (by simp)
    have h5 := this f (by simp)
    unfold maxLen
    refine ⟨?_, ?_, ?_, ?_, ?_⟩ <;> omega)
  have HCL : Hid (∀ W, Calls Tryd.prog 57 #[.string (tb a)] W fun e w' => e = .returned (.string (tb a)) ∧ Below W.heap.size W w') := Lib.hid fun W => clone_any a (by have := splitC_part 32 s; rw [hp] at this; have := this a (by simp); omega) W
  have HR : Hid (∀ (i : Nat) (t : B), i < 5 → t.length ≤ maxLen → ∀ (v : Bool) (W : World), Blk W (w.heap.size + 1) (tv [a, b, c, d, f]) 9 → (tv [a, b, c, d, f])[i]? = some (.string (tb t)) → Blk W (w.heap.size + 1 + 1) [.slice (some ⟨w.heap.size + 1, 0, none⟩) 5 5] 26 → Blk W (w.heap.size + 1 + 1 + 1) [.bool v] 4 → ∀ I : Int, I = (i : Int) →
      Calls Tryd.prog 55 #[.int .i64 I, .pointer (some ⟨w.heap.size + 1 + 1, 0, none⟩), .pointer (some ⟨w.heap.size + 1 + 1 + 1, 0, none⟩)] W fun e w' => e = .returned (.int .i64 (numR t)) ∧ w' = W.setCell ⟨w.heap.size + 1 + 1 + 1, 0, none⟩ (.bool (v && numOK t))) :=
    Lib.hid fun i t hi ht v W h1 h2 h3 h4 I hI => by rw [hI]; exact rl1_any i hi t ht _ 0 5 _ _ v W (h3.cell rfl) (by rw [Nat.zero_add]; exact h1.cell h2) h4
  have HSET : Hid (∀ (W W' : World) (v v' : Bool), (Blk W w.heap.size zl 50 ∧ Blk W (w.heap.size + 1) (tv [a, b, c, d, f]) 9 ∧ Blk W (w.heap.size + 1 + 1) [.slice (some ⟨w.heap.size + 1, 0, none⟩) 5 5] 26 ∧ Blk W (w.heap.size + 1 + 1 + 1) [.bool v] 4 ∧ Below w.heap.size w W) → W' = W.setCell ⟨w.heap.size + 1 + 1 + 1, 0, none⟩ (.bool v') → (Blk W' w.heap.size zl 50 ∧ Blk W' (w.heap.size + 1) (tv [a, b, c, d, f]) 9 ∧ Blk W' (w.heap.size + 1 + 1) [.slice (some ⟨w.heap.size + 1, 0, none⟩) 5 5] 26 ∧ Blk W' (w.heap.size + 1 + 1 + 1) [.bool v'] 4 ∧ Below w.heap.size w W')) := Lib.hid fun W W' v v' h e => by
    subst e
    obtain ⟨h1, h2, h3, h4, h5⟩ := h
    exact ⟨h1.set_other _ _ (by simp; omega), h2.set_other _ _ (by simp), h3.set_other _ _ (by simp), h4.set 0 _, h5.setCell (by simp; omega) _⟩
  have H0 : Hid (Blk ((((w.alloc (.cells #[.string ⟨#[]⟩, .int .i64 0, .int .i64 0, .int .i64 0, .int .i64 0] 50)).alloc (.cells #[.string (tb a), .string (tb b), .string (tb c), .string (tb d), .string (tb f)] 9)).alloc (.cells #[.slice (some ⟨w.heap.size + 1, 0, none⟩) 5 5] 26)).alloc (.cells #[.bool true] 4)) w.heap.size zl 50 ∧ Blk ((((w.alloc (.cells #[.string ⟨#[]⟩, .int .i64 0, .int .i64 0, .int .i64 0, .int .i64 0] 50)).alloc (.cells #[.string (tb a), .string (tb b), .string (tb c), .string (tb d), .string (tb f)] 9)).alloc (.cells #[.slice (some ⟨w.heap.size + 1, 0, none⟩) 5 5] 26)).alloc (.cells #[.bool true] 4)) (w.heap.size + 1) (tv [a, b, c, d, f]) 9 ∧ Blk ((((w.alloc (.cells #[.string ⟨#[]⟩, .int .i64 0, .int .i64 0, .int .i64 0, .int .i64 0] 50)).alloc (.cells #[.string (tb a), .string (tb b), .string (tb c), .string (tb d), .string (tb f)] 9)).alloc (.cells #[.slice (some ⟨w.heap.size + 1, 0, none⟩) 5 5] 26)).alloc (.cells #[.bool true] 4)) (w.heap.size + 1 + 1) [.slice (some ⟨w.heap.size + 1, 0, none⟩) 5 5] 26 ∧ Blk ((((w.alloc (.cells #[.string ⟨#[]⟩, .int .i64 0, .int .i64 0, .int .i64 0, .int .i64 0] 50)).alloc (.cells #[.string (tb a), .string (tb b), .string (tb c), .string (tb d), .string (tb f)] 9)).alloc (.cells #[.slice (some ⟨w.heap.size + 1, 0, none⟩) 5 5] 26)).alloc (.cells #[.bool true] 4)) (w.heap.size + 1 + 1 + 1) [.bool true] 4 ∧ Below w.heap.size w ((((w.alloc (.cells #[.string ⟨#[]⟩, .int .i64 0, .int .i64 0, .int .i64 0, .int .i64 0] 50)).alloc (.cells #[.string (tb a), .string (tb b), .string (tb c), .string (tb d), .string (tb f)] 9)).alloc (.cells #[.slice (some ⟨w.heap.size + 1, 0, none⟩) 5 5] 26)).alloc (.cells #[.bool true] 4))) := Lib.hid ⟨(((Blk.at w zl _ 50 _ rfl rfl).alloc _).alloc _).alloc _, ((Blk.at _ (tv [a, b, c, d, f]) _ 9 _ rfl (by simp)).alloc _).alloc _, (Blk.at _ [.slice (some ⟨w.heap.size + 1, 0, none⟩) 5 5] _ 26 _ rfl (by simp)).alloc _, Blk.at _ [.bool true] _ 4 _ rfl (by simp), below_al (below_al (below_al (below_a1 w _) _) _) _⟩
  have HKEEP : Hid (∀ (W W' : World) (v : Bool), Below W.heap.size W W' → (Blk W w.heap.size zl 50 ∧ Blk W (w.heap.size + 1) (tv [a, b, c, d, f]) 9 ∧ Blk W (w.heap.size + 1 + 1) [.slice (some ⟨w.heap.size + 1, 0, none⟩) 5 5] 26 ∧ Blk W (w.heap.size + 1 + 1 + 1) [.bool v] 4 ∧ Below w.heap.size w W) → (Blk W' w.heap.size zl 50 ∧ Blk W' (w.heap.size + 1) (tv [a, b, c, d, f]) 9 ∧ Blk W' (w.heap.size + 1 + 1) [.slice (some ⟨w.heap.size + 1, 0, none⟩) 5 5] 26 ∧ Blk W' (w.heap.size + 1 + 1 + 1) [.bool v] 4 ∧ Below w.heap.size w W')) := Lib.hid fun W W' v hb h => ⟨h.1.below hb h.1.lt, h.2.1.below hb h.2.1.lt, h.2.2.1.below hb h.2.2.1.lt, h.2.2.2.1.below hb h.2.2.2.1.lt, below_next h.2.2.2.2 hb⟩
  obtain ⟨v1, hv1⟩ : ∃ v, v = numOK c := ⟨_, rfl⟩
  obtain ⟨v2, hv2⟩ : ∃ v, v = (v1 && numOK d) := ⟨_, rfl⟩
  obtain ⟨v3, hv3⟩ : ∃ v, v = (v2 && numOK f) := ⟨_, rfl⟩
  have HV : Hid (v3 = (numOK c && (numOK d && numOK f))) := Lib.hid (by rw [hv3, hv2, hv1, Bool.and_assoc])
  have HV2 : Hid (v1 = numOK c) := Lib.hid hv1
  have HV3 : Hid (v2 = (v1 && numOK d)) := Lib.hid hv2
  have HV4 : Hid (v3 = (v2 && numOK f)) := Lib.hid hv3
  have hea := empty_no ha
  have heb := empty_no hb
  have HAB := Lib.hid (And.intro ha hb)
  have hen := rl1_enter
  have HR2 := Lib.hid fun v W h1 h2 h3 => HR.out 2 c (by omega) HS.out.2.2.1 v W h1 rfl h2 h3 2 rfl
  have HR3 := Lib.hid fun v W h1 h2 h3 => HR.out 3 d (by omega) HS.out.2.2.2.1 v W h1 rfl h2 h3 3 rfl
  have HR4 := Lib.hid fun v W h1 h2 h3 => HR.out 4 f (by omega) HS.out.2.2.2.2 v W h1 rfl h2 h3 4 rfl
  have hmf : ∀ (fn : Fn) (first cap : Array Value) (w : World), (Instr.makeFunc fn first cap).run Tryd.prog w = .ok (.func fn first cap) w := fun _ _ _ _ => rfl
  clear hp ha hb hs hv1 hv2 hv3
  go_enter Tryd.func48, Tryd.ntmps48
  go_wp2_with (first
    | ((with_reducible refine (HC.out _ (below_a1 w _)).mono ?_); rintro e w1 ⟨rfl, rfl⟩)
    | ((with_reducible refine (HCL.out _).mono ?_); rintro e w1 ⟨rfl, hb1⟩; have HX1 : Hid (Blk w1 w.heap.size zl 50 ∧ Blk w1 (w.heap.size + 1) (tv [a, b, c, d, f]) 9 ∧ Blk w1 (w.heap.size + 1 + 1) [.slice (some ⟨w.heap.size + 1, 0, none⟩) 5 5] 26 ∧ Blk w1 (w.heap.size + 1 + 1 + 1) [.bool true] 4 ∧ Below w.heap.size w w1) := Lib.hid (HKEEP.out _ w1 true hb1 H0.out); clear hb1; have hp0 : w1.cell? ⟨w.heap.size + 1 + 1, 0, none⟩ = some (.slice (some ⟨w.heap.size + 1, 0, none⟩) 5 5) := HX1.out.2.2.1.cell rfl)
    | ((with_reducible refine (HR2.out true _ HX1.out.2.1 HX1.out.2.2.1 HX1.out.2.2.2.1).mono ?_); rintro e w2 ⟨rfl, hw⟩; have HX2 : Hid (Blk w2 w.heap.size zl 50 ∧ Blk w2 (w.heap.size + 1) (tv [a, b, c, d, f]) 9 ∧ Blk w2 (w.heap.size + 1 + 1) [.slice (some ⟨w.heap.size + 1, 0, none⟩) 5 5] 26 ∧ Blk w2 (w.heap.size + 1 + 1 + 1) [.bool v1] 4 ∧ Below w.heap.size w w2) := Lib.hid (HSET.out w1 w2 true v1 HX1.out (hw.trans (by rw [HV2.out]; rfl))); clear hw; have hp2 : w2.cell? ⟨w.heap.size + 1 + 1, 0, none⟩ = some (.slice (some ⟨w.heap.size + 1, 0, none⟩) 5 5) := HX2.out.2.2.1.cell rfl)
    | ((with_reducible refine (HR3.out v1 _ HX2.out.2.1 HX2.out.2.2.1 HX2.out.2.2.2.1).mono ?_); rintro e w3 ⟨rfl, hw⟩; have HX3 : Hid (Blk w3 w.heap.size zl 50 ∧ Blk w3 (w.heap.size + 1) (tv [a, b, c, d, f]) 9 ∧ Blk w3 (w.heap.size + 1 + 1) [.slice (some ⟨w.heap.size + 1, 0, none⟩) 5 5] 26 ∧ Blk w3 (w.heap.size + 1 + 1 + 1) [.bool v2] 4 ∧ Below w.heap.size w w3) := Lib.hid (HSET.out w2 w3 v1 v2 HX2.out (hw.trans (by rw [HV3.out]))); clear hw; have hp3 : w3.cell? ⟨w.heap.size + 1 + 1, 0, none⟩ = some (.slice (some ⟨w.heap.size + 1, 0, none⟩) 5 5) := HX3.out.2.2.1.cell rfl)
    | ((with_reducible refine (HR4.out v2 _ HX3.out.2.1 HX3.out.2.2.1 HX3.out.2.2.2.1).mono ?_); rintro e w4 ⟨rfl, hw⟩; have HX4 : Hid (Blk w4 w.heap.size zl 50 ∧ Blk w4 (w.heap.size + 1) (tv [a, b, c, d, f]) 9 ∧ Blk w4 (w.heap.size + 1 + 1) [.slice (some ⟨w.heap.size + 1, 0, none⟩) 5 5] 26 ∧ Blk w4 (w.heap.size + 1 + 1 + 1) [.bool v3] 4 ∧ Below w.heap.size w w4) := Lib.hid (HSET.out w3 w4 v2 v3 HX3.out (hw.trans (by rw [HV4.out]))); clear hw; have hb4 : w4.cell? ⟨w.heap.size + 1 + 1 + 1, 0, none⟩ = some (.bool v3) := HX4.out.2.2.2.1.cell rfl; have hp4 : w4.cell? ⟨w.heap.size + 1 + 1, 0, none⟩ = some (.slice (some ⟨w.heap.size + 1, 0, none⟩) 5 5) := HX4.out.2.2.1.cell rfl))
  have HB : Hid (Blk (w4.alloc (.cells #[.string (tb a), .int .i64 0, .int .i64 (numR c), .int .i64 (numR d), .int .i64 (numR f)] 50)) w.heap.size zl 50 ∧ True ∧ True ∧ Below w.heap.size w (w4.alloc (.cells #[.string (tb a), .int .i64 0, .int .i64 (numR c), .int .i64 (numR d), .int .i64 (numR f)] 50))) := Lib.hid ⟨HX4.out.1.alloc _, trivial, trivial, below_al HX4.out.2.2.2.2 _⟩
  have HK0 : Hid ((fun w' => w'.rangeAt w4.heap.size 0 (lc ⟨a, 0, numR c, numR d, numR f⟩) ∧ w'.cell? ⟨w.heap.size + 1 + 1, 0, none⟩ = some (.slice (some ⟨w.heap.size + 1, 0, none⟩) 5 5) ∧ w'.cell? ⟨w.heap.size + 1, 1, none⟩ = some (.string (tb b)) ∧ w'.cell? ⟨w.heap.size + 1 + 1 + 1, 0, none⟩ = some (.bool v3)) (w4.alloc (.cells #[.string (tb a), .int .i64 0, .int .i64 (numR c), .int .i64 (numR d), .int .i64 (numR f)] 50))) := Lib.hid ⟨(by have := (Blk.at w4 (lc ⟨a, 0, numR c, numR d, numR f⟩) #[.string (tb a), .int .i64 0, .int .i64 (numR c), .int .i64 (numR d), .int .i64 (numR f)] 50 _ rfl rfl).range 0 5; exact this), ((HX4.out.2.2.1.alloc _).cell rfl), ((HX4.out.2.1.alloc _).cell rfl), ((HX4.out.2.2.2.1.alloc _).cell rfl)⟩
  have HNE : Hid (w4.heap.size ≠ w.heap.size ∧ w.heap.size + 1 + 1 ≠ w.heap.size ∧ w.heap.size + 1 ≠ w.heap.size ∧ w.heap.size + 1 + 1 + 1 ≠ w.heap.size) := Lib.hid ⟨by have := HX4.out.1.lt; omega, by omega, by omega, by omega⟩
  have HK : Hid (∀ W : World, W.heap = (w4.alloc (.cells #[.string (tb a), .int .i64 0, .int .i64 (numR c), .int .i64 (numR d), .int .i64 (numR f)] 50)).heap → (fun w' => w'.rangeAt w4.heap.size 0 (lc ⟨a, 0, numR c, numR d, numR f⟩) ∧ w'.cell? ⟨w.heap.size + 1 + 1, 0, none⟩ = some (.slice (some ⟨w.heap.size + 1, 0, none⟩) 5 5) ∧ w'.cell? ⟨w.heap.size + 1, 1, none⟩ = some (.string (tb b)) ∧ w'.cell? ⟨w.heap.size + 1 + 1 + 1, 0, none⟩ = some (.bool v3)) W) := Lib.hid fun W e => ⟨fun j v hv => (cell_heap e _).trans (HK0.out.1 j v hv), (cell_heap e _).trans HK0.out.2.1, (cell_heap e _).trans HK0.out.2.2.1, (cell_heap e _).trans HK0.out.2.2.2⟩
  have HK2 : Hid (∀ (W w9 : World), W.heap = (w4.alloc (.cells #[.string (tb a), .int .i64 0, .int .i64 (numR c), .int .i64 (numR d), .int .i64 (numR f)] 50)).heap → Stored W w9 w.heap.size (lc ⟨a, 0, numR c, numR d, numR f⟩) 50 → (fun w' => w'.rangeAt w4.heap.size 0 (lc ⟨a, 0, numR c, numR d, numR f⟩) ∧ w'.cell? ⟨w.heap.size + 1 + 1, 0, none⟩ = some (.slice (some ⟨w.heap.size + 1, 0, none⟩) 5 5) ∧ w'.cell? ⟨w.heap.size + 1, 1, none⟩ = some (.string (tb b)) ∧ w'.cell? ⟨w.heap.size + 1 + 1 + 1, 0, none⟩ = some (.bool v3)) w9) := Lib.hid fun W w9 e h => ⟨fun j v hv => h.cell HNE.out.1 ((HK.out W e).1 j v hv), h.cell HNE.out.2.1 (HK.out W e).2.1, h.cell HNE.out.2.2.1 (HK.out W e).2.2.1, h.cell HNE.out.2.2.2 (HK.out W e).2.2.2⟩
  clear hp0 hp2 hp3 hp4 hb4
  refine wp_region_held_drew (S := fun w' => w'.rangeAt w4.heap.size 0 (lc ⟨a, 0, numR c, numR d, numR f⟩) ∧ w'.cell? ⟨w.heap.size + 1 + 1, 0, none⟩ = some (.slice (some ⟨w.heap.size + 1, 0, none⟩) 5 5) ∧ w'.cell? ⟨w.heap.size + 1, 1, none⟩ = some (.string (tb b)) ∧ w'.cell? ⟨w.heap.size + 1 + 1 + 1, 0, none⟩ = some (.bool v3)) (by kernel_rfl) (HK.out _ rfl) (fun hS0 => ?_)
  refine wpAnyH_take (i := 0) (oi := { dst := some 39, op := Op.load 50 (Operand.tmp 8), type := 50, pos := "alphabet.go:211", after := #[], guard := none }) (v := _) rfl (by kernel_rfl) (by kernel_rfl) (by kernel_rfl) (fun _ _ _ h => h) (yieldsIf_load_mid (by rfl) _ _ rfl _ _ rfl _ _ (fun w h => h.1) Tryd.underlying50 rfl Tryd.sizeLt) (by assumption) ?_
  try simp only [Act.put, List.setIfInBounds_toArray, List.set_cons_zero, List.set_cons_succ]
  refine wpAnyH_take (i := 1) (oi := { dst := some 40, op := Op.load 26 (Operand.tmp 5), type := 26, pos := "alphabet.go:211", after := #[{ on := 5, ground := Ground.gcOnly Departure.lateStores }], guard := none }) (v := ?_) rfl (by kernel_rfl) (by kernel_rfl) (by kernel_rfl) (fun _ _ _ h => h) (Or.inl ⟨by rfl, ?_⟩) (by assumption) ?_
  rotate_left
  · (intro w' hSw; (try dsimp only at hSw); obtain ⟨hS1, hS2, hS3, hS4⟩ := hSw; go_simp; try with_reducible rfl)
  try simp only [Act.put, List.setIfInBounds_toArray, List.set_cons_zero, List.set_cons_succ]
  refine wpAnyH_take (i := 2) (oi := { dst := some 41, op := Op.indexAddr 26 (Operand.tmp 40) (Operand.const (Value.int IntKind.i64 1)), type := 0, pos := "alphabet.go:211", after := #[{ on := 1, ground := Ground.data }, { on := 5, ground := Ground.gcOnly Departure.lateStores }], guard := none }) (v := ?_) rfl (by kernel_rfl) (by kernel_rfl) (by kernel_rfl) (fun _ _ _ h => h) (Or.inl ⟨by rfl, ?_⟩) (by assumption) ?_
  rotate_left
  · (intro w' hSw; (try dsimp only at hSw); obtain ⟨hS1, hS2, hS3, hS4⟩ := hSw; go_simp; try with_reducible rfl)
  try simp only [Act.put, List.setIfInBounds_toArray, List.set_cons_zero, List.set_cons_succ]
  refine wpAnyH_take (i := 3) (oi := { dst := some 42, op := Op.load 9 (Operand.tmp 41), type := 9, pos := "alphabet.go:211", after := #[{ on := 2, ground := Ground.data }, { on := 5, ground := Ground.gcOnly Departure.lateStores }], guard := none }) (v := ?_) rfl (by kernel_rfl) (by kernel_rfl) (by kernel_rfl) (fun _ _ _ h => h) (Or.inl ⟨by rfl, ?_⟩) (by assumption) ?_
  rotate_left
  · (intro w' hSw; (try dsimp only at hSw); obtain ⟨hS1, hS2, hS3, hS4⟩ := hSw; go_simp; try with_reducible rfl)
  try simp only [Act.put, List.setIfInBounds_toArray, List.set_cons_zero, List.set_cons_succ]
  refine wpAnyH_take (i := 4) (oi := { dst := some 43, op := Op.load 4 (Operand.tmp 6), type := 4, pos := "alphabet.go:211", after := #[{ on := 6, ground := Ground.gcOnly Departure.lateStores }], guard := none }) (v := ?_) rfl (by kernel_rfl) (by kernel_rfl) (by kernel_rfl) (fun _ _ _ h => h) (Or.inl ⟨by rfl, ?_⟩) (by assumption) ?_
  rotate_left
  · (intro w' hSw; (try dsimp only at hSw); obtain ⟨hS1, hS2, hS3, hS4⟩ := hSw; go_simp; try with_reducible rfl)
  try simp only [Act.put, List.setIfInBounds_toArray, List.set_cons_zero, List.set_cons_succ]
  refine wpAnyH_ready (rs := [5]) (by kernel_rfl) (by simp) ?_
  refine AllReadyH.cons (o := { dst := none, op := Op.store 50 (Operand.tmp 2) (Operand.tmp 39), type := 0, pos := "alphabet.go:211", after := #[{ on := 0, ground := Ground.data }, { on := 0, ground := Ground.phase }, { on := 1, ground := Ground.textOnly Departure.lateStores }, { on := 2, ground := Ground.textOnly Departure.lateStores }, { on := 3, ground := Ground.textOnly Departure.lateStores }, { on := 4, ground := Ground.textOnly Departure.lateStores }], guard := none }) rfl (fun K hK => ?_) AllReadyH.nil
  refine step_store_blk rfl 50 (.tmp 2) (.tmp 39) rfl w.heap.size rfl (lc ⟨a, 0, numR c, numR d, numR f⟩) rfl (HB.out.1.of_heap rfl) Tryd.sizeLt rfl (lc_one _) ?_
  intro w9 hst9
  have HX9 : Hid (Blk w9 w.heap.size (lc ⟨a, 0, numR c, numR d, numR f⟩) 50 ∧ Below w.heap.size w w9 ∧ (fun w' => w'.rangeAt w4.heap.size 0 (lc ⟨a, 0, numR c, numR d, numR f⟩) ∧ w'.cell? ⟨w.heap.size + 1 + 1, 0, none⟩ = some (.slice (some ⟨w.heap.size + 1, 0, none⟩) 5 5) ∧ w'.cell? ⟨w.heap.size + 1, 1, none⟩ = some (.string (tb b)) ∧ w'.cell? ⟨w.heap.size + 1 + 1 + 1, 0, none⟩ = some (.bool v3)) w9) := Lib.hid ⟨hst9.1, hst9.below (below_same HB.out.2.2.2 rfl rfl rfl rfl) (Nat.le_refl _), HK2.out _ _ rfl hst9⟩
  clear hst9
  refine hK.out _ _ HX9.out.2.2 (fun _ => ?_)
  clear hK K hS0
  try simp only [Act.put, List.setIfInBounds_toArray, List.set_cons_zero, List.set_cons_succ]
  refine wpAnyH_take (i := 6) (oi := { dst := some 3, op := Op.assign (Operand.tmp 42), type := 9, pos := "alphabet.go:211", after := #[{ on := 3, ground := Ground.data }, { on := 5, ground := Ground.chain }, { on := 0, ground := Ground.phase }, { on := 1, ground := Ground.phase }, { on := 2, ground := Ground.phase }, { on := 3, ground := Ground.phase }, { on := 4, ground := Ground.textOnly Departure.lateStores }, { on := 5, ground := Ground.phase }], guard := none }) (v := ?_) rfl (by kernel_rfl) (by kernel_rfl) (by kernel_rfl) (fun _ _ _ h => h) (Or.inl ⟨by rfl, ?_⟩) (by assumption) ?_
  rotate_left
  · (intro w' hSw; (try dsimp only at hSw); obtain ⟨hS1, hS2, hS3, hS4⟩ := hSw; go_simp; try with_reducible rfl)
  try simp only [Act.put, List.setIfInBounds_toArray, List.set_cons_zero, List.set_cons_succ]
  refine wpAnyH_take (i := 7) (oi := { dst := some 4, op := Op.assign (Operand.tmp 43), type := 4, pos := "alphabet.go:211", after := #[{ on := 4, ground := Ground.data }, { on := 6, ground := Ground.chain }, { on := 0, ground := Ground.phase }, { on := 1, ground := Ground.phase }, { on := 2, ground := Ground.phase }, { on := 3, ground := Ground.phase }, { on := 4, ground := Ground.phase }, { on := 5, ground := Ground.phase }, { on := 6, ground := Ground.phase }], guard := none }) (v := ?_) rfl (by kernel_rfl) (by kernel_rfl) (by kernel_rfl) (fun _ _ _ h => h) (Or.inl ⟨by rfl, ?_⟩) (by assumption) ?_
  rotate_left
  · (intro w' hSw; (try dsimp only at hSw); obtain ⟨hS1, hS2, hS3, hS4⟩ := hSw; go_simp; try with_reducible rfl)
  try simp only [Act.put, List.setIfInBounds_toArray, List.set_cons_zero, List.set_cons_succ]
  refine wpAnyH_done (by kernel_rfl) ?_ _
  go_wp2_with fail
  rw [HL.out]
  exact ret_blk3 rfl w.heap.size rfl _ _ rfl rfl HX9.out.1 _ Tryd.underlying50 rfl Tryd.sizeLt rfl (line_fin HAB.out.1 HAB.out.2 rfl rfl rfl HV.out HX9.out.2.1)
theorem pline_any (s : B) (hs : s.length ≤ 1000000) (w : World) (hm : ML w) : Calls Tryd.prog 48 #[.string (tb s)] w (LinePost w (lineP s)) := by
  by_cases hl : (splitC 32 s).length = 5
  · obtain ⟨a, b, c, d, f, hp⟩ := five_of hl
    by_cases ha : a = []
    · exact pline_e0 s hs a b c d f hp ha w hm
    · by_cases hb : b = []
      · exact pline_e1 s hs a b c d f hp ha hb w hm
      · exact pline_good s hs a b c d f hp ha hb w hm
  · exact pline_len s hs _ rfl hl w hm
end Go.Proofs.YtolkmjgklgimpaaDoor
