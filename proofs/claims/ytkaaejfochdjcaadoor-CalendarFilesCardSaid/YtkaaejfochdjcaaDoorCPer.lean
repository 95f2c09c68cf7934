/-
  calendar's spans: Valid; the days of a date (period), of two dates (between), of the years about one (around).
-/
import Derived.Test.YtkaaejfochdjcaaDoorCStr
import Derived.Laws.CopyOwn
namespace Go.Proofs.YtkaaejfochdjcaaDoor
open Go.RowKit
open Cal
set_option linter.unusedVariables false
set_option linter.unusedSimpArgs false

def iv (l : List Int) : List Value := l.map (Value.int .i64)
theorem iv_length (l : List Int) : (iv l).length = l.length := by simp [iv]
theorem iv_one (l : List Int) : ∀ u ∈ iv l, u.oneCell' = true := fun u hu => by
  obtain ⟨_, _, rfl⟩ := List.mem_map.1 hu
  rfl
/-- A span as a value. -/
def sp (a b : Int) : Value := .agg #[.int .i64 a, .int .i64 b]
/-- What a function that answers a span and an error returns. -/
def retR (r : R) : Ending := .returned (.tuple #[.agg #[.int .i64 r.1, .int .i64 r.2.1], .int .i64 r.2.2])
theorem Tryd.sizeSpan : (Tryd.prog.info? 30).map (·.size) = some 2 := by kernel_rfl
theorem Tryd.sizeInt : (Tryd.prog.info? 3).map (·.size) = some 1 := by kernel_rfl

/-- copy onto a block that is known whole, from a slice that reads as numbers. -/
theorem wpList_copy_iv {P : Program} {w : World} {ops : Array Oper} {rest : List Oper} {o : Oper} {a : Act} {Q : Exit → Act → World → Prop} (hgd : o.guard = none) (d s : Operand) (dT sT : TypeId)
    (ho : o.op = .call { callee := .builtin .copy, args := #[d, s], argTypes := #[dT, sT] }) (elem : TypeId) (hu : P.underlying dT = some (.slice elem)) (hsz : (P.info? elem).map (·.size) = some 1)
    (g dLen dCap b q sLen sCap : Nat) (hd : a.eval d = .slice (some ⟨g, 0, none⟩) dLen dCap) (hs : a.eval s = .slice (some ⟨b, q, none⟩) sLen sCap)
    {C : List Value} {T : TypeId} (hb : Blk w g C T) (l : List Value) (hn : l.length = Nat.min sLen dLen) (hsrc : ∀ j v, l[j]? = some v → w.cell? ⟨b, q + j, none⟩ = some v) (hfit : l.length ≤ C.length) (h1 : ∀ v ∈ l, v.oneCell' = true)
    (h : ∀ w1, Stored w w1 g (l ++ C.drop l.length) T → wpList P ops Q rest (a.put o.dst (goInt l.length)) w1) : wpList P ops Q (o :: rest) a w := by
  have hadd : ∀ j, (⟨b, q, none⟩ : Addr).add j = ⟨b, q + j, none⟩ := fun j => by unfold Addr.add; split <;> simp_all
  refine wpList_copy_own hgd d s dT sT ho elem hu hsz g 0 dLen dCap ⟨b, q, none⟩ sLen sCap hd hs C.toArray T hb l hn (fun j v hv => by rw [hadd]; exact hsrc j v hv) (by simpa using hfit) h1 ?_
  refine h _ ⟨?_, fun k hk => setRow_other w g k _ hk, by simp [World.setRow], rfl, rfl, rfl⟩
  have := setRow_heap w g C.toArray (C.toArray.toList.take 0 ++ (l ++ C.toArray.toList.drop (0 + l.length))).toArray T (0, 0) hb
  simpa [Blk] using this

/-- The return of a struct that lies in a block, and of a number. -/
theorem ret_span {P : Program} {fn : Func} {p q : Tmp} {ty : TypeId} {R : Ending → World → Prop} {a : Act} {w : World} (hr : fn.results = #[.cell p ty, .tmp q]) (g : Nat) (hp : a.tmps.getD p undef = .pointer (some ⟨g, 0, none⟩)) (v : Value) (hq : a.tmps.getD q undef = v) {C : List Value} {T : TypeId} (hb : Blk w g C T) (d : TypeDesc) (hu : P.underlying ty = some d) (hd : d.isRow = true)
    (hi : (P.info? ty).map (·.size) = some C.length) (hdf : a.defers = []) (hR : R (.returned (.tuple #[.agg C.toArray, v])) w) : bodyPost P fn R .ret a w := by
  refine bodyPost_ret ?_ hdf hR
  have hp' : a.tmps[p]?.getD undef = .pointer (some ⟨g, 0, none⟩) := by simpa using hp
  have hq' : a.tmps[q]?.getD undef = v := by simpa using hq
  simp [results, hr, hp', hq', asAddr, run_loadVar_row w g T ty C.toArray (0, 0) d hb hu (by cases d <;> simp_all) (by simpa using hi)]

set_option maxHeartbeats 400000 in
theorem valid_yes (a b : Int) (h : vaB a b = true) (w : World) : Calls Tryd.prog 21 #[sp a b] w fun e w' => e = .returned (.bool true) ∧ Below w.heap.size w w' := by
  obtain ⟨h1, h2, h3⟩ : okS a b := of_decide_eq_true (by unfold vaB at h; exact h)
  clear h
  unfold sp
  go_enter Tryd.func21, Tryd.ntmps21
  go_wp2
  go_ret
  exact ⟨rfl, below_a1 _ _⟩
set_option maxHeartbeats 400000 in
theorem valid_no (a b : Int) (h : vaB a b = false) (w : World) : Calls Tryd.prog 21 #[sp a b] w fun e w' => e = .returned (.bool false) ∧ Below w.heap.size w w' := by
  have hn : ¬ okS a b := of_decide_eq_false (by unfold vaB at h; exact h)
  clear h
  unfold sp
  by_cases h1 : 1 ≤ a
  · by_cases h2 : a ≤ b
    · have h3 : ¬ b ≤ 1022679 := fun h3 => hn ⟨h1, h2, h3⟩
      clear hn
      go_enter Tryd.func21, Tryd.ntmps21
      go_wp2
      go_ret
      exact ⟨rfl, below_a1 _ _⟩
    · clear hn
      go_enter Tryd.func21, Tryd.ntmps21
      go_wp2
      go_ret
      exact ⟨rfl, below_a1 _ _⟩
  · clear hn
    go_enter Tryd.func21, Tryd.ntmps21
    go_wp2
    go_ret
    exact ⟨rfl, below_a1 _ _⟩
theorem valid_any (a b : Int) (w : World) : Calls Tryd.prog 21 #[sp a b] w fun e w' => e = .returned (.bool (vaB a b)) ∧ Below w.heap.size w w' := by
  cases h : vaB a b
  · exact valid_no a b h w
  · exact valid_yes a b h w

set_option maxRecDepth 100000 in
set_option maxHeartbeats 1000000 in
theorem period1_no (y : Int) (hx : ¬ Ex y 1 1) (b o c : Nat) (hc : 1 ≤ c) (hm : c ≤ maxLen) (w : World) (hr : ∀ j v, (iv [y])[j]? = some v → w.cell? ⟨b, o + j, none⟩ = some v) (hM : MD w) :
    Calls Tryd.prog 68 #[.slice (some ⟨b, o, none⟩) 1 c] w fun e w' => e = retR eRange ∧ Below w.heap.size w w' := by
  unfold retR eRange
  have hb0 : b < w.heap.size := World.block_lt_of_cell? w ⟨b, o + 0, none⟩ (hr 0 _ rfl)
  have hm' : c ≤ 9223372036854775807 := by unfold maxLen at hm; omega
  have HR := Lib.hid hr
  have HX := Lib.hid hx
  have HM := Lib.hid hM
  clear hx
  have HSRC : Hid (∀ W, Below w.heap.size w W → ∀ j v, (iv [y])[j]? = some v → W.cell? ⟨b, o + j, none⟩ = some v) := Lib.hid fun W hb j v hv => (hb.cell (p := ⟨b, o + j, none⟩) hb0).trans (hr j v hv)
  clear hr hM
  go_enter Tryd.func68, Tryd.ntmps68
  go_wp2_with (refine wpList_copy_iv rfl (.tmp 9) (.tmp 10) 47 47 rfl 3 Tryd.underlying47 Tryd.sizeInt (w.heap.size + 1) 3 3 b o 1 c rfl rfl (Blk.at _ (iv [1, 1, 1]) _ _ _ rfl (by simp)) (iv [y]) rfl (HSRC.out _ (below_al (below_a1 _ _) _)) (by simp [iv]) (iv_one _) ?_; intro w1 hst1; have HX1 : Hid (Blk w1 (w.heap.size + 1) (iv [y, 1, 1]) 101 ∧ Blk w1 w.heap.size (iv [0, 0]) 30 ∧ Below w.heap.size w w1) := Lib.hid ⟨hst1.1, hst1.other ((Blk.at w (iv [0, 0]) _ 30 _ rfl rfl).alloc _) (by omega), hst1.below (below_al (below_a1 _ _) _) (by omega)⟩; clear hst1; refine Hid.out ?_)
  refine Lib.hid ?_
  have hc0 : w1.cell? ⟨w.heap.size + 1, 0, none⟩ = some (.int .i64 y) := HX1.out.1.cell rfl
  have hc1 : w1.cell? ⟨w.heap.size + 1, 1, none⟩ = some (.int .i64 1) := HX1.out.1.cell rfl
  have hc2 : w1.cell? ⟨w.heap.size + 1, 2, none⟩ = some (.int .i64 1) := HX1.out.1.cell rfl
  go_wp2_with (first
    | ((with_reducible refine (day_no y 1 1 HX.out _ (HM.out.below HX1.out.2.2)).mono ?_); rintro e w2 ⟨rfl, rfl⟩; unfold retE)
    | (refine wpList_store_blk rfl 30 (.tmp 2) (.tmp 24) rfl w.heap.size 0 rfl (iv [0, 0]) rfl HX1.out.2.1 2 Tryd.sizeSpan rfl (by simp [iv]) (iv_one _) ?_; intro w3 hst3; have HX3 : Hid (Blk w3 w.heap.size (iv [0, 0]) 30 ∧ Below w.heap.size w w3) := Lib.hid ⟨hst3.1, hst3.below HX1.out.2.2 (by omega)⟩; clear hst3))
  exact ret_span rfl w.heap.size rfl _ rfl HX3.out.1 _ Tryd.underlying30 rfl Tryd.sizeSpan rfl ⟨rfl, HX3.out.2⟩

set_option maxRecDepth 100000 in
set_option maxHeartbeats 1000000 in
theorem period1_yes (y : Int) (hx : Ex y 1 1) (b o c : Nat) (hc : 1 ≤ c) (hm : c ≤ maxLen) (w : World) (hr : ∀ j v, (iv [y])[j]? = some v → w.cell? ⟨b, o + j, none⟩ = some v) (hM : MD w) :
    Calls Tryd.prog 68 #[.slice (some ⟨b, o, none⟩) 1 c] w fun e w' => e = retR (num y 1 1, num y 12 31, 0) ∧ Below w.heap.size w w' := by
  unfold retR
  have hb0 : b < w.heap.size := World.block_lt_of_cell? w ⟨b, o + 0, none⟩ (hr 0 _ rfl)
  have hm' : c ≤ 9223372036854775807 := by unfold maxLen at hm; omega
  have HR := Lib.hid hr
  have HX := Lib.hid hx
  have HM := Lib.hid hM
  have hnb := num_bd hx
  obtain ⟨hy1, hy2, _⟩ := hx
  have hlen : num y 1 1 + (365 + lp y) - 1 = num y 12 31 := by have := dby_succ y; rw [num_first, num_last]; omega
  have hlp := lp_bd y
  have HLEN := Lib.hid hlen
  clear hlen
  have HSRC : Hid (∀ W, Below w.heap.size w W → ∀ j v, (iv [y])[j]? = some v → W.cell? ⟨b, o + j, none⟩ = some v) := Lib.hid fun W hb j v hv => (hb.cell (p := ⟨b, o + j, none⟩) hb0).trans (hr j v hv)
  clear hr hM
  go_enter Tryd.func68, Tryd.ntmps68
  go_wp2_with (refine wpList_copy_iv rfl (.tmp 9) (.tmp 10) 47 47 rfl 3 Tryd.underlying47 Tryd.sizeInt (w.heap.size + 1) 3 3 b o 1 c rfl rfl (Blk.at _ (iv [1, 1, 1]) _ _ _ rfl (by simp)) (iv [y]) rfl (HSRC.out _ (below_al (below_a1 _ _) _)) (by simp [iv]) (iv_one _) ?_; intro w1 hst1; have HX1 : Hid (Blk w1 (w.heap.size + 1) (iv [y, 1, 1]) 101 ∧ Blk w1 w.heap.size (iv [0, 0]) 30 ∧ Below w.heap.size w w1) := Lib.hid ⟨hst1.1, hst1.other ((Blk.at w (iv [0, 0]) _ 30 _ rfl rfl).alloc _) (by omega), hst1.below (below_al (below_a1 _ _) _) (by omega)⟩; clear hst1; refine Hid.out ?_)
  refine Lib.hid ?_
  have hc0 : w1.cell? ⟨w.heap.size + 1, 0, none⟩ = some (.int .i64 y) := HX1.out.1.cell rfl
  have hc1 : w1.cell? ⟨w.heap.size + 1, 1, none⟩ = some (.int .i64 1) := HX1.out.1.cell rfl
  have hc2 : w1.cell? ⟨w.heap.size + 1, 2, none⟩ = some (.int .i64 1) := HX1.out.1.cell rfl
  have hs0 : w1.cell? ⟨b, o, none⟩ = some (.int .i64 y) := (HX1.out.2.2.cell (p := ⟨b, o + 0, none⟩) hb0).trans (HR.out 0 _ rfl)
  go_wp2_with (first
    | ((with_reducible refine (day_yes y 1 1 HX.out _ (HM.out.below HX1.out.2.2)).mono ?_); rintro e w2 ⟨rfl, rfl⟩; unfold retE)
    | ((with_reducible refine (ylen_any y hy1 (by omega) _).mono ?_); rintro e w2 ⟨rfl, rfl⟩)
    | (refine wpList_store_blk rfl 30 (.tmp 2) (.tmp 48) rfl w.heap.size 0 rfl (iv [num y 1 1, num y 1 1 + (365 + lp y) - 1]) rfl HX1.out.2.1 2 Tryd.sizeSpan rfl (by simp [iv]) (iv_one _) ?_; intro w3 hst3; have HX3 : Hid (Blk w3 w.heap.size (iv [num y 1 1, num y 1 1 + (365 + lp y) - 1]) 30 ∧ Below w.heap.size w w3) := Lib.hid ⟨hst3.1, hst3.below HX1.out.2.2 (by omega)⟩; clear hst3))
  exact ret_span rfl w.heap.size rfl _ rfl HX3.out.1 _ Tryd.underlying30 rfl Tryd.sizeSpan rfl ⟨by rw [← HLEN.out]; rfl, HX3.out.2⟩

set_option maxRecDepth 100000 in
set_option maxHeartbeats 1000000 in
theorem period2_no (y m : Int) (hx : ¬ Ex y m 1) (b o c : Nat) (hc : 2 ≤ c) (hm : c ≤ maxLen) (w : World) (hr : ∀ j v, (iv [y, m])[j]? = some v → w.cell? ⟨b, o + j, none⟩ = some v) (hM : MD w) :
    Calls Tryd.prog 68 #[.slice (some ⟨b, o, none⟩) 2 c] w fun e w' => e = retR eRange ∧ Below w.heap.size w w' := by
  unfold retR eRange
  have hb0 : b < w.heap.size := World.block_lt_of_cell? w ⟨b, o + 0, none⟩ (hr 0 _ rfl)
  have hm' : c ≤ 9223372036854775807 := by unfold maxLen at hm; omega
  have HR := Lib.hid hr
  have HX := Lib.hid hx
  have HM := Lib.hid hM
  clear hx
  have HSRC : Hid (∀ W, Below w.heap.size w W → ∀ j v, (iv [y, m])[j]? = some v → W.cell? ⟨b, o + j, none⟩ = some v) := Lib.hid fun W hb j v hv => (hb.cell (p := ⟨b, o + j, none⟩) hb0).trans (hr j v hv)
  clear hr hM
  go_enter Tryd.func68, Tryd.ntmps68
  go_wp2_with (refine wpList_copy_iv rfl (.tmp 9) (.tmp 10) 47 47 rfl 3 Tryd.underlying47 Tryd.sizeInt (w.heap.size + 1) 3 3 b o 2 c rfl rfl (Blk.at _ (iv [1, 1, 1]) _ _ _ rfl (by simp)) (iv [y, m]) rfl (HSRC.out _ (below_al (below_a1 _ _) _)) (by simp [iv]) (iv_one _) ?_; intro w1 hst1; have HX1 : Hid (Blk w1 (w.heap.size + 1) (iv [y, m, 1]) 101 ∧ Blk w1 w.heap.size (iv [0, 0]) 30 ∧ Below w.heap.size w w1) := Lib.hid ⟨hst1.1, hst1.other ((Blk.at w (iv [0, 0]) _ 30 _ rfl rfl).alloc _) (by omega), hst1.below (below_al (below_a1 _ _) _) (by omega)⟩; clear hst1; refine Hid.out ?_)
  refine Lib.hid ?_
  have hc0 : w1.cell? ⟨w.heap.size + 1, 0, none⟩ = some (.int .i64 y) := HX1.out.1.cell rfl
  have hc1 : w1.cell? ⟨w.heap.size + 1, 1, none⟩ = some (.int .i64 m) := HX1.out.1.cell rfl
  have hc2 : w1.cell? ⟨w.heap.size + 1, 2, none⟩ = some (.int .i64 1) := HX1.out.1.cell rfl
  go_wp2_with (first
    | ((with_reducible refine (day_no y m 1 HX.out _ (HM.out.below HX1.out.2.2)).mono ?_); rintro e w2 ⟨rfl, rfl⟩; unfold retE)
    | (refine wpList_store_blk rfl 30 (.tmp 2) (.tmp 24) rfl w.heap.size 0 rfl (iv [0, 0]) rfl HX1.out.2.1 2 Tryd.sizeSpan rfl (by simp [iv]) (iv_one _) ?_; intro w3 hst3; have HX3 : Hid (Blk w3 w.heap.size (iv [0, 0]) 30 ∧ Below w.heap.size w w3) := Lib.hid ⟨hst3.1, hst3.below HX1.out.2.2 (by omega)⟩; clear hst3))
  exact ret_span rfl w.heap.size rfl _ rfl HX3.out.1 _ Tryd.underlying30 rfl Tryd.sizeSpan rfl ⟨rfl, HX3.out.2⟩

set_option maxRecDepth 100000 in
set_option maxHeartbeats 1000000 in
theorem period2_yes (y m : Int) (hx : Ex y m 1) (b o c : Nat) (hc : 2 ≤ c) (hm : c ≤ maxLen) (w : World) (hr : ∀ j v, (iv [y, m])[j]? = some v → w.cell? ⟨b, o + j, none⟩ = some v) (hM : MD w) :
    Calls Tryd.prog 68 #[.slice (some ⟨b, o, none⟩) 2 c] w fun e w' => e = retR (num y m 1, num y m (ml y m), 0) ∧ Below w.heap.size w w' := by
  unfold retR
  have hb0 : b < w.heap.size := World.block_lt_of_cell? w ⟨b, o + 0, none⟩ (hr 0 _ rfl)
  have hm' : c ≤ 9223372036854775807 := by unfold maxLen at hm; omega
  have HR := Lib.hid hr
  have HX := Lib.hid hx
  have HM := Lib.hid hM
  have hnb := num_bd hx
  obtain ⟨hy1, hy2, hm1, hm2, _⟩ := hx
  have hlen : num y m 1 + ml y m - 1 = num y m (ml y m) := by unfold num; omega
  have hbd := ml_bd y m
  have HLEN := Lib.hid hlen
  clear hlen
  have HSRC : Hid (∀ W, Below w.heap.size w W → ∀ j v, (iv [y, m])[j]? = some v → W.cell? ⟨b, o + j, none⟩ = some v) := Lib.hid fun W hb j v hv => (hb.cell (p := ⟨b, o + j, none⟩) hb0).trans (hr j v hv)
  clear hr hM
  go_enter Tryd.func68, Tryd.ntmps68
  go_wp2_with (refine wpList_copy_iv rfl (.tmp 9) (.tmp 10) 47 47 rfl 3 Tryd.underlying47 Tryd.sizeInt (w.heap.size + 1) 3 3 b o 2 c rfl rfl (Blk.at _ (iv [1, 1, 1]) _ _ _ rfl (by simp)) (iv [y, m]) rfl (HSRC.out _ (below_al (below_a1 _ _) _)) (by simp [iv]) (iv_one _) ?_; intro w1 hst1; have HX1 : Hid (Blk w1 (w.heap.size + 1) (iv [y, m, 1]) 101 ∧ Blk w1 w.heap.size (iv [0, 0]) 30 ∧ Below w.heap.size w w1) := Lib.hid ⟨hst1.1, hst1.other ((Blk.at w (iv [0, 0]) _ 30 _ rfl rfl).alloc _) (by omega), hst1.below (below_al (below_a1 _ _) _) (by omega)⟩; clear hst1; refine Hid.out ?_)
  refine Lib.hid ?_
  have hc0 : w1.cell? ⟨w.heap.size + 1, 0, none⟩ = some (.int .i64 y) := HX1.out.1.cell rfl
  have hc1 : w1.cell? ⟨w.heap.size + 1, 1, none⟩ = some (.int .i64 m) := HX1.out.1.cell rfl
  have hc2 : w1.cell? ⟨w.heap.size + 1, 2, none⟩ = some (.int .i64 1) := HX1.out.1.cell rfl
  have hs0 : w1.cell? ⟨b, o, none⟩ = some (.int .i64 y) := (HX1.out.2.2.cell (p := ⟨b, o + 0, none⟩) hb0).trans (HR.out 0 _ rfl)
  have hs1 : w1.cell? ⟨b, o + 1, none⟩ = some (.int .i64 m) := (HX1.out.2.2.cell (p := ⟨b, o + 1, none⟩) hb0).trans (HR.out 1 _ rfl)
  have HMQ : Hid (∀ n, Calls Tryd.prog 37 #[.int .i64 y, .int .i64 m] (w1.drewN n) fun e w' => e = .returned (.int .i64 (ml y m)) ∧ w' = w1.drewN n) := Lib.hid fun n => (mlen_any y m hy1 (by omega) hm1 hm2 _ ((HM.out.below HX1.out.2.2).drewN n)).mono fun _ _ ⟨h, h'⟩ => ⟨h, h'.symm⟩
  go_wp2_with ((with_reducible refine (day_yes y m 1 HX.out _ (HM.out.below HX1.out.2.2)).mono ?_); rintro e w2 ⟨rfl, rfl⟩; unfold retE)
  go_quiet ((go_at_call 37; exact Calls.quiet_of_same (HMQ.out _)))
  go_wp2_with (refine wpList_store_blk rfl 30 (.tmp 2) (.tmp 48) rfl w.heap.size 0 rfl (iv [num y m 1, num y m 1 + ml y m - 1]) rfl (HX1.out.2.1.drewN nq) 2 Tryd.sizeSpan rfl (by simp [iv]) (iv_one _) ?_; intro w3 hst3; have HX3 : Hid (Blk w3 w.heap.size (iv [num y m 1, num y m 1 + ml y m - 1]) 30 ∧ Below w.heap.size w w3) := Lib.hid ⟨hst3.1, hst3.below (below_drewN HX1.out.2.2 nq) (by omega)⟩; clear hst3)
  exact ret_span rfl w.heap.size rfl _ rfl HX3.out.1 _ Tryd.underlying30 rfl Tryd.sizeSpan rfl ⟨by rw [← HLEN.out]; rfl, HX3.out.2⟩

set_option maxRecDepth 100000 in
set_option maxHeartbeats 1000000 in
theorem period3_no (y m d : Int) (hx : ¬ Ex y m d) (b o c : Nat) (hc : 3 ≤ c) (hm : c ≤ maxLen) (w : World) (hr : ∀ j v, (iv [y, m, d])[j]? = some v → w.cell? ⟨b, o + j, none⟩ = some v) (hM : MD w) :
    Calls Tryd.prog 68 #[.slice (some ⟨b, o, none⟩) 3 c] w fun e w' => e = retR eRange ∧ Below w.heap.size w w' := by
  unfold retR eRange
  have hb0 : b < w.heap.size := World.block_lt_of_cell? w ⟨b, o + 0, none⟩ (hr 0 _ rfl)
  have hm' : c ≤ 9223372036854775807 := by unfold maxLen at hm; omega
  have HR := Lib.hid hr
  have HX := Lib.hid hx
  have HM := Lib.hid hM
  clear hx
  have HSRC : Hid (∀ W, Below w.heap.size w W → ∀ j v, (iv [y, m, d])[j]? = some v → W.cell? ⟨b, o + j, none⟩ = some v) := Lib.hid fun W hb j v hv => (hb.cell (p := ⟨b, o + j, none⟩) hb0).trans (hr j v hv)
  clear hr hM
  go_enter Tryd.func68, Tryd.ntmps68
  go_wp2_with (refine wpList_copy_iv rfl (.tmp 9) (.tmp 10) 47 47 rfl 3 Tryd.underlying47 Tryd.sizeInt (w.heap.size + 1) 3 3 b o 3 c rfl rfl (Blk.at _ (iv [1, 1, 1]) _ _ _ rfl (by simp)) (iv [y, m, d]) rfl (HSRC.out _ (below_al (below_a1 _ _) _)) (by simp [iv]) (iv_one _) ?_; intro w1 hst1; have HX1 : Hid (Blk w1 (w.heap.size + 1) (iv [y, m, d]) 101 ∧ Blk w1 w.heap.size (iv [0, 0]) 30 ∧ Below w.heap.size w w1) := Lib.hid ⟨hst1.1, hst1.other ((Blk.at w (iv [0, 0]) _ 30 _ rfl rfl).alloc _) (by omega), hst1.below (below_al (below_a1 _ _) _) (by omega)⟩; clear hst1; refine Hid.out ?_)
  refine Lib.hid ?_
  have hc0 : w1.cell? ⟨w.heap.size + 1, 0, none⟩ = some (.int .i64 y) := HX1.out.1.cell rfl
  have hc1 : w1.cell? ⟨w.heap.size + 1, 1, none⟩ = some (.int .i64 m) := HX1.out.1.cell rfl
  have hc2 : w1.cell? ⟨w.heap.size + 1, 2, none⟩ = some (.int .i64 d) := HX1.out.1.cell rfl
  go_wp2_with (first
    | ((with_reducible refine (day_no y m d HX.out _ (HM.out.below HX1.out.2.2)).mono ?_); rintro e w2 ⟨rfl, rfl⟩; unfold retE)
    | (refine wpList_store_blk rfl 30 (.tmp 2) (.tmp 24) rfl w.heap.size 0 rfl (iv [0, 0]) rfl HX1.out.2.1 2 Tryd.sizeSpan rfl (by simp [iv]) (iv_one _) ?_; intro w3 hst3; have HX3 : Hid (Blk w3 w.heap.size (iv [0, 0]) 30 ∧ Below w.heap.size w w3) := Lib.hid ⟨hst3.1, hst3.below HX1.out.2.2 (by omega)⟩; clear hst3))
  exact ret_span rfl w.heap.size rfl _ rfl HX3.out.1 _ Tryd.underlying30 rfl Tryd.sizeSpan rfl ⟨rfl, HX3.out.2⟩

set_option maxRecDepth 100000 in
set_option maxHeartbeats 1000000 in
theorem period3_yes (y m d : Int) (hx : Ex y m d) (b o c : Nat) (hc : 3 ≤ c) (hm : c ≤ maxLen) (w : World) (hr : ∀ j v, (iv [y, m, d])[j]? = some v → w.cell? ⟨b, o + j, none⟩ = some v) (hM : MD w) :
    Calls Tryd.prog 68 #[.slice (some ⟨b, o, none⟩) 3 c] w fun e w' => e = retR (num y m d, num y m d, 0) ∧ Below w.heap.size w w' := by
  unfold retR
  have hb0 : b < w.heap.size := World.block_lt_of_cell? w ⟨b, o + 0, none⟩ (hr 0 _ rfl)
  have hm' : c ≤ 9223372036854775807 := by unfold maxLen at hm; omega
  have HR := Lib.hid hr
  have HX := Lib.hid hx
  have HM := Lib.hid hM
  have hnb := num_bd hx
  have hlen : num y m d + 1 - 1 = num y m d := by omega
  have HLEN := Lib.hid hlen
  clear hlen
  have HSRC : Hid (∀ W, Below w.heap.size w W → ∀ j v, (iv [y, m, d])[j]? = some v → W.cell? ⟨b, o + j, none⟩ = some v) := Lib.hid fun W hb j v hv => (hb.cell (p := ⟨b, o + j, none⟩) hb0).trans (hr j v hv)
  clear hr hM
  go_enter Tryd.func68, Tryd.ntmps68
  go_wp2_with (refine wpList_copy_iv rfl (.tmp 9) (.tmp 10) 47 47 rfl 3 Tryd.underlying47 Tryd.sizeInt (w.heap.size + 1) 3 3 b o 3 c rfl rfl (Blk.at _ (iv [1, 1, 1]) _ _ _ rfl (by simp)) (iv [y, m, d]) rfl (HSRC.out _ (below_al (below_a1 _ _) _)) (by simp [iv]) (iv_one _) ?_; intro w1 hst1; have HX1 : Hid (Blk w1 (w.heap.size + 1) (iv [y, m, d]) 101 ∧ Blk w1 w.heap.size (iv [0, 0]) 30 ∧ Below w.heap.size w w1) := Lib.hid ⟨hst1.1, hst1.other ((Blk.at w (iv [0, 0]) _ 30 _ rfl rfl).alloc _) (by omega), hst1.below (below_al (below_a1 _ _) _) (by omega)⟩; clear hst1; refine Hid.out ?_)
  refine Lib.hid ?_
  have hc0 : w1.cell? ⟨w.heap.size + 1, 0, none⟩ = some (.int .i64 y) := HX1.out.1.cell rfl
  have hc1 : w1.cell? ⟨w.heap.size + 1, 1, none⟩ = some (.int .i64 m) := HX1.out.1.cell rfl
  have hc2 : w1.cell? ⟨w.heap.size + 1, 2, none⟩ = some (.int .i64 d) := HX1.out.1.cell rfl
  go_wp2_with (first
    | ((with_reducible refine (day_yes y m d HX.out _ (HM.out.below HX1.out.2.2)).mono ?_); rintro e w2 ⟨rfl, rfl⟩; unfold retE)
    | (refine wpList_store_blk rfl 30 (.tmp 2) (.tmp 48) rfl w.heap.size 0 rfl (iv [num y m d, num y m d]) rfl HX1.out.2.1 2 Tryd.sizeSpan rfl (by simp [iv]) (iv_one _) ?_; intro w3 hst3; have HX3 : Hid (Blk w3 w.heap.size (iv [num y m d, num y m d]) 30 ∧ Below w.heap.size w w3) := Lib.hid ⟨hst3.1, hst3.below HX1.out.2.2 (by omega)⟩; clear hst3))
  exact ret_span rfl w.heap.size rfl _ rfl HX3.out.1 _ Tryd.underlying30 rfl Tryd.sizeSpan rfl ⟨rfl, HX3.out.2⟩

theorem period_yes (p : List Int) (hx : ExP p) (A : Option Addr) (n c : Nat) (hn : n = p.length) (hc : n ≤ c) (hm : c ≤ maxLen) (w : World) (hr : Rd w A (iv p)) (hM : MD w) :
    Calls Tryd.prog 68 #[.slice A n c] w fun e w' => e = .returned (.tuple #[.agg #[.int .i64 (fst p), .int .i64 (lst p)], .int .i64 0]) ∧ Below w.heap.size w w' := by
  subst hn
  have hl := per_ok hx
  rcases part_cases hx.part with ⟨y, rfl⟩ | ⟨y, m, rfl⟩ | ⟨y, m, d, rfl⟩
  · obtain ⟨b, o, rfl, hcell⟩ := hr.open (by simp [iv])
    have e := fst1 hx
    rw [e.1, e.2]
    exact period1_yes y hx b o c hc hm w hcell hM
  · obtain ⟨b, o, rfl, hcell⟩ := hr.open (by simp [iv])
    have e := fst2 hx
    rw [e.1, e.2]
    exact period2_yes y m hx b o c hc hm w hcell hM
  · obtain ⟨b, o, rfl, hcell⟩ := hr.open (by simp [iv])
    have e := fst3 hx
    rw [e.1, e.2]
    exact period3_yes y m d hx b o c hc hm w hcell hM
theorem period_no (p : List Int) (hp : Part p) (hx : ¬ ExP p) (A : Option Addr) (n c : Nat) (hn : n = p.length) (hc : n ≤ c) (hm : c ≤ maxLen) (w : World) (hr : Rd w A (iv p)) (hM : MD w) :
    Calls Tryd.prog 68 #[.slice A n c] w fun e w' => e = .returned (.tuple #[.agg #[.int .i64 0, .int .i64 0], .int .i64 5]) ∧ Below w.heap.size w w' := by
  subst hn
  rcases part_cases hp with ⟨y, rfl⟩ | ⟨y, m, rfl⟩ | ⟨y, m, d, rfl⟩
  · obtain ⟨b, o, rfl, hcell⟩ := hr.open (by simp [iv])
    exact period1_no y hx b o c hc hm w hcell hM
  · obtain ⟨b, o, rfl, hcell⟩ := hr.open (by simp [iv])
    exact period2_no y m hx b o c hc hm w hcell hM
  · obtain ⟨b, o, rfl, hcell⟩ := hr.open (by simp [iv])
    exact period3_no y m d hx b o c hc hm w hcell hM
end Go.Proofs.YtkaaejfochdjcaaDoor
