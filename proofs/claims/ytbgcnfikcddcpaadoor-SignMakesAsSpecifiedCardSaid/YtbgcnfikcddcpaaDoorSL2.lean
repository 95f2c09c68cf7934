/-
  SignMakesAsSpecified: for all seeds, numbers and messages the law returns true; the two tables of constants are as the program's text lays them (the card ties them).
-/
import Derived.Test.YtbgcnfikcddcpaaDoorSLaw
import Derived.Test.YtbgcnfikcddcpaaDoorSRMake
namespace Go.Proofs.YtbgcnfikcddcpaaDoor
open Go.ChangeShapes Go.WideShapes Go.ChangeAt Go.RowKit Go.ChangeMaps
open Sha Sgn
set_option linter.unusedVariables false
set_option linter.unusedSimpArgs false
namespace SL2
/-- What the law keeps: its two numbers. -/
def NK (w : World) (x y : Int) (W : World) : Prop := Blk W w.heap.size [.int .i64 x, .int .i64 y] 28 ∧ Below w.heap.size w W
theorem NK.next {w W W' : World} {x y : Int} (h : NK w x y W) (hb : Below W.heap.size W W') : NK w x y W' := ⟨h.1.below hb h.1.lt, below_next h.2 hb⟩
theorem NK.cells {w W : World} {x y : Int} (h : NK w x y W) : W.cell? ⟨w.heap.size, 0, none⟩ = some (.int .i64 x) ∧ W.cell? ⟨w.heap.size, 1, none⟩ = some (.int .i64 y) := ⟨h.1.cell rfl, h.1.cell rfl⟩
theorem NK.start (w : World) (x y : Int) : NK w x y (w.alloc (.cells #[.int .i64 x, .int .i64 y] 28)) := ⟨Blk.at w _ _ _ _ rfl rfl, below_a1 _ _⟩
set_option maxRecDepth 100000 in
set_option maxHeartbeats 1000000 in
theorem walk_out (s m : List UInt8) (x y : Int) (ho : 200 < s.length ∨ 200 < m.length ∨ (2 < x ∧ x ≤ 6)) (w : World) (hK : KH w) :
    Calls Tryd.prog 4 #[.string (sb s), .agg #[.int .i64 x, .int .i64 y], .string (sb m)] w fun e w' => e = .returned (.bool true) ∧ Below w.heap.size w w' := by
  have hss := sb_size s
  have hsm := sb_size m
  have H0 := Lib.hid (NK.start w x y)
  have HK := Lib.hid hK; clear hK
  by_cases h1 : 200 < s.length
  · have hd1 : decide ((200 : Int) < (s.length : Int)) = true := by simp; omega
    clear ho h1
    go_enter Tryd.func4, Tryd.ntmps4
    go_wp2_with (go_at_call 9; (with_reducible refine (sanity_any _ ?_).mono ?_); exact (HK.out.of H0.out.2); rintro e x1 ⟨rfl, hb1⟩; have HX1 := Lib.hid (H0.out.next hb1); clear hb1; have hc1 := HX1.out.cells; obtain ⟨hca, hcb⟩ := hc1)
    go_ret
    exact ⟨rfl, HX1.out.2⟩
  · have hd1 : decide ((200 : Int) < (s.length : Int)) = false := by simp; omega
    by_cases h2 : 200 < m.length
    · have hd2 : decide ((200 : Int) < (m.length : Int)) = true := by simp; omega
      clear ho h1 h2
      go_enter Tryd.func4, Tryd.ntmps4
      go_wp2_with (go_at_call 9; (with_reducible refine (sanity_any _ ?_).mono ?_); exact (HK.out.of H0.out.2); rintro e x1 ⟨rfl, hb1⟩; have HX1 := Lib.hid (H0.out.next hb1); clear hb1; have hc1 := HX1.out.cells; obtain ⟨hca, hcb⟩ := hc1)
      go_ret
      exact ⟨rfl, HX1.out.2⟩
    · have hd2 : decide ((200 : Int) < (m.length : Int)) = false := by simp; omega
      have hd3 : decide ((2 : Int) < x) = true := by simp; omega
      have hd4 : decide (x ≤ (6 : Int)) = true := by simp; omega
      clear ho h1 h2
      go_enter Tryd.func4, Tryd.ntmps4
      go_wp2_with (go_at_call 9; (with_reducible refine (sanity_any _ ?_).mono ?_); exact (HK.out.of H0.out.2); rintro e x1 ⟨rfl, hb1⟩; have HX1 := Lib.hid (H0.out.next hb1); clear hb1; have hc1 := HX1.out.cells; obtain ⟨hca, hcb⟩ := hc1)
      go_ret
      exact ⟨rfl, HX1.out.2⟩
set_option maxRecDepth 100000 in
set_option maxHeartbeats 4000000 in
theorem walk_aux (s m : List UInt8) (x y : Int) (hx : x ≤ 2 ∨ 6 < x) (hy : inI y) (hs : s.length ≤ 200) (hm : m.length ≤ 200) (A G Z : List UInt8) (e1 e2 : Int) (hA : A.length = 16) (hZ : Z = dgst A y m)
    (hPU : ∀ W, KH W → Calls Tryd.prog 12 #[.string (sb s), .int .i64 x] W fun e w' => e = retD A e1 ∧ Below W.heap.size W w')
    (hPR : ∀ W, KR W → Calls Tryd.prog 13 #[.string (sb s), .int .i64 x] W fun e w' => e = retD A e1 ∧ Below W.heap.size W w')
    (hSG : ∀ W, KH W → Calls Tryd.prog 14 #[.string (sb s), .int .i64 x, .int .i64 y, .string (sb m)] W fun e w' => e = retS2 G e2 ∧ Below W.heap.size W w')
    (hSR : ∀ W, KR W → Calls Tryd.prog 15 #[.string (sb s), .int .i64 x, .int .i64 y, .string (sb m)] W fun e w' => e = retS2 G e2 ∧ Below W.heap.size W w')
    (w : World) (hK : KH w) (hR : KR w) :
    Calls Tryd.prog 4 #[.string (sb s), .agg #[.int .i64 x, .int .i64 y], .string (sb m)] w fun e w' => e = .returned (.bool true) ∧ Below w.heap.size w w' := by
  have hss := sb_size s
  have hsm := sb_size m
  have hZl : Z.length = 16 := by rw [hZ, dgst_length]
  have H0 := Lib.hid (NK.start w x y)
  have HK := Lib.hid (And.intro hK hR)
  unfold retD at hPU hPR
  unfold retS2 at hSG hSR
  have HPU := Lib.hid hPU
  have HPR := Lib.hid hPR
  have HSG := Lib.hid hSG
  have HSR := Lib.hid hSR
  have HD1 : Hid (∀ W, KH W → Calls Tryd.prog 16 #[.agg (bs A).toArray, .int .i64 y, .string (sb m)] W fun e w' => e = .returned (.agg (bs Z).toArray) ∧ Below W.heap.size W w') := Lib.hid fun W hk => by rw [hZ]; exact dgst_any A m y hA hy (by omega) W hk
  have HD2 : Hid (∀ W, KR W → Calls Tryd.prog 17 #[.agg (bs A).toArray, .int .i64 y, .string (sb m)] W fun e w' => e = .returned (.agg (bs Z).toArray) ∧ Below W.heap.size W w') := Lib.hid fun W hk => by rw [hZ]; exact rdgst_any A m y hA hy (by omega) W hk
  have HEQ : Hid ((∀ W, (Op.equalIn 10000 23 (.agg (bs A).toArray) (.agg (bs A).toArray)).run Tryd.prog W = .ok true W) ∧ ∀ W, (Op.equalIn 10000 23 (.agg (bs Z).toArray) (.agg (bs Z).toArray)).run Tryd.prog W = .ok true W) := Lib.hid ⟨fun W => by rw [eq44 A A hA hA W, (eqB_iff A A).2 rfl], fun W => by rw [eq44 Z Z hZl hZl W, (eqB_iff Z Z).2 rfl]⟩
  have HAL : Hid ((bs A).length = 16) := Lib.hid (by rw [bs_length]; exact hA)
  have hd1 : decide ((200 : Int) < (s.length : Int)) = false := by simp; omega
  have hd2 : decide ((200 : Int) < (m.length : Int)) = false := by simp; omega
  have hsA : (Tryd.prog.info? 23).map (·.size) = some (bs A).length := by rw [HAL.out]; exact Tryd.size44
  have hun := Tryd.underlying23
  clear hK hR hPU hPR hSG hSR hZ hZl hA hs hm hy
  rcases hx with hx | hx
  · have hd3 : decide ((2 : Int) < x) = false := by simp; omega
    clear hx
    go_enter Tryd.func4, Tryd.ntmps4
    go_wp2_with (first
      | (go_at_call 9; (with_reducible refine (sanity_any _ ?_).mono ?_); exact (HK.out.1.of H0.out.2); rintro e x1 ⟨rfl, hb1⟩; have HX1 := Lib.hid (H0.out.next hb1); clear hb1; obtain ⟨hca, hcb⟩ := HX1.out.cells)
      | (go_at_call 12; (with_reducible refine (HPU.out _ ?_).mono ?_); exact (HK.out.1.of HX1.out.2); rintro e x2 ⟨rfl, hb2⟩; have HX2 := Lib.hid (HX1.out.next hb2); clear hb2; obtain ⟨hca, hcb⟩ := HX2.out.cells)
      | (refine wpList_store_blk rfl 23 (.tmp 8) (.tmp 41) rfl x2.heap.size 0 rfl (bs A) rfl (Blk.new' x2 (bs (List.replicate 16 0)) _ 23 rfl) 16 Tryd.size44 HAL.out (by rw [bs_length, List.length_replicate]; omega) (bs_one _) ?_; intro x3 hst3; rw [List.take_zero, List.nil_append, List.drop_of_length_le (by rw [bs_length, List.length_replicate]; omega), List.append_nil] at hst3; have HX3 : Hid (NK w x y x3 ∧ Blk x3 x2.heap.size (bs A) 23) := Lib.hid ⟨⟨hst3.other (HX2.out.1.alloc _) (by have := HX2.out.1.lt; omega), hst3.below (al HX2.out.2 _) HX2.out.2.size⟩, hst3.1⟩; clear hst3; obtain ⟨hca, hcb⟩ := HX3.out.1.cells)
      | (go_at_call 13; (with_reducible refine (HPR.out _ ?_).mono ?_); exact (HK.out.2.of HX3.out.1.2); rintro e x4 ⟨rfl, hb4⟩; have HX4 : Hid (NK w x y x4 ∧ Blk x4 x2.heap.size (bs A) 23) := Lib.hid ⟨HX3.out.1.next hb4, HX3.out.2.below hb4 HX3.out.2.lt⟩; clear hb4; obtain ⟨hca, hcb⟩ := HX4.out.1.cells)
      | (refine wpList_store_blk rfl 23 (.tmp 10) (.tmp 48) rfl x4.heap.size 0 rfl (bs A) rfl (Blk.new' x4 (bs (List.replicate 16 0)) _ 23 rfl) 16 Tryd.size44 HAL.out (by rw [bs_length, List.length_replicate]; omega) (bs_one _) ?_; intro x5 hst5; rw [List.take_zero, List.nil_append, List.drop_of_length_le (by rw [bs_length, List.length_replicate]; omega), List.append_nil] at hst5; have HX5 : Hid (NK w x y x5 ∧ Blk x5 x2.heap.size (bs A) 23 ∧ Blk x5 x4.heap.size (bs A) 23) := Lib.hid ⟨⟨hst5.other (HX4.out.1.1.alloc _) (by have := HX4.out.1.1.lt; omega), hst5.below (al HX4.out.1.2 _) HX4.out.1.2.size⟩, hst5.other (HX4.out.2.alloc _) (by have := HX4.out.2.lt; omega), hst5.1⟩; clear hst5; obtain ⟨hca, hcb⟩ := HX5.out.1.cells)
      | (go_at_call 14; (with_reducible refine (HSG.out _ ?_).mono ?_); exact (HK.out.1.of HX5.out.1.2); rintro e x6 ⟨rfl, hb6⟩; have HX6 : Hid (NK w x y x6 ∧ Blk x6 x2.heap.size (bs A) 23 ∧ Blk x6 x4.heap.size (bs A) 23) := Lib.hid ⟨HX5.out.1.next hb6, HX5.out.2.1.below hb6 HX5.out.2.1.lt, HX5.out.2.2.below hb6 HX5.out.2.2.lt⟩; clear hb6; obtain ⟨hca, hcb⟩ := HX6.out.1.cells)
      | (go_at_call 15; (with_reducible refine (HSR.out _ ?_).mono ?_); exact (HK.out.2.of HX6.out.1.2); rintro e x7 ⟨rfl, hb7⟩; have HX7 : Hid (NK w x y x7 ∧ Blk x7 x2.heap.size (bs A) 23 ∧ Blk x7 x4.heap.size (bs A) 23) := Lib.hid ⟨HX6.out.1.next hb7, HX6.out.2.1.below hb7 HX6.out.2.1.lt, HX6.out.2.2.below hb7 HX6.out.2.2.lt⟩; clear hb7))
    have HRG : Hid (∀ W, Below x7.heap.size x7 W → (W.rangeAt x2.heap.size 0 (bs A) ∧ W.rangeAt x4.heap.size 0 (bs A) ∧ W.cell? ⟨w.heap.size, 1, none⟩ = some (.int .i64 y))) := Lib.hid fun W h => ⟨blk_range (HX7.out.2.1.below h HX7.out.2.1.lt), blk_range (HX7.out.2.2.below h HX7.out.2.2.lt), (HX7.out.1.next h).cells.2⟩
    refine wp_region_held_drew (S := fun w' => w'.rangeAt x2.heap.size 0 (bs A) ∧ w'.rangeAt x4.heap.size 0 (bs A) ∧ w'.cell? ⟨w.heap.size, 1, none⟩ = some (.int .i64 y)) (by kernel_rfl) (HRG.out _ (Below.refl _ _).drew) (fun hS0 => ?_)
    have heq1 := HEQ.out.1
    refine wpAnyH_take (i := 0) (oi := { dst := some 70, op := Op.move (Operand.tmp 7), type := 4, pos := "law.go:61", after := #[], guard := none }) (v := ?_) rfl (by kernel_rfl) (by kernel_rfl) (by kernel_rfl) (fun _ _ _ h => h) (Or.inl ⟨by rfl, ?_⟩) (by assumption) ?_
    rotate_left
    · (intro w' hSw; (try dsimp only at hSw); obtain ⟨_, _, hcy⟩ := hSw; go_simp; try with_reducible rfl)
    try simp only [Act.put, List.setIfInBounds_toArray, List.set_cons_zero, List.set_cons_succ]
    refine wpAnyH_take (i := 1) (oi := { dst := some 71, op := Op.move (Operand.tmp 70), type := 4, pos := "law.go:61", after := #[{ on := 0, ground := Ground.data }], guard := none }) (v := ?_) rfl (by kernel_rfl) (by kernel_rfl) (by kernel_rfl) (fun _ _ _ h => h) (Or.inl ⟨by rfl, ?_⟩) (by assumption) ?_
    rotate_left
    · (intro w' hSw; (try dsimp only at hSw); obtain ⟨_, _, hcy⟩ := hSw; go_simp; try with_reducible rfl)
    try simp only [Act.put, List.setIfInBounds_toArray, List.set_cons_zero, List.set_cons_succ]
    refine wpAnyH_take (i := 2) (oi := { dst := some 72, op := Op.load 23 (Operand.tmp 8), type := 23, pos := "law.go:61", after := #[{ on := 1, ground := Ground.guard }], guard := some (1, true) }) (v := _) rfl (by kernel_rfl) (by kernel_rfl) (by kernel_rfl) (fun _ _ _ h => h) (yieldsIf_load_mid (by rfl) _ _ rfl _ _ rfl _ _ (fun w h => h.1) hun rfl hsA) (by assumption) ?_
    try simp only [Act.put, List.setIfInBounds_toArray, List.set_cons_zero, List.set_cons_succ]
    refine wpAnyH_take (i := 3) (oi := { dst := some 73, op := Op.load 23 (Operand.tmp 10), type := 23, pos := "law.go:61", after := #[{ on := 1, ground := Ground.guard }], guard := some (1, true) }) (v := _) rfl (by kernel_rfl) (by kernel_rfl) (by kernel_rfl) (fun _ _ _ h => h) (yieldsIf_load_mid (by rfl) _ _ rfl _ _ rfl _ _ (fun w h => h.2.1) hun rfl hsA) (by assumption) ?_
    try simp only [Act.put, List.setIfInBounds_toArray, List.set_cons_zero, List.set_cons_succ]
    refine wpAnyH_take (i := 4) (oi := { dst := some 74, op := Op.binOp BinOp.eql 23 (Operand.tmp 72) (Operand.tmp 73) 23, type := 4, pos := "law.go:61", after := #[{ on := 2, ground := Ground.data }, { on := 3, ground := Ground.data }, { on := 1, ground := Ground.guard }], guard := some (1, true) }) (v := ?_) rfl (by kernel_rfl) (by kernel_rfl) (by kernel_rfl) (fun _ _ _ h => h) (Or.inl ⟨by rfl, ?_⟩) (by assumption) ?_
    rotate_left
    · (intro w' hSw; (try dsimp only at hSw); obtain ⟨_, _, hcy⟩ := hSw; go_simp; try with_reducible rfl)
    try simp only [Act.put, List.setIfInBounds_toArray, List.set_cons_zero, List.set_cons_succ]
    refine wpAnyH_take (i := 5) (oi := { dst := some 75, op := Op.pick (Operand.tmp 71) (Operand.tmp 74) (Operand.const (Value.bool false)), type := 4, pos := "law.go:61", after := #[{ on := 1, ground := Ground.data }, { on := 4, ground := Ground.data }], guard := none }) (v := ?_) rfl (by kernel_rfl) (by kernel_rfl) (by kernel_rfl) (fun _ _ _ h => h) (Or.inl ⟨by rfl, ?_⟩) (by assumption) ?_
    rotate_left
    · (intro w' hSw; (try dsimp only at hSw); obtain ⟨_, _, hcy⟩ := hSw; go_simp; try with_reducible rfl)
    try simp only [Act.put, List.setIfInBounds_toArray, List.set_cons_zero, List.set_cons_succ]
    refine wpAnyH_take (i := 6) (oi := { dst := some 76, op := Op.move (Operand.tmp 75), type := 4, pos := "law.go:61", after := #[{ on := 5, ground := Ground.data }, { on := 1, ground := Ground.chain }], guard := none }) (v := ?_) rfl (by kernel_rfl) (by kernel_rfl) (by kernel_rfl) (fun _ _ _ h => h) (Or.inl ⟨by rfl, ?_⟩) (by assumption) ?_
    rotate_left
    · (intro w' hSw; (try dsimp only at hSw); obtain ⟨_, _, hcy⟩ := hSw; go_simp; try with_reducible rfl)
    try simp only [Act.put, List.setIfInBounds_toArray, List.set_cons_zero, List.set_cons_succ]
    refine wpAnyH_take (i := 7) (oi := { dst := some 77, op := Op.move (Operand.tmp 9), type := 29, pos := "law.go:61", after := #[{ on := 6, ground := Ground.guard }], guard := some (6, true) }) (v := ?_) rfl (by kernel_rfl) (by kernel_rfl) (by kernel_rfl) (fun _ _ _ h => h) (Or.inl ⟨by rfl, ?_⟩) (by assumption) ?_
    rotate_left
    · (intro w' hSw; (try dsimp only at hSw); obtain ⟨_, _, hcy⟩ := hSw; go_simp; try with_reducible rfl)
    try simp only [Act.put, List.setIfInBounds_toArray, List.set_cons_zero, List.set_cons_succ]
    refine wpAnyH_take (i := 8) (oi := { dst := some 78, op := Op.move (Operand.tmp 11), type := 29, pos := "law.go:61", after := #[{ on := 6, ground := Ground.guard }], guard := some (6, true) }) (v := ?_) rfl (by kernel_rfl) (by kernel_rfl) (by kernel_rfl) (fun _ _ _ h => h) (Or.inl ⟨by rfl, ?_⟩) (by assumption) ?_
    rotate_left
    · (intro w' hSw; (try dsimp only at hSw); obtain ⟨_, _, hcy⟩ := hSw; go_simp; try with_reducible rfl)
    try simp only [Act.put, List.setIfInBounds_toArray, List.set_cons_zero, List.set_cons_succ]
    refine wpAnyH_take (i := 9) (oi := { dst := some 79, op := Op.binOp BinOp.eql 29 (Operand.tmp 77) (Operand.tmp 78) 29, type := 4, pos := "law.go:61", after := #[{ on := 7, ground := Ground.data }, { on := 8, ground := Ground.data }, { on := 6, ground := Ground.guard }], guard := some (6, true) }) (v := ?_) rfl (by kernel_rfl) (by kernel_rfl) (by kernel_rfl) (fun _ _ _ h => h) (Or.inl ⟨by rfl, ?_⟩) (by assumption) ?_
    rotate_left
    · (intro w' hSw; (try dsimp only at hSw); obtain ⟨_, _, hcy⟩ := hSw; go_simp; try with_reducible rfl)
    try simp only [Act.put, List.setIfInBounds_toArray, List.set_cons_zero, List.set_cons_succ]
    refine wpAnyH_take (i := 10) (oi := { dst := some 80, op := Op.pick (Operand.tmp 76) (Operand.tmp 79) (Operand.const (Value.bool false)), type := 4, pos := "law.go:61", after := #[{ on := 6, ground := Ground.data }, { on := 9, ground := Ground.data }], guard := none }) (v := ?_) rfl (by kernel_rfl) (by kernel_rfl) (by kernel_rfl) (fun _ _ _ h => h) (Or.inl ⟨by rfl, ?_⟩) (by assumption) ?_
    rotate_left
    · (intro w' hSw; (try dsimp only at hSw); obtain ⟨_, _, hcy⟩ := hSw; go_simp; try with_reducible rfl)
    try simp only [Act.put, List.setIfInBounds_toArray, List.set_cons_zero, List.set_cons_succ]
    refine wpAnyH_take (i := 11) (oi := { dst := some 81, op := Op.move (Operand.tmp 80), type := 4, pos := "law.go:61", after := #[{ on := 10, ground := Ground.data }, { on := 6, ground := Ground.chain }], guard := none }) (v := ?_) rfl (by kernel_rfl) (by kernel_rfl) (by kernel_rfl) (fun _ _ _ h => h) (Or.inl ⟨by rfl, ?_⟩) (by assumption) ?_
    rotate_left
    · (intro w' hSw; (try dsimp only at hSw); obtain ⟨_, _, hcy⟩ := hSw; go_simp; try with_reducible rfl)
    try simp only [Act.put, List.setIfInBounds_toArray, List.set_cons_zero, List.set_cons_succ]
    refine wpAnyH_take (i := 12) (oi := { dst := some 82, op := Op.move (Operand.tmp 12), type := 9, pos := "law.go:61", after := #[{ on := 11, ground := Ground.guard }], guard := some (11, true) }) (v := ?_) rfl (by kernel_rfl) (by kernel_rfl) (by kernel_rfl) (fun _ _ _ h => h) (Or.inl ⟨by rfl, ?_⟩) (by assumption) ?_
    rotate_left
    · (intro w' hSw; (try dsimp only at hSw); obtain ⟨_, _, hcy⟩ := hSw; go_simp; try with_reducible rfl)
    try simp only [Act.put, List.setIfInBounds_toArray, List.set_cons_zero, List.set_cons_succ]
    refine wpAnyH_take (i := 13) (oi := { dst := some 83, op := Op.move (Operand.tmp 14), type := 9, pos := "law.go:61", after := #[{ on := 11, ground := Ground.guard }], guard := some (11, true) }) (v := ?_) rfl (by kernel_rfl) (by kernel_rfl) (by kernel_rfl) (fun _ _ _ h => h) (Or.inl ⟨by rfl, ?_⟩) (by assumption) ?_
    rotate_left
    · (intro w' hSw; (try dsimp only at hSw); obtain ⟨_, _, hcy⟩ := hSw; go_simp; try with_reducible rfl)
    try simp only [Act.put, List.setIfInBounds_toArray, List.set_cons_zero, List.set_cons_succ]
    refine wpAnyH_take (i := 14) (oi := { dst := some 84, op := Op.binOp BinOp.eql 9 (Operand.tmp 82) (Operand.tmp 83) 9, type := 4, pos := "law.go:61", after := #[{ on := 12, ground := Ground.data }, { on := 13, ground := Ground.data }, { on := 11, ground := Ground.guard }], guard := some (11, true) }) (v := ?_) rfl (by kernel_rfl) (by kernel_rfl) (by kernel_rfl) (fun _ _ _ h => h) (Or.inl ⟨by rfl, ?_⟩) (by assumption) ?_
    rotate_left
    · (intro w' hSw; (try dsimp only at hSw); obtain ⟨_, _, hcy⟩ := hSw; go_simp; try with_reducible rfl)
    try simp only [Act.put, List.setIfInBounds_toArray, List.set_cons_zero, List.set_cons_succ]
    refine wpAnyH_take (i := 15) (oi := { dst := some 85, op := Op.pick (Operand.tmp 81) (Operand.tmp 84) (Operand.const (Value.bool false)), type := 4, pos := "law.go:61", after := #[{ on := 11, ground := Ground.data }, { on := 14, ground := Ground.data }], guard := none }) (v := ?_) rfl (by kernel_rfl) (by kernel_rfl) (by kernel_rfl) (fun _ _ _ h => h) (Or.inl ⟨by rfl, ?_⟩) (by assumption) ?_
    rotate_left
    · (intro w' hSw; (try dsimp only at hSw); obtain ⟨_, _, hcy⟩ := hSw; go_simp; try with_reducible rfl)
    try simp only [Act.put, List.setIfInBounds_toArray, List.set_cons_zero, List.set_cons_succ]
    refine wpAnyH_take (i := 16) (oi := { dst := some 86, op := Op.move (Operand.tmp 85), type := 4, pos := "law.go:61", after := #[{ on := 15, ground := Ground.data }, { on := 11, ground := Ground.chain }], guard := none }) (v := ?_) rfl (by kernel_rfl) (by kernel_rfl) (by kernel_rfl) (fun _ _ _ h => h) (Or.inl ⟨by rfl, ?_⟩) (by assumption) ?_
    rotate_left
    · (intro w' hSw; (try dsimp only at hSw); obtain ⟨_, _, hcy⟩ := hSw; go_simp; try with_reducible rfl)
    try simp only [Act.put, List.setIfInBounds_toArray, List.set_cons_zero, List.set_cons_succ]
    refine wpAnyH_take (i := 17) (oi := { dst := some 87, op := Op.move (Operand.tmp 13), type := 29, pos := "law.go:61", after := #[{ on := 16, ground := Ground.guard }], guard := some (16, true) }) (v := ?_) rfl (by kernel_rfl) (by kernel_rfl) (by kernel_rfl) (fun _ _ _ h => h) (Or.inl ⟨by rfl, ?_⟩) (by assumption) ?_
    rotate_left
    · (intro w' hSw; (try dsimp only at hSw); obtain ⟨_, _, hcy⟩ := hSw; go_simp; try with_reducible rfl)
    try simp only [Act.put, List.setIfInBounds_toArray, List.set_cons_zero, List.set_cons_succ]
    refine wpAnyH_take (i := 18) (oi := { dst := some 88, op := Op.move (Operand.tmp 15), type := 29, pos := "law.go:61", after := #[{ on := 16, ground := Ground.guard }], guard := some (16, true) }) (v := ?_) rfl (by kernel_rfl) (by kernel_rfl) (by kernel_rfl) (fun _ _ _ h => h) (Or.inl ⟨by rfl, ?_⟩) (by assumption) ?_
    rotate_left
    · (intro w' hSw; (try dsimp only at hSw); obtain ⟨_, _, hcy⟩ := hSw; go_simp; try with_reducible rfl)
    try simp only [Act.put, List.setIfInBounds_toArray, List.set_cons_zero, List.set_cons_succ]
    refine wpAnyH_take (i := 19) (oi := { dst := some 89, op := Op.binOp BinOp.eql 29 (Operand.tmp 87) (Operand.tmp 88) 29, type := 4, pos := "law.go:61", after := #[{ on := 17, ground := Ground.data }, { on := 18, ground := Ground.data }, { on := 16, ground := Ground.guard }], guard := some (16, true) }) (v := ?_) rfl (by kernel_rfl) (by kernel_rfl) (by kernel_rfl) (fun _ _ _ h => h) (Or.inl ⟨by rfl, ?_⟩) (by assumption) ?_
    rotate_left
    · (intro w' hSw; (try dsimp only at hSw); obtain ⟨_, _, hcy⟩ := hSw; go_simp; try with_reducible rfl)
    try simp only [Act.put, List.setIfInBounds_toArray, List.set_cons_zero, List.set_cons_succ]
    refine wpAnyH_take (i := 20) (oi := { dst := some 90, op := Op.pick (Operand.tmp 86) (Operand.tmp 89) (Operand.const (Value.bool false)), type := 4, pos := "law.go:61", after := #[{ on := 16, ground := Ground.data }, { on := 19, ground := Ground.data }], guard := none }) (v := ?_) rfl (by kernel_rfl) (by kernel_rfl) (by kernel_rfl) (fun _ _ _ h => h) (Or.inl ⟨by rfl, ?_⟩) (by assumption) ?_
    rotate_left
    · (intro w' hSw; (try dsimp only at hSw); obtain ⟨_, _, hcy⟩ := hSw; go_simp; try with_reducible rfl)
    try simp only [Act.put, List.setIfInBounds_toArray, List.set_cons_zero, List.set_cons_succ]
    refine wpAnyH_take (i := 21) (oi := { dst := some 91, op := Op.move (Operand.tmp 90), type := 4, pos := "law.go:61", after := #[{ on := 20, ground := Ground.data }, { on := 16, ground := Ground.chain }], guard := none }) (v := ?_) rfl (by kernel_rfl) (by kernel_rfl) (by kernel_rfl) (fun _ _ _ h => h) (Or.inl ⟨by rfl, ?_⟩) (by assumption) ?_
    rotate_left
    · (intro w' hSw; (try dsimp only at hSw); obtain ⟨_, _, hcy⟩ := hSw; go_simp; try with_reducible rfl)
    try simp only [Act.put, List.setIfInBounds_toArray, List.set_cons_zero, List.set_cons_succ]
    refine wpAnyH_take (i := 22) (oi := { dst := some 92, op := Op.load 23 (Operand.tmp 8), type := 23, pos := "law.go:61", after := #[{ on := 21, ground := Ground.guard }], guard := some (21, true) }) (v := _) rfl (by kernel_rfl) (by kernel_rfl) (by kernel_rfl) (fun _ _ _ h => h) (yieldsIf_load_mid (by rfl) _ _ rfl _ _ rfl _ _ (fun w h => h.1) hun rfl hsA) (by assumption) ?_
    try simp only [Act.put, List.setIfInBounds_toArray, List.set_cons_zero, List.set_cons_succ]
    refine wpAnyH_take (i := 23) (oi := { dst := some 93, op := Op.indexAddr 28 (Operand.tmp 4) (Operand.const (Value.int IntKind.i64 1)), type := 0, pos := "law.go:61", after := #[{ on := 21, ground := Ground.guard }], guard := some (21, true) }) (v := ?_) rfl (by kernel_rfl) (by kernel_rfl) (by kernel_rfl) (fun _ _ _ h => h) (Or.inl ⟨by rfl, ?_⟩) (by assumption) ?_
    rotate_left
    · (intro w' hSw; (try dsimp only at hSw); obtain ⟨_, _, hcy⟩ := hSw; go_simp; try with_reducible rfl)
    try simp only [Act.put, List.setIfInBounds_toArray, List.set_cons_zero, List.set_cons_succ]
    refine wpAnyH_take (i := 24) (oi := { dst := some 94, op := Op.load 3 (Operand.tmp 93), type := 3, pos := "law.go:61", after := #[{ on := 23, ground := Ground.data }, { on := 21, ground := Ground.guard }], guard := some (21, true) }) (v := ?_) rfl (by kernel_rfl) (by kernel_rfl) (by kernel_rfl) (fun _ _ _ h => h) (Or.inl ⟨by rfl, ?_⟩) (by assumption) ?_
    rotate_left
    · (intro w' hSw; (try dsimp only at hSw); obtain ⟨_, _, hcy⟩ := hSw; go_simp; try with_reducible rfl)
    try simp only [Act.put, List.setIfInBounds_toArray, List.set_cons_zero, List.set_cons_succ]
    refine wpAnyH_take (i := 25) (oi := { dst := some 95, op := Op.move (Operand.tmp 2), type := 9, pos := "law.go:61", after := #[{ on := 21, ground := Ground.guard }], guard := some (21, true) }) (v := ?_) rfl (by kernel_rfl) (by kernel_rfl) (by kernel_rfl) (fun _ _ _ h => h) (Or.inl ⟨by rfl, ?_⟩) (by assumption) ?_
    rotate_left
    · (intro w' hSw; (try dsimp only at hSw); obtain ⟨_, _, hcy⟩ := hSw; go_simp; try with_reducible rfl)
    try simp only [Act.put, List.setIfInBounds_toArray, List.set_cons_zero, List.set_cons_succ]
    refine wpAnyH_take (i := 27) (oi := { dst := some 97, op := Op.load 23 (Operand.tmp 8), type := 23, pos := "law.go:61", after := #[{ on := 21, ground := Ground.guard }], guard := some (21, true) }) (v := _) rfl (by kernel_rfl) (by kernel_rfl) (by kernel_rfl) (fun _ _ _ h => h) (yieldsIf_load_mid (by rfl) _ _ rfl _ _ rfl _ _ (fun w h => h.1) hun rfl hsA) (by assumption) ?_
    try simp only [Act.put, List.setIfInBounds_toArray, List.set_cons_zero, List.set_cons_succ]
    refine wpAnyH_take (i := 28) (oi := { dst := some 98, op := Op.indexAddr 28 (Operand.tmp 4) (Operand.const (Value.int IntKind.i64 1)), type := 0, pos := "law.go:61", after := #[{ on := 21, ground := Ground.guard }], guard := some (21, true) }) (v := ?_) rfl (by kernel_rfl) (by kernel_rfl) (by kernel_rfl) (fun _ _ _ h => h) (Or.inl ⟨by rfl, ?_⟩) (by assumption) ?_
    rotate_left
    · (intro w' hSw; (try dsimp only at hSw); obtain ⟨_, _, hcy⟩ := hSw; go_simp; try with_reducible rfl)
    try simp only [Act.put, List.setIfInBounds_toArray, List.set_cons_zero, List.set_cons_succ]
    refine wpAnyH_take (i := 29) (oi := { dst := some 99, op := Op.load 3 (Operand.tmp 98), type := 3, pos := "law.go:61", after := #[{ on := 28, ground := Ground.data }, { on := 21, ground := Ground.guard }], guard := some (21, true) }) (v := ?_) rfl (by kernel_rfl) (by kernel_rfl) (by kernel_rfl) (fun _ _ _ h => h) (Or.inl ⟨by rfl, ?_⟩) (by assumption) ?_
    rotate_left
    · (intro w' hSw; (try dsimp only at hSw); obtain ⟨_, _, hcy⟩ := hSw; go_simp; try with_reducible rfl)
    try simp only [Act.put, List.setIfInBounds_toArray, List.set_cons_zero, List.set_cons_succ]
    refine wpAnyH_take (i := 30) (oi := { dst := some 100, op := Op.move (Operand.tmp 2), type := 9, pos := "law.go:61", after := #[{ on := 21, ground := Ground.guard }], guard := some (21, true) }) (v := ?_) rfl (by kernel_rfl) (by kernel_rfl) (by kernel_rfl) (fun _ _ _ h => h) (Or.inl ⟨by rfl, ?_⟩) (by assumption) ?_
    rotate_left
    · (intro w' hSw; (try dsimp only at hSw); obtain ⟨_, _, hcy⟩ := hSw; go_simp; try with_reducible rfl)
    try simp only [Act.put, List.setIfInBounds_toArray, List.set_cons_zero, List.set_cons_succ]
    refine wpAnyH_ready (rs := [26]) (by kernel_rfl) (by simp) ?_
    refine AllReadyH.cons (o := { dst := some 96, op := Op.call { callee := Callee.value (Operand.func 16), args := #[Operand.tmp 92, Operand.tmp 94, Operand.tmp 95], argTypes := #[23, 3, 9] }, type := 23, pos := "law.go:61", after := #[{ on := 22, ground := Ground.data }, { on := 24, ground := Ground.data }, { on := 25, ground := Ground.data }, { on := 21, ground := Ground.chain }, { on := 21, ground := Ground.guard }], guard := some (21, true) }) rfl (fun K hK => ?_) AllReadyH.nil
    go_simp
    go_at_call 16
    refine (HD1.out _ (HK.out.1.of HX7.out.1.2.drew)).mono ?_
    rintro e y1 ⟨rfl, hb1⟩
    have HY1 : Hid (Below w.heap.size w y1 ∧ Below x7.heap.size x7 y1) := Lib.hid ⟨below_next HX7.out.1.2.drew hb1, below_next (w := x7.drew) (Below.refl _ _).drew hb1⟩
    clear hb1
    refine hK _ _ (HRG.out _ HY1.out.2) (fun hS1 => ?_)
    clear hK K hS0
    try simp only [Act.put, List.setIfInBounds_toArray, List.set_cons_zero, List.set_cons_succ]
    refine wpAnyH_ready (rs := [31]) (by kernel_rfl) (by simp) ?_
    refine AllReadyH.cons (o := { dst := some 101, op := Op.call { callee := Callee.value (Operand.func 17), args := #[Operand.tmp 97, Operand.tmp 99, Operand.tmp 100], argTypes := #[23, 3, 9] }, type := 23, pos := "law.go:61", after := #[{ on := 27, ground := Ground.data }, { on := 29, ground := Ground.data }, { on := 30, ground := Ground.data }, { on := 26, ground := Ground.chain }, { on := 21, ground := Ground.guard }], guard := some (21, true) }) rfl (fun K hK => ?_) AllReadyH.nil
    go_simp
    go_at_call 17
    refine (HD2.out _ (HK.out.2.of HY1.out.1)).mono ?_
    rintro e y2 ⟨rfl, hb2⟩
    have HY2 : Hid (Below w.heap.size w y2 ∧ Below x7.heap.size x7 y2) := Lib.hid ⟨below_next HY1.out.1 hb2, below_next HY1.out.2 hb2⟩
    clear hb2
    refine hK _ _ (HRG.out _ HY2.out.2) (fun hS2 => ?_)
    clear hK K hS1
    try simp only [Act.put, List.setIfInBounds_toArray, List.set_cons_zero, List.set_cons_succ]
    have heq2 := HEQ.out.2
    refine wpAnyH_take (i := 32) (oi := { dst := some 102, op := Op.binOp BinOp.eql 23 (Operand.tmp 96) (Operand.tmp 101) 23, type := 4, pos := "law.go:61", after := #[{ on := 26, ground := Ground.data }, { on := 31, ground := Ground.data }, { on := 21, ground := Ground.guard }], guard := some (21, true) }) (v := ?_) rfl (by kernel_rfl) (by kernel_rfl) (by kernel_rfl) (fun _ _ _ h => h) (Or.inl ⟨by rfl, ?_⟩) (by assumption) ?_
    rotate_left
    · (intro w' hSw; (try dsimp only at hSw); obtain ⟨_, _, hcy⟩ := hSw; go_simp; try with_reducible rfl)
    try simp only [Act.put, List.setIfInBounds_toArray, List.set_cons_zero, List.set_cons_succ]
    refine wpAnyH_take (i := 33) (oi := { dst := some 103, op := Op.pick (Operand.tmp 91) (Operand.tmp 102) (Operand.const (Value.bool false)), type := 4, pos := "law.go:61", after := #[{ on := 21, ground := Ground.data }, { on := 32, ground := Ground.data }], guard := none }) (v := ?_) rfl (by kernel_rfl) (by kernel_rfl) (by kernel_rfl) (fun _ _ _ h => h) (Or.inl ⟨by rfl, ?_⟩) (by assumption) ?_
    rotate_left
    · (intro w' hSw; (try dsimp only at hSw); obtain ⟨_, _, hcy⟩ := hSw; go_simp; try with_reducible rfl)
    try simp only [Act.put, List.setIfInBounds_toArray, List.set_cons_zero, List.set_cons_succ]
    refine wpAnyH_take (i := 34) (oi := { dst := some 6, op := Op.assign (Operand.tmp 103), type := 4, pos := "law.go:61", after := #[{ on := 33, ground := Ground.data }, { on := 31, ground := Ground.chain }, { on := 0, ground := Ground.phase }, { on := 1, ground := Ground.phase }, { on := 2, ground := Ground.phase }, { on := 3, ground := Ground.phase }, { on := 4, ground := Ground.phase }, { on := 5, ground := Ground.phase }, { on := 6, ground := Ground.phase }, { on := 7, ground := Ground.phase }, { on := 8, ground := Ground.phase }, { on := 9, ground := Ground.phase }, { on := 10, ground := Ground.phase }, { on := 11, ground := Ground.phase }, { on := 12, ground := Ground.phase }, { on := 13, ground := Ground.phase }, { on := 14, ground := Ground.phase }, { on := 15, ground := Ground.phase }, { on := 16, ground := Ground.phase }, { on := 17, ground := Ground.phase }, { on := 18, ground := Ground.phase }, { on := 19, ground := Ground.phase }, { on := 20, ground := Ground.phase }, { on := 21, ground := Ground.phase }, { on := 22, ground := Ground.phase }, { on := 23, ground := Ground.phase }, { on := 24, ground := Ground.phase }, { on := 25, ground := Ground.phase }, { on := 26, ground := Ground.phase }, { on := 27, ground := Ground.phase }, { on := 28, ground := Ground.phase }, { on := 29, ground := Ground.phase }, { on := 30, ground := Ground.phase }, { on := 31, ground := Ground.phase }, { on := 32, ground := Ground.phase }, { on := 33, ground := Ground.phase }], guard := none }) (v := ?_) rfl (by kernel_rfl) (by kernel_rfl) (by kernel_rfl) (fun _ _ _ h => h) (Or.inl ⟨by rfl, ?_⟩) (by assumption) ?_
    rotate_left
    · (intro w' hSw; (try dsimp only at hSw); obtain ⟨_, _, hcy⟩ := hSw; go_simp; try with_reducible rfl)
    try simp only [Act.put, List.setIfInBounds_toArray, List.set_cons_zero, List.set_cons_succ]
    refine wpAnyH_done (by kernel_rfl) ?_ _
    go_wp2_with fail
    go_ret
    exact ⟨rfl, HY2.out.1⟩
  · have hd3 : decide ((2 : Int) < x) = true := by simp; omega
    have hd4 : decide (x ≤ (6 : Int)) = false := by simp; omega
    clear hx
    go_enter Tryd.func4, Tryd.ntmps4
    go_wp2_with (first
      | (go_at_call 9; (with_reducible refine (sanity_any _ ?_).mono ?_); exact (HK.out.1.of H0.out.2); rintro e x1 ⟨rfl, hb1⟩; have HX1 := Lib.hid (H0.out.next hb1); clear hb1; obtain ⟨hca, hcb⟩ := HX1.out.cells)
      | (go_at_call 12; (with_reducible refine (HPU.out _ ?_).mono ?_); exact (HK.out.1.of HX1.out.2); rintro e x2 ⟨rfl, hb2⟩; have HX2 := Lib.hid (HX1.out.next hb2); clear hb2; obtain ⟨hca, hcb⟩ := HX2.out.cells)
      | (refine wpList_store_blk rfl 23 (.tmp 8) (.tmp 41) rfl x2.heap.size 0 rfl (bs A) rfl (Blk.new' x2 (bs (List.replicate 16 0)) _ 23 rfl) 16 Tryd.size44 HAL.out (by rw [bs_length, List.length_replicate]; omega) (bs_one _) ?_; intro x3 hst3; rw [List.take_zero, List.nil_append, List.drop_of_length_le (by rw [bs_length, List.length_replicate]; omega), List.append_nil] at hst3; have HX3 : Hid (NK w x y x3 ∧ Blk x3 x2.heap.size (bs A) 23) := Lib.hid ⟨⟨hst3.other (HX2.out.1.alloc _) (by have := HX2.out.1.lt; omega), hst3.below (al HX2.out.2 _) HX2.out.2.size⟩, hst3.1⟩; clear hst3; obtain ⟨hca, hcb⟩ := HX3.out.1.cells)
      | (go_at_call 13; (with_reducible refine (HPR.out _ ?_).mono ?_); exact (HK.out.2.of HX3.out.1.2); rintro e x4 ⟨rfl, hb4⟩; have HX4 : Hid (NK w x y x4 ∧ Blk x4 x2.heap.size (bs A) 23) := Lib.hid ⟨HX3.out.1.next hb4, HX3.out.2.below hb4 HX3.out.2.lt⟩; clear hb4; obtain ⟨hca, hcb⟩ := HX4.out.1.cells)
      | (refine wpList_store_blk rfl 23 (.tmp 10) (.tmp 48) rfl x4.heap.size 0 rfl (bs A) rfl (Blk.new' x4 (bs (List.replicate 16 0)) _ 23 rfl) 16 Tryd.size44 HAL.out (by rw [bs_length, List.length_replicate]; omega) (bs_one _) ?_; intro x5 hst5; rw [List.take_zero, List.nil_append, List.drop_of_length_le (by rw [bs_length, List.length_replicate]; omega), List.append_nil] at hst5; have HX5 : Hid (NK w x y x5 ∧ Blk x5 x2.heap.size (bs A) 23 ∧ Blk x5 x4.heap.size (bs A) 23) := Lib.hid ⟨⟨hst5.other (HX4.out.1.1.alloc _) (by have := HX4.out.1.1.lt; omega), hst5.below (al HX4.out.1.2 _) HX4.out.1.2.size⟩, hst5.other (HX4.out.2.alloc _) (by have := HX4.out.2.lt; omega), hst5.1⟩; clear hst5; obtain ⟨hca, hcb⟩ := HX5.out.1.cells)
      | (go_at_call 14; (with_reducible refine (HSG.out _ ?_).mono ?_); exact (HK.out.1.of HX5.out.1.2); rintro e x6 ⟨rfl, hb6⟩; have HX6 : Hid (NK w x y x6 ∧ Blk x6 x2.heap.size (bs A) 23 ∧ Blk x6 x4.heap.size (bs A) 23) := Lib.hid ⟨HX5.out.1.next hb6, HX5.out.2.1.below hb6 HX5.out.2.1.lt, HX5.out.2.2.below hb6 HX5.out.2.2.lt⟩; clear hb6; obtain ⟨hca, hcb⟩ := HX6.out.1.cells)
      | (go_at_call 15; (with_reducible refine (HSR.out _ ?_).mono ?_); exact (HK.out.2.of HX6.out.1.2); rintro e x7 ⟨rfl, hb7⟩; have HX7 : Hid (NK w x y x7 ∧ Blk x7 x2.heap.size (bs A) 23 ∧ Blk x7 x4.heap.size (bs A) 23) := Lib.hid ⟨HX6.out.1.next hb7, HX6.out.2.1.below hb7 HX6.out.2.1.lt, HX6.out.2.2.below hb7 HX6.out.2.2.lt⟩; clear hb7))
    have HRG : Hid (∀ W, Below x7.heap.size x7 W → (W.rangeAt x2.heap.size 0 (bs A) ∧ W.rangeAt x4.heap.size 0 (bs A) ∧ W.cell? ⟨w.heap.size, 1, none⟩ = some (.int .i64 y))) := Lib.hid fun W h => ⟨blk_range (HX7.out.2.1.below h HX7.out.2.1.lt), blk_range (HX7.out.2.2.below h HX7.out.2.2.lt), (HX7.out.1.next h).cells.2⟩
    refine wp_region_held_drew (S := fun w' => w'.rangeAt x2.heap.size 0 (bs A) ∧ w'.rangeAt x4.heap.size 0 (bs A) ∧ w'.cell? ⟨w.heap.size, 1, none⟩ = some (.int .i64 y)) (by kernel_rfl) (HRG.out _ (Below.refl _ _).drew) (fun hS0 => ?_)
    have heq1 := HEQ.out.1
    refine wpAnyH_take (i := 0) (oi := { dst := some 70, op := Op.move (Operand.tmp 7), type := 4, pos := "law.go:61", after := #[], guard := none }) (v := ?_) rfl (by kernel_rfl) (by kernel_rfl) (by kernel_rfl) (fun _ _ _ h => h) (Or.inl ⟨by rfl, ?_⟩) (by assumption) ?_
    rotate_left
    · (intro w' hSw; (try dsimp only at hSw); obtain ⟨_, _, hcy⟩ := hSw; go_simp; try with_reducible rfl)
    try simp only [Act.put, List.setIfInBounds_toArray, List.set_cons_zero, List.set_cons_succ]
    refine wpAnyH_take (i := 1) (oi := { dst := some 71, op := Op.move (Operand.tmp 70), type := 4, pos := "law.go:61", after := #[{ on := 0, ground := Ground.data }], guard := none }) (v := ?_) rfl (by kernel_rfl) (by kernel_rfl) (by kernel_rfl) (fun _ _ _ h => h) (Or.inl ⟨by rfl, ?_⟩) (by assumption) ?_
    rotate_left
    · (intro w' hSw; (try dsimp only at hSw); obtain ⟨_, _, hcy⟩ := hSw; go_simp; try with_reducible rfl)
    try simp only [Act.put, List.setIfInBounds_toArray, List.set_cons_zero, List.set_cons_succ]
    refine wpAnyH_take (i := 2) (oi := { dst := some 72, op := Op.load 23 (Operand.tmp 8), type := 23, pos := "law.go:61", after := #[{ on := 1, ground := Ground.guard }], guard := some (1, true) }) (v := _) rfl (by kernel_rfl) (by kernel_rfl) (by kernel_rfl) (fun _ _ _ h => h) (yieldsIf_load_mid (by rfl) _ _ rfl _ _ rfl _ _ (fun w h => h.1) hun rfl hsA) (by assumption) ?_
    try simp only [Act.put, List.setIfInBounds_toArray, List.set_cons_zero, List.set_cons_succ]
    refine wpAnyH_take (i := 3) (oi := { dst := some 73, op := Op.load 23 (Operand.tmp 10), type := 23, pos := "law.go:61", after := #[{ on := 1, ground := Ground.guard }], guard := some (1, true) }) (v := _) rfl (by kernel_rfl) (by kernel_rfl) (by kernel_rfl) (fun _ _ _ h => h) (yieldsIf_load_mid (by rfl) _ _ rfl _ _ rfl _ _ (fun w h => h.2.1) hun rfl hsA) (by assumption) ?_
    try simp only [Act.put, List.setIfInBounds_toArray, List.set_cons_zero, List.set_cons_succ]
    refine wpAnyH_take (i := 4) (oi := { dst := some 74, op := Op.binOp BinOp.eql 23 (Operand.tmp 72) (Operand.tmp 73) 23, type := 4, pos := "law.go:61", after := #[{ on := 2, ground := Ground.data }, { on := 3, ground := Ground.data }, { on := 1, ground := Ground.guard }], guard := some (1, true) }) (v := ?_) rfl (by kernel_rfl) (by kernel_rfl) (by kernel_rfl) (fun _ _ _ h => h) (Or.inl ⟨by rfl, ?_⟩) (by assumption) ?_
    rotate_left
    · (intro w' hSw; (try dsimp only at hSw); obtain ⟨_, _, hcy⟩ := hSw; go_simp; try with_reducible rfl)
    try simp only [Act.put, List.setIfInBounds_toArray, List.set_cons_zero, List.set_cons_succ]
    refine wpAnyH_take (i := 5) (oi := { dst := some 75, op := Op.pick (Operand.tmp 71) (Operand.tmp 74) (Operand.const (Value.bool false)), type := 4, pos := "law.go:61", after := #[{ on := 1, ground := Ground.data }, { on := 4, ground := Ground.data }], guard := none }) (v := ?_) rfl (by kernel_rfl) (by kernel_rfl) (by kernel_rfl) (fun _ _ _ h => h) (Or.inl ⟨by rfl, ?_⟩) (by assumption) ?_
    rotate_left
    · (intro w' hSw; (try dsimp only at hSw); obtain ⟨_, _, hcy⟩ := hSw; go_simp; try with_reducible rfl)
    try simp only [Act.put, List.setIfInBounds_toArray, List.set_cons_zero, List.set_cons_succ]
    refine wpAnyH_take (i := 6) (oi := { dst := some 76, op := Op.move (Operand.tmp 75), type := 4, pos := "law.go:61", after := #[{ on := 5, ground := Ground.data }, { on := 1, ground := Ground.chain }], guard := none }) (v := ?_) rfl (by kernel_rfl) (by kernel_rfl) (by kernel_rfl) (fun _ _ _ h => h) (Or.inl ⟨by rfl, ?_⟩) (by assumption) ?_
    rotate_left
    · (intro w' hSw; (try dsimp only at hSw); obtain ⟨_, _, hcy⟩ := hSw; go_simp; try with_reducible rfl)
    try simp only [Act.put, List.setIfInBounds_toArray, List.set_cons_zero, List.set_cons_succ]
    refine wpAnyH_take (i := 7) (oi := { dst := some 77, op := Op.move (Operand.tmp 9), type := 29, pos := "law.go:61", after := #[{ on := 6, ground := Ground.guard }], guard := some (6, true) }) (v := ?_) rfl (by kernel_rfl) (by kernel_rfl) (by kernel_rfl) (fun _ _ _ h => h) (Or.inl ⟨by rfl, ?_⟩) (by assumption) ?_
    rotate_left
    · (intro w' hSw; (try dsimp only at hSw); obtain ⟨_, _, hcy⟩ := hSw; go_simp; try with_reducible rfl)
    try simp only [Act.put, List.setIfInBounds_toArray, List.set_cons_zero, List.set_cons_succ]
    refine wpAnyH_take (i := 8) (oi := { dst := some 78, op := Op.move (Operand.tmp 11), type := 29, pos := "law.go:61", after := #[{ on := 6, ground := Ground.guard }], guard := some (6, true) }) (v := ?_) rfl (by kernel_rfl) (by kernel_rfl) (by kernel_rfl) (fun _ _ _ h => h) (Or.inl ⟨by rfl, ?_⟩) (by assumption) ?_
    rotate_left
    · (intro w' hSw; (try dsimp only at hSw); obtain ⟨_, _, hcy⟩ := hSw; go_simp; try with_reducible rfl)
    try simp only [Act.put, List.setIfInBounds_toArray, List.set_cons_zero, List.set_cons_succ]
    refine wpAnyH_take (i := 9) (oi := { dst := some 79, op := Op.binOp BinOp.eql 29 (Operand.tmp 77) (Operand.tmp 78) 29, type := 4, pos := "law.go:61", after := #[{ on := 7, ground := Ground.data }, { on := 8, ground := Ground.data }, { on := 6, ground := Ground.guard }], guard := some (6, true) }) (v := ?_) rfl (by kernel_rfl) (by kernel_rfl) (by kernel_rfl) (fun _ _ _ h => h) (Or.inl ⟨by rfl, ?_⟩) (by assumption) ?_
    rotate_left
    · (intro w' hSw; (try dsimp only at hSw); obtain ⟨_, _, hcy⟩ := hSw; go_simp; try with_reducible rfl)
    try simp only [Act.put, List.setIfInBounds_toArray, List.set_cons_zero, List.set_cons_succ]
    refine wpAnyH_take (i := 10) (oi := { dst := some 80, op := Op.pick (Operand.tmp 76) (Operand.tmp 79) (Operand.const (Value.bool false)), type := 4, pos := "law.go:61", after := #[{ on := 6, ground := Ground.data }, { on := 9, ground := Ground.data }], guard := none }) (v := ?_) rfl (by kernel_rfl) (by kernel_rfl) (by kernel_rfl) (fun _ _ _ h => h) (Or.inl ⟨by rfl, ?_⟩) (by assumption) ?_
    rotate_left
    · (intro w' hSw; (try dsimp only at hSw); obtain ⟨_, _, hcy⟩ := hSw; go_simp; try with_reducible rfl)
    try simp only [Act.put, List.setIfInBounds_toArray, List.set_cons_zero, List.set_cons_succ]
    refine wpAnyH_take (i := 11) (oi := { dst := some 81, op := Op.move (Operand.tmp 80), type := 4, pos := "law.go:61", after := #[{ on := 10, ground := Ground.data }, { on := 6, ground := Ground.chain }], guard := none }) (v := ?_) rfl (by kernel_rfl) (by kernel_rfl) (by kernel_rfl) (fun _ _ _ h => h) (Or.inl ⟨by rfl, ?_⟩) (by assumption) ?_
    rotate_left
    · (intro w' hSw; (try dsimp only at hSw); obtain ⟨_, _, hcy⟩ := hSw; go_simp; try with_reducible rfl)
    try simp only [Act.put, List.setIfInBounds_toArray, List.set_cons_zero, List.set_cons_succ]
    refine wpAnyH_take (i := 12) (oi := { dst := some 82, op := Op.move (Operand.tmp 12), type := 9, pos := "law.go:61", after := #[{ on := 11, ground := Ground.guard }], guard := some (11, true) }) (v := ?_) rfl (by kernel_rfl) (by kernel_rfl) (by kernel_rfl) (fun _ _ _ h => h) (Or.inl ⟨by rfl, ?_⟩) (by assumption) ?_
    rotate_left
    · (intro w' hSw; (try dsimp only at hSw); obtain ⟨_, _, hcy⟩ := hSw; go_simp; try with_reducible rfl)
    try simp only [Act.put, List.setIfInBounds_toArray, List.set_cons_zero, List.set_cons_succ]
    refine wpAnyH_take (i := 13) (oi := { dst := some 83, op := Op.move (Operand.tmp 14), type := 9, pos := "law.go:61", after := #[{ on := 11, ground := Ground.guard }], guard := some (11, true) }) (v := ?_) rfl (by kernel_rfl) (by kernel_rfl) (by kernel_rfl) (fun _ _ _ h => h) (Or.inl ⟨by rfl, ?_⟩) (by assumption) ?_
    rotate_left
    · (intro w' hSw; (try dsimp only at hSw); obtain ⟨_, _, hcy⟩ := hSw; go_simp; try with_reducible rfl)
    try simp only [Act.put, List.setIfInBounds_toArray, List.set_cons_zero, List.set_cons_succ]
    refine wpAnyH_take (i := 14) (oi := { dst := some 84, op := Op.binOp BinOp.eql 9 (Operand.tmp 82) (Operand.tmp 83) 9, type := 4, pos := "law.go:61", after := #[{ on := 12, ground := Ground.data }, { on := 13, ground := Ground.data }, { on := 11, ground := Ground.guard }], guard := some (11, true) }) (v := ?_) rfl (by kernel_rfl) (by kernel_rfl) (by kernel_rfl) (fun _ _ _ h => h) (Or.inl ⟨by rfl, ?_⟩) (by assumption) ?_
    rotate_left
    · (intro w' hSw; (try dsimp only at hSw); obtain ⟨_, _, hcy⟩ := hSw; go_simp; try with_reducible rfl)
    try simp only [Act.put, List.setIfInBounds_toArray, List.set_cons_zero, List.set_cons_succ]
    refine wpAnyH_take (i := 15) (oi := { dst := some 85, op := Op.pick (Operand.tmp 81) (Operand.tmp 84) (Operand.const (Value.bool false)), type := 4, pos := "law.go:61", after := #[{ on := 11, ground := Ground.data }, { on := 14, ground := Ground.data }], guard := none }) (v := ?_) rfl (by kernel_rfl) (by kernel_rfl) (by kernel_rfl) (fun _ _ _ h => h) (Or.inl ⟨by rfl, ?_⟩) (by assumption) ?_
    rotate_left
    · (intro w' hSw; (try dsimp only at hSw); obtain ⟨_, _, hcy⟩ := hSw; go_simp; try with_reducible rfl)
    try simp only [Act.put, List.setIfInBounds_toArray, List.set_cons_zero, List.set_cons_succ]
    refine wpAnyH_take (i := 16) (oi := { dst := some 86, op := Op.move (Operand.tmp 85), type := 4, pos := "law.go:61", after := #[{ on := 15, ground := Ground.data }, { on := 11, ground := Ground.chain }], guard := none }) (v := ?_) rfl (by kernel_rfl) (by kernel_rfl) (by kernel_rfl) (fun _ _ _ h => h) (Or.inl ⟨by rfl, ?_⟩) (by assumption) ?_
    rotate_left
    · (intro w' hSw; (try dsimp only at hSw); obtain ⟨_, _, hcy⟩ := hSw; go_simp; try with_reducible rfl)
    try simp only [Act.put, List.setIfInBounds_toArray, List.set_cons_zero, List.set_cons_succ]
    refine wpAnyH_take (i := 17) (oi := { dst := some 87, op := Op.move (Operand.tmp 13), type := 29, pos := "law.go:61", after := #[{ on := 16, ground := Ground.guard }], guard := some (16, true) }) (v := ?_) rfl (by kernel_rfl) (by kernel_rfl) (by kernel_rfl) (fun _ _ _ h => h) (Or.inl ⟨by rfl, ?_⟩) (by assumption) ?_
    rotate_left
    · (intro w' hSw; (try dsimp only at hSw); obtain ⟨_, _, hcy⟩ := hSw; go_simp; try with_reducible rfl)
    try simp only [Act.put, List.setIfInBounds_toArray, List.set_cons_zero, List.set_cons_succ]
    refine wpAnyH_take (i := 18) (oi := { dst := some 88, op := Op.move (Operand.tmp 15), type := 29, pos := "law.go:61", after := #[{ on := 16, ground := Ground.guard }], guard := some (16, true) }) (v := ?_) rfl (by kernel_rfl) (by kernel_rfl) (by kernel_rfl) (fun _ _ _ h => h) (Or.inl ⟨by rfl, ?_⟩) (by assumption) ?_
    rotate_left
    · (intro w' hSw; (try dsimp only at hSw); obtain ⟨_, _, hcy⟩ := hSw; go_simp; try with_reducible rfl)
    try simp only [Act.put, List.setIfInBounds_toArray, List.set_cons_zero, List.set_cons_succ]
    refine wpAnyH_take (i := 19) (oi := { dst := some 89, op := Op.binOp BinOp.eql 29 (Operand.tmp 87) (Operand.tmp 88) 29, type := 4, pos := "law.go:61", after := #[{ on := 17, ground := Ground.data }, { on := 18, ground := Ground.data }, { on := 16, ground := Ground.guard }], guard := some (16, true) }) (v := ?_) rfl (by kernel_rfl) (by kernel_rfl) (by kernel_rfl) (fun _ _ _ h => h) (Or.inl ⟨by rfl, ?_⟩) (by assumption) ?_
    rotate_left
    · (intro w' hSw; (try dsimp only at hSw); obtain ⟨_, _, hcy⟩ := hSw; go_simp; try with_reducible rfl)
    try simp only [Act.put, List.setIfInBounds_toArray, List.set_cons_zero, List.set_cons_succ]
    refine wpAnyH_take (i := 20) (oi := { dst := some 90, op := Op.pick (Operand.tmp 86) (Operand.tmp 89) (Operand.const (Value.bool false)), type := 4, pos := "law.go:61", after := #[{ on := 16, ground := Ground.data }, { on := 19, ground := Ground.data }], guard := none }) (v := ?_) rfl (by kernel_rfl) (by kernel_rfl) (by kernel_rfl) (fun _ _ _ h => h) (Or.inl ⟨by rfl, ?_⟩) (by assumption) ?_
    rotate_left
    · (intro w' hSw; (try dsimp only at hSw); obtain ⟨_, _, hcy⟩ := hSw; go_simp; try with_reducible rfl)
    try simp only [Act.put, List.setIfInBounds_toArray, List.set_cons_zero, List.set_cons_succ]
    refine wpAnyH_take (i := 21) (oi := { dst := some 91, op := Op.move (Operand.tmp 90), type := 4, pos := "law.go:61", after := #[{ on := 20, ground := Ground.data }, { on := 16, ground := Ground.chain }], guard := none }) (v := ?_) rfl (by kernel_rfl) (by kernel_rfl) (by kernel_rfl) (fun _ _ _ h => h) (Or.inl ⟨by rfl, ?_⟩) (by assumption) ?_
    rotate_left
    · (intro w' hSw; (try dsimp only at hSw); obtain ⟨_, _, hcy⟩ := hSw; go_simp; try with_reducible rfl)
    try simp only [Act.put, List.setIfInBounds_toArray, List.set_cons_zero, List.set_cons_succ]
    refine wpAnyH_take (i := 22) (oi := { dst := some 92, op := Op.load 23 (Operand.tmp 8), type := 23, pos := "law.go:61", after := #[{ on := 21, ground := Ground.guard }], guard := some (21, true) }) (v := _) rfl (by kernel_rfl) (by kernel_rfl) (by kernel_rfl) (fun _ _ _ h => h) (yieldsIf_load_mid (by rfl) _ _ rfl _ _ rfl _ _ (fun w h => h.1) hun rfl hsA) (by assumption) ?_
    try simp only [Act.put, List.setIfInBounds_toArray, List.set_cons_zero, List.set_cons_succ]
    refine wpAnyH_take (i := 23) (oi := { dst := some 93, op := Op.indexAddr 28 (Operand.tmp 4) (Operand.const (Value.int IntKind.i64 1)), type := 0, pos := "law.go:61", after := #[{ on := 21, ground := Ground.guard }], guard := some (21, true) }) (v := ?_) rfl (by kernel_rfl) (by kernel_rfl) (by kernel_rfl) (fun _ _ _ h => h) (Or.inl ⟨by rfl, ?_⟩) (by assumption) ?_
    rotate_left
    · (intro w' hSw; (try dsimp only at hSw); obtain ⟨_, _, hcy⟩ := hSw; go_simp; try with_reducible rfl)
    try simp only [Act.put, List.setIfInBounds_toArray, List.set_cons_zero, List.set_cons_succ]
    refine wpAnyH_take (i := 24) (oi := { dst := some 94, op := Op.load 3 (Operand.tmp 93), type := 3, pos := "law.go:61", after := #[{ on := 23, ground := Ground.data }, { on := 21, ground := Ground.guard }], guard := some (21, true) }) (v := ?_) rfl (by kernel_rfl) (by kernel_rfl) (by kernel_rfl) (fun _ _ _ h => h) (Or.inl ⟨by rfl, ?_⟩) (by assumption) ?_
    rotate_left
    · (intro w' hSw; (try dsimp only at hSw); obtain ⟨_, _, hcy⟩ := hSw; go_simp; try with_reducible rfl)
    try simp only [Act.put, List.setIfInBounds_toArray, List.set_cons_zero, List.set_cons_succ]
    refine wpAnyH_take (i := 25) (oi := { dst := some 95, op := Op.move (Operand.tmp 2), type := 9, pos := "law.go:61", after := #[{ on := 21, ground := Ground.guard }], guard := some (21, true) }) (v := ?_) rfl (by kernel_rfl) (by kernel_rfl) (by kernel_rfl) (fun _ _ _ h => h) (Or.inl ⟨by rfl, ?_⟩) (by assumption) ?_
    rotate_left
    · (intro w' hSw; (try dsimp only at hSw); obtain ⟨_, _, hcy⟩ := hSw; go_simp; try with_reducible rfl)
    try simp only [Act.put, List.setIfInBounds_toArray, List.set_cons_zero, List.set_cons_succ]
    refine wpAnyH_take (i := 27) (oi := { dst := some 97, op := Op.load 23 (Operand.tmp 8), type := 23, pos := "law.go:61", after := #[{ on := 21, ground := Ground.guard }], guard := some (21, true) }) (v := _) rfl (by kernel_rfl) (by kernel_rfl) (by kernel_rfl) (fun _ _ _ h => h) (yieldsIf_load_mid (by rfl) _ _ rfl _ _ rfl _ _ (fun w h => h.1) hun rfl hsA) (by assumption) ?_
    try simp only [Act.put, List.setIfInBounds_toArray, List.set_cons_zero, List.set_cons_succ]
    refine wpAnyH_take (i := 28) (oi := { dst := some 98, op := Op.indexAddr 28 (Operand.tmp 4) (Operand.const (Value.int IntKind.i64 1)), type := 0, pos := "law.go:61", after := #[{ on := 21, ground := Ground.guard }], guard := some (21, true) }) (v := ?_) rfl (by kernel_rfl) (by kernel_rfl) (by kernel_rfl) (fun _ _ _ h => h) (Or.inl ⟨by rfl, ?_⟩) (by assumption) ?_
    rotate_left
    · (intro w' hSw; (try dsimp only at hSw); obtain ⟨_, _, hcy⟩ := hSw; go_simp; try with_reducible rfl)
    try simp only [Act.put, List.setIfInBounds_toArray, List.set_cons_zero, List.set_cons_succ]
    refine wpAnyH_take (i := 29) (oi := { dst := some 99, op := Op.load 3 (Operand.tmp 98), type := 3, pos := "law.go:61", after := #[{ on := 28, ground := Ground.data }, { on := 21, ground := Ground.guard }], guard := some (21, true) }) (v := ?_) rfl (by kernel_rfl) (by kernel_rfl) (by kernel_rfl) (fun _ _ _ h => h) (Or.inl ⟨by rfl, ?_⟩) (by assumption) ?_
    rotate_left
    · (intro w' hSw; (try dsimp only at hSw); obtain ⟨_, _, hcy⟩ := hSw; go_simp; try with_reducible rfl)
    try simp only [Act.put, List.setIfInBounds_toArray, List.set_cons_zero, List.set_cons_succ]
    refine wpAnyH_take (i := 30) (oi := { dst := some 100, op := Op.move (Operand.tmp 2), type := 9, pos := "law.go:61", after := #[{ on := 21, ground := Ground.guard }], guard := some (21, true) }) (v := ?_) rfl (by kernel_rfl) (by kernel_rfl) (by kernel_rfl) (fun _ _ _ h => h) (Or.inl ⟨by rfl, ?_⟩) (by assumption) ?_
    rotate_left
    · (intro w' hSw; (try dsimp only at hSw); obtain ⟨_, _, hcy⟩ := hSw; go_simp; try with_reducible rfl)
    try simp only [Act.put, List.setIfInBounds_toArray, List.set_cons_zero, List.set_cons_succ]
    refine wpAnyH_ready (rs := [26]) (by kernel_rfl) (by simp) ?_
    refine AllReadyH.cons (o := { dst := some 96, op := Op.call { callee := Callee.value (Operand.func 16), args := #[Operand.tmp 92, Operand.tmp 94, Operand.tmp 95], argTypes := #[23, 3, 9] }, type := 23, pos := "law.go:61", after := #[{ on := 22, ground := Ground.data }, { on := 24, ground := Ground.data }, { on := 25, ground := Ground.data }, { on := 21, ground := Ground.chain }, { on := 21, ground := Ground.guard }], guard := some (21, true) }) rfl (fun K hK => ?_) AllReadyH.nil
    go_simp
    go_at_call 16
    refine (HD1.out _ (HK.out.1.of HX7.out.1.2.drew)).mono ?_
    rintro e y1 ⟨rfl, hb1⟩
    have HY1 : Hid (Below w.heap.size w y1 ∧ Below x7.heap.size x7 y1) := Lib.hid ⟨below_next HX7.out.1.2.drew hb1, below_next (w := x7.drew) (Below.refl _ _).drew hb1⟩
    clear hb1
    refine hK _ _ (HRG.out _ HY1.out.2) (fun hS1 => ?_)
    clear hK K hS0
    try simp only [Act.put, List.setIfInBounds_toArray, List.set_cons_zero, List.set_cons_succ]
    refine wpAnyH_ready (rs := [31]) (by kernel_rfl) (by simp) ?_
    refine AllReadyH.cons (o := { dst := some 101, op := Op.call { callee := Callee.value (Operand.func 17), args := #[Operand.tmp 97, Operand.tmp 99, Operand.tmp 100], argTypes := #[23, 3, 9] }, type := 23, pos := "law.go:61", after := #[{ on := 27, ground := Ground.data }, { on := 29, ground := Ground.data }, { on := 30, ground := Ground.data }, { on := 26, ground := Ground.chain }, { on := 21, ground := Ground.guard }], guard := some (21, true) }) rfl (fun K hK => ?_) AllReadyH.nil
    go_simp
    go_at_call 17
    refine (HD2.out _ (HK.out.2.of HY1.out.1)).mono ?_
    rintro e y2 ⟨rfl, hb2⟩
    have HY2 : Hid (Below w.heap.size w y2 ∧ Below x7.heap.size x7 y2) := Lib.hid ⟨below_next HY1.out.1 hb2, below_next HY1.out.2 hb2⟩
    clear hb2
    refine hK _ _ (HRG.out _ HY2.out.2) (fun hS2 => ?_)
    clear hK K hS1
    try simp only [Act.put, List.setIfInBounds_toArray, List.set_cons_zero, List.set_cons_succ]
    have heq2 := HEQ.out.2
    refine wpAnyH_take (i := 32) (oi := { dst := some 102, op := Op.binOp BinOp.eql 23 (Operand.tmp 96) (Operand.tmp 101) 23, type := 4, pos := "law.go:61", after := #[{ on := 26, ground := Ground.data }, { on := 31, ground := Ground.data }, { on := 21, ground := Ground.guard }], guard := some (21, true) }) (v := ?_) rfl (by kernel_rfl) (by kernel_rfl) (by kernel_rfl) (fun _ _ _ h => h) (Or.inl ⟨by rfl, ?_⟩) (by assumption) ?_
    rotate_left
    · (intro w' hSw; (try dsimp only at hSw); obtain ⟨_, _, hcy⟩ := hSw; go_simp; try with_reducible rfl)
    try simp only [Act.put, List.setIfInBounds_toArray, List.set_cons_zero, List.set_cons_succ]
    refine wpAnyH_take (i := 33) (oi := { dst := some 103, op := Op.pick (Operand.tmp 91) (Operand.tmp 102) (Operand.const (Value.bool false)), type := 4, pos := "law.go:61", after := #[{ on := 21, ground := Ground.data }, { on := 32, ground := Ground.data }], guard := none }) (v := ?_) rfl (by kernel_rfl) (by kernel_rfl) (by kernel_rfl) (fun _ _ _ h => h) (Or.inl ⟨by rfl, ?_⟩) (by assumption) ?_
    rotate_left
    · (intro w' hSw; (try dsimp only at hSw); obtain ⟨_, _, hcy⟩ := hSw; go_simp; try with_reducible rfl)
    try simp only [Act.put, List.setIfInBounds_toArray, List.set_cons_zero, List.set_cons_succ]
    refine wpAnyH_take (i := 34) (oi := { dst := some 6, op := Op.assign (Operand.tmp 103), type := 4, pos := "law.go:61", after := #[{ on := 33, ground := Ground.data }, { on := 31, ground := Ground.chain }, { on := 0, ground := Ground.phase }, { on := 1, ground := Ground.phase }, { on := 2, ground := Ground.phase }, { on := 3, ground := Ground.phase }, { on := 4, ground := Ground.phase }, { on := 5, ground := Ground.phase }, { on := 6, ground := Ground.phase }, { on := 7, ground := Ground.phase }, { on := 8, ground := Ground.phase }, { on := 9, ground := Ground.phase }, { on := 10, ground := Ground.phase }, { on := 11, ground := Ground.phase }, { on := 12, ground := Ground.phase }, { on := 13, ground := Ground.phase }, { on := 14, ground := Ground.phase }, { on := 15, ground := Ground.phase }, { on := 16, ground := Ground.phase }, { on := 17, ground := Ground.phase }, { on := 18, ground := Ground.phase }, { on := 19, ground := Ground.phase }, { on := 20, ground := Ground.phase }, { on := 21, ground := Ground.phase }, { on := 22, ground := Ground.phase }, { on := 23, ground := Ground.phase }, { on := 24, ground := Ground.phase }, { on := 25, ground := Ground.phase }, { on := 26, ground := Ground.phase }, { on := 27, ground := Ground.phase }, { on := 28, ground := Ground.phase }, { on := 29, ground := Ground.phase }, { on := 30, ground := Ground.phase }, { on := 31, ground := Ground.phase }, { on := 32, ground := Ground.phase }, { on := 33, ground := Ground.phase }], guard := none }) (v := ?_) rfl (by kernel_rfl) (by kernel_rfl) (by kernel_rfl) (fun _ _ _ h => h) (Or.inl ⟨by rfl, ?_⟩) (by assumption) ?_
    rotate_left
    · (intro w' hSw; (try dsimp only at hSw); obtain ⟨_, _, hcy⟩ := hSw; go_simp; try with_reducible rfl)
    try simp only [Act.put, List.setIfInBounds_toArray, List.set_cons_zero, List.set_cons_succ]
    refine wpAnyH_done (by kernel_rfl) ?_ _
    go_wp2_with fail
    go_ret
    exact ⟨rfl, HY2.out.1⟩
theorem pow2 (h : Nat) : ((2 ^ h : Nat) : Int) = 2 ^ h := by simp
theorem walk (s : List UInt8) (x y : Int) (m : List UInt8) (hx : inI x) (hy : inI y) (w : World) (hK : KH w ∧ KR w) :
    Calls Tryd.prog 4 #[.string (sb s), .agg #[.int .i64 x, .int .i64 y], .string (sb m)] w fun e w' => e = .returned (.bool true) ∧ Below w.heap.size w w' := by
  by_cases ho : 200 < s.length ∨ 200 < m.length ∨ (2 < x ∧ x ≤ 6)
  · exact walk_out s m x y ho w hK.1
  · have hs : s.length ≤ 200 := by omega
    have hm : m.length ≤ 200 := by omega
    have hx2 : x ≤ 2 ∨ 6 < x := by omega
    by_cases hbad : s.length ≠ 32 ∨ x < 0 ∨ 6 < x
    · exact walk_aux s m x y hx2 hy hs hm (List.replicate 16 0) [] _ 1 1 (by simp) rfl (fun W _ => public_no s x hbad W) (fun W _ => rpublic_no s x hbad W) (fun W _ => sign_arg s m x y hbad W) (fun W _ => rsign_arg s m x y hbad W) w hK.1 hK.2
    · obtain ⟨h, hh⟩ : ∃ h : Nat, x = (h : Int) := ⟨x.toNat, by omega⟩
      have h2 : h ≤ 2 := by omega
      have hs32 : s.length = 32 := by omega
      by_cases hsp : y < 0 ∨ ((2 ^ h : Nat) : Int) ≤ y
      · exact walk_aux s m x y hx2 hy hs hm (node s h 0) [] _ 0 23 (node_length _ _ _) rfl (fun W k => public_yes s _ h x hh hs32 (by omega) rfl W k) (fun W k => rpublic_yes s _ h x hh hs32 (by omega) rfl W k) (fun W _ => sign_spent s m h x y hh hs32 (by omega) hsp W) (fun W _ => rsign_spent s m h x y hh hs32 (by omega) hsp W) w hK.1 hK.2
      · have hy0 : 0 ≤ y := by
          rcases Int.lt_or_le y 0 with h0 | h0
          · exact absurd (.inl h0) hsp
          · exact h0
        obtain ⟨i, hi⟩ : ∃ i : Nat, y = (i : Int) := ⟨y.toNat, by omega⟩
        have hip : i < 2 ^ h := by
          rcases Nat.lt_or_ge i (2 ^ h) with h0 | h0
          · exact h0
          · exact absurd (.inr (by rw [hi]; exact Int.ofNat_le.2 h0)) hsp
        exact walk_aux s m x y hx2 hy hs hm (node s h 0) (sgn s h i m) _ 0 0 (node_length _ _ _) rfl (fun W k => public_yes s _ h x hh hs32 (by omega) rfl W k) (fun W k => rpublic_yes s _ h x hh hs32 (by omega) rfl W k) (fun W k => sign_any s m h i x y hh hi hs32 (by omega) hip (by omega) W k) (fun W k => rsign_any s m h i x y hh hi hs32 (by omega) hip (by omega) W k) w hK.1 hK.2

set_option maxRecDepth 100000 in
theorem contract (H : Type) (enc : TypeId × Value → H) (W : World) (base : Nat) (args : Array Value) (ds gs : List (DataW H)) (before : List MemPlace)
    (hval : ∀ (j : Nat) t v, Tryd.f4.params[j]? = some t → args[j]? = some v → Value.okWide Tryd.prog W .any base t v)
    (hW : DataW.Whole enc Tryd.prog Tryd.f4.params.toList Rows.signMakesAsSpecifiedSpec.vars false W args.toList ds gs before)
    (hsz : (DataW.weightsEach Tryd.prog (Tryd.f4.params.toList ++ Rows.signMakesAsSpecifiedSpec.plain.varTypes Tryd.prog) (ds ++ gs)).all (· ≤ reachBytes) = true) (hK : KH W ∧ KR W) :
    Calls Tryd.prog 4 args W fun e W' => ∃ v, e = .returned v ∧ Rows.signMakesAsSpecifiedSpec.post enc Tryd.prog Tryd.f4 false true false false W args v W' := by
  have hW' := hW
  obtain ⟨p, q, hA0, hV, rfl, hfz, hnd⟩ := hW
  have hA : DataW.TrodAll enc Tryd.prog W 0 (fun _ => true) true Tryd.f4.params.toList args.toList ds p := hA0
  rw [Tryd.params4] at hA hval hsz
  obtain ⟨v0, v1, v2, d0, d1, d2, p0, p1, p2, rfl, rfl, rfl, h0, h1, h2⟩ := trodAll_three hA
  obtain ⟨rfl, rfl⟩ := trodVars_none hV
  obtain ⟨t0, rfl, rfl, rfl, tw⟩ := open_string Tryd.underlying9 (hval 0 9 v0 rfl rfl) h0
  have tq := sized_string hsz (j := 0) (t := 9) rfl rfl
  obtain ⟨t, te⟩ : ∃ l, l = t0.data.toList := ⟨_, rfl⟩
  have tb : t0 = sb t := by rw [te]; rfl
  have tr : t.length ≤ 140737488355328 := by rw [te]; exact Nat.le_trans (m := 140737488351232) (by simpa [reachBytes] using tq) (by omega)
  obtain ⟨nx, ny, rfl, nxi, nyi⟩ := open_two (hval 1 28 v1 rfl rfl) h1
  obtain ⟨m0, rfl, rfl, rfl, mw⟩ := open_string Tryd.underlying9 (hval 2 9 v2 rfl rfl) h2
  have mq := sized_string hsz (j := 2) (t := 9) rfl rfl
  obtain ⟨m, me⟩ : ∃ l, l = m0.data.toList := ⟨_, rfl⟩
  have mb : m0 = sb m := by rw [me]; rfl
  have mr : m.length ≤ 140737488355328 := by rw [me]; exact Nat.le_trans (m := 140737488351232) (by simpa [reachBytes] using mq) (by omega)

  have hargs : (#[.string t0, .agg #[.int .i64 nx, .int .i64 ny], .string m0] : Array Value) = #[.string (sb t), .agg #[.int .i64 nx, .int .i64 ny], .string (sb m)] := by rw [tb, mb]
  have hwalk : Calls Tryd.prog 4 #[.string t0, .agg #[.int .i64 nx, .int .i64 ny], .string m0] W fun e W' => e = .returned (.bool true) ∧ Below W.heap.size W W' := by
    rw [hargs]
    exact walk t nx ny m nxi nyi W hK
  refine hwalk.mono fun e W' ⟨he, hb⟩ => ⟨_, he, ?_⟩
  exact law_post rfl rfl (by kernel_rfl) hW' rfl hb

set_option maxRecDepth 100000 in
theorem lifted (os : Os) (started : os.Started) (H : Type) (enc : TypeId × Value → H) :
    ReturnsInHanded {} Tryd.checked os 4 .any (fun w args => (Rows.signMakesAsSpecifiedSpec.pre enc Tryd.prog Tryd.f4 [] false w args ∧ laidMetH Tryd.prog laid2 w) ∧ sizedMet enc Tryd.prog Tryd.f4 (OpenSpec.ofChange Rows.signMakesAsSpecifiedSpec) false w args)
      (Rows.signMakesAsSpecifiedSpec.post enc Tryd.prog Tryd.f4 false true false false) := by
  refine returnsInHanded_of_change_and (C := Tryd.checked) (X := fun w _ => laidMetH Tryd.prog laid2 w) (fun _ _ _ hh h => h.of_heap hh) Tryd.own started (by kernel_rfl) Tryd.func4
    (ChangeSpec.witness_shaped (enc := enc) (C := Tryd.checked) (os := os) (X := fun w _ => laidMetH Tryd.prog laid2 w) false (World.doorLaid Tryd.prog 400 os) #[.string ByteArray.empty, .agg #[.int .i64 0, .int .i64 0], .string ByteArray.empty] 8 rfl (World.shaped_of_RefB (by kernel_rfl) (by kernel_rfl)) (by kernel_rfl) (by kernel_rfl) (by kernel_rfl) (door_met2 os _)) ?_
  intro W base args ds gs before hval hW _ hsz hL _
  exact contract H enc W base args ds gs before hval hW hsz (of_laid2 hL)

theorem row : Rows.SignMakesAsSpecifiedSaid :=
  OpenClaim.holds_of_wide 4 Tryd.f4 rfl rfl rfl rfl rfl rfl rfl ⟨rfl, rfl, rfl, rfl, rfl⟩ rfl rfl rfl rfl rfl (by kernel_rfl) Tryd.func4 (by kernel_rfl)
    (of_decide_eq_true (by kernel_rfl)) (by unfold Func.isWrapper; first | (rw [if_pos (by decide +kernel)]; kernel_rfl) | (rw [if_neg (by decide +kernel)]; exact ⟨rfl, rfl⟩))
    (fun os started H enc _ => lifted os started H enc)

theorem proved : Rows.SignMakesAsSpecifiedCardSaid :=
  Claim7.holds_tied_plain_at .later [] [.data, .data] true (true, "53e8dcc94a98ee4e8397ce15025af463fab214ab1c042506e4d652f15817975a") false
    row (fun _ h => by cases h) (by kernel_rfl) (fun _ h => by cases h) signMakesAsSpecified_row_tie rfl ⟨rfl, rfl⟩ (by kernel_rfl) rfl
    (fun f fn hf hfn => by
      obtain rfl : f = 4 := Option.some.inj ((show Tryd.prog.funcNamed "wordbook/wordbooklaw03.SignMakesAsSpecified" = some 4 by kernel_rfl).symm.trans hf) |>.symm
      obtain rfl : fn = Tryd.f4 := (Option.some.inj (Tryd.func4.symm.trans hfn)).symm
      exact ⟨by kernel_rfl, fun j t ht => by
        rw [Tryd.params4] at ht
        have hm : t ∈ [9, 28, 9] := by simpa using Array.mem_of_getElem? ht
        have hall : ([9, 28, 9].all fun u => !Tryd.prog.wantsStandIn u) = true := by kernel_rfl
        exact (show Tryd.prog.wantsStandIn t = false by simpa using List.all_eq_true.1 hall t hm)⟩)
    (by kernel_rfl)
end SL2
end Go.Proofs.YtbgcnfikcddcpaaDoor
