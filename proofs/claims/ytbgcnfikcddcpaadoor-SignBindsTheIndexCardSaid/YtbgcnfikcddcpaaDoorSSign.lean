/-
  The walks of sign's validHeight, validSigner, validIndex, Public, Digits.
-/
import Derived.Test.YtbgcnfikcddcpaaDoorSRoot
namespace Go.Proofs.YtbgcnfikcddcpaaDoor
open Go.RowKit
set_option linter.unusedVariables false
open Sha Sgn
set_option maxHeartbeats 400000 in
theorem vh_yes (h : Int) (h0 : 0 ≤ h) (h6 : h ≤ 6) (w : World) : Calls Tryd.prog 42 #[.int .i64 h] w fun e w' => e = .returned (.bool true) ∧ w = w' := by
  have d1 : decide (0 ≤ h) = true := by simpa using h0
  have d2 : decide (h ≤ 6) = true := by simpa using h6
  go_enter Tryd.func42, Tryd.ntmps42
  go_wp2_with fail
  go_ret
  exact ⟨rfl, rfl⟩
set_option maxHeartbeats 400000 in
theorem vh_no (h : Int) (hh : h < 0 ∨ 6 < h) (w : World) : Calls Tryd.prog 42 #[.int .i64 h] w fun e w' => e = .returned (.bool false) ∧ w = w' := by
  rcases hh with hh | hh
  · have d1 : decide (0 ≤ h) = false := by simp; omega
    go_enter Tryd.func42, Tryd.ntmps42
    go_wp2_with fail
    go_ret
    exact ⟨rfl, rfl⟩
  · have d1 : decide (0 ≤ h) = true := by simp; omega
    have d2 : decide (h ≤ 6) = false := by simp; omega
    go_enter Tryd.func42, Tryd.ntmps42
    go_wp2_with fail
    go_ret
    exact ⟨rfl, rfl⟩
set_option maxHeartbeats 400000 in
theorem vs_yes (s : List UInt8) (h : Int) (hs : s.length = 32) (h0 : 0 ≤ h) (h6 : h ≤ 6) (w : World) : Calls Tryd.prog 22 #[.string (sb s), .int .i64 h] w fun e w' => e = .returned (.bool true) ∧ w = w' := by
  have hsz : (sb s).size = 32 := by rw [sb_size, hs]
  go_enter Tryd.func22, Tryd.ntmps22
  go_wp2_with (refine (vh_yes h h0 h6 _).mono ?_; rintro e w' ⟨rfl, rfl⟩)
  go_ret
  exact ⟨rfl, rfl⟩
set_option maxHeartbeats 400000 in
theorem vs_no (s : List UInt8) (h : Int) (hh : s.length ≠ 32 ∨ h < 0 ∨ 6 < h) (w : World) : Calls Tryd.prog 22 #[.string (sb s), .int .i64 h] w fun e w' => e = .returned (.bool false) ∧ w = w' := by
  by_cases hs : s.length = 32
  · have hsz : (sb s).size = 32 := by rw [sb_size, hs]
    have h2 : h < 0 ∨ 6 < h := by omega
    go_enter Tryd.func22, Tryd.ntmps22
    go_wp2_with (refine (vh_no h h2 _).mono ?_; rintro e w' ⟨rfl, rfl⟩)
    go_ret
    exact ⟨rfl, rfl⟩
  · have hsz := sb_size s
    have hb : ((s.length : Int) == 32) = false := by simp; omega
    go_enter Tryd.func22, Tryd.ntmps22
    go_wp2_with fail
    go_ret
    exact ⟨rfl, rfl⟩
set_option maxHeartbeats 1000000 in
theorem vi_yes (i : Int) (h : Nat) (H : Int) (hH : H = (h : Int)) (h6 : h ≤ 6) (i0 : 0 ≤ i) (hi : i < ((2 ^ h : Nat) : Int)) (w : World) : Calls Tryd.prog 26 #[.int .i64 i, .int .i64 H] w fun e w' => e = .returned (.bool true) ∧ w = w' := by
  subst hH
  have d1 : decide (0 ≤ i) = true := by simpa using i0
  have : h = 0 ∨ h = 1 ∨ h = 2 ∨ h = 3 ∨ h = 4 ∨ h = 5 ∨ h = 6 := by omega
  rcases this with rfl | rfl | rfl | rfl | rfl | rfl | rfl
  · have d2 : decide (i < 1) = true := by
      have e : ((2 ^ 0 : Nat) : Int) = 1 := rfl
      rw [e] at hi
      simpa using hi
    clear hi
    go_enter Tryd.func26, Tryd.ntmps26
    go_wp2_with fail
    go_ret
    exact ⟨rfl, rfl⟩
  · have d2 : decide (i < 2) = true := by
      have e : ((2 ^ 1 : Nat) : Int) = 2 := rfl
      rw [e] at hi
      simpa using hi
    clear hi
    go_enter Tryd.func26, Tryd.ntmps26
    go_wp2_with fail
    go_ret
    exact ⟨rfl, rfl⟩
  · have d2 : decide (i < 4) = true := by
      have e : ((2 ^ 2 : Nat) : Int) = 4 := rfl
      rw [e] at hi
      simpa using hi
    clear hi
    go_enter Tryd.func26, Tryd.ntmps26
    go_wp2_with fail
    go_ret
    exact ⟨rfl, rfl⟩
  · have d2 : decide (i < 8) = true := by
      have e : ((2 ^ 3 : Nat) : Int) = 8 := rfl
      rw [e] at hi
      simpa using hi
    clear hi
    go_enter Tryd.func26, Tryd.ntmps26
    go_wp2_with fail
    go_ret
    exact ⟨rfl, rfl⟩
  · have d2 : decide (i < 16) = true := by
      have e : ((2 ^ 4 : Nat) : Int) = 16 := rfl
      rw [e] at hi
      simpa using hi
    clear hi
    go_enter Tryd.func26, Tryd.ntmps26
    go_wp2_with fail
    go_ret
    exact ⟨rfl, rfl⟩
  · have d2 : decide (i < 32) = true := by
      have e : ((2 ^ 5 : Nat) : Int) = 32 := rfl
      rw [e] at hi
      simpa using hi
    clear hi
    go_enter Tryd.func26, Tryd.ntmps26
    go_wp2_with fail
    go_ret
    exact ⟨rfl, rfl⟩
  · have d2 : decide (i < 64) = true := by
      have e : ((2 ^ 6 : Nat) : Int) = 64 := rfl
      rw [e] at hi
      simpa using hi
    clear hi
    go_enter Tryd.func26, Tryd.ntmps26
    go_wp2_with fail
    go_ret
    exact ⟨rfl, rfl⟩
set_option maxHeartbeats 1000000 in
theorem vi_no (i : Int) (h : Nat) (H : Int) (hH : H = (h : Int)) (h6 : h ≤ 6) (hi : i < 0 ∨ ((2 ^ h : Nat) : Int) ≤ i) (w : World) : Calls Tryd.prog 26 #[.int .i64 i, .int .i64 H] w fun e w' => e = .returned (.bool false) ∧ w = w' := by
  subst hH
  by_cases hn : i < 0
  · have d1 : decide (0 ≤ i) = false := by simp; omega
    clear hi
    go_enter Tryd.func26, Tryd.ntmps26
    go_wp2_with fail
    go_ret
    exact ⟨rfl, rfl⟩
  · have d1 : decide (0 ≤ i) = true := by simp; omega
    have hj : ((2 ^ h : Nat) : Int) ≤ i := by omega
    clear hi
    have : h = 0 ∨ h = 1 ∨ h = 2 ∨ h = 3 ∨ h = 4 ∨ h = 5 ∨ h = 6 := by omega
    rcases this with rfl | rfl | rfl | rfl | rfl | rfl | rfl
    · have d2 : decide (i < 1) = false := by
        have e : ((2 ^ 0 : Nat) : Int) = 1 := rfl
        rw [e] at hj
        simp
        omega
      clear hj hn
      go_enter Tryd.func26, Tryd.ntmps26
      go_wp2_with fail
      go_ret
      exact ⟨rfl, rfl⟩
    · have d2 : decide (i < 2) = false := by
        have e : ((2 ^ 1 : Nat) : Int) = 2 := rfl
        rw [e] at hj
        simp
        omega
      clear hj hn
      go_enter Tryd.func26, Tryd.ntmps26
      go_wp2_with fail
      go_ret
      exact ⟨rfl, rfl⟩
    · have d2 : decide (i < 4) = false := by
        have e : ((2 ^ 2 : Nat) : Int) = 4 := rfl
        rw [e] at hj
        simp
        omega
      clear hj hn
      go_enter Tryd.func26, Tryd.ntmps26
      go_wp2_with fail
      go_ret
      exact ⟨rfl, rfl⟩
    · have d2 : decide (i < 8) = false := by
        have e : ((2 ^ 3 : Nat) : Int) = 8 := rfl
        rw [e] at hj
        simp
        omega
      clear hj hn
      go_enter Tryd.func26, Tryd.ntmps26
      go_wp2_with fail
      go_ret
      exact ⟨rfl, rfl⟩
    · have d2 : decide (i < 16) = false := by
        have e : ((2 ^ 4 : Nat) : Int) = 16 := rfl
        rw [e] at hj
        simp
        omega
      clear hj hn
      go_enter Tryd.func26, Tryd.ntmps26
      go_wp2_with fail
      go_ret
      exact ⟨rfl, rfl⟩
    · have d2 : decide (i < 32) = false := by
        have e : ((2 ^ 5 : Nat) : Int) = 32 := rfl
        rw [e] at hj
        simp
        omega
      clear hj hn
      go_enter Tryd.func26, Tryd.ntmps26
      go_wp2_with fail
      go_ret
      exact ⟨rfl, rfl⟩
    · have d2 : decide (i < 64) = false := by
        have e : ((2 ^ 6 : Nat) : Int) = 64 := rfl
        rw [e] at hj
        simp
        omega
      clear hj hn
      go_enter Tryd.func26, Tryd.ntmps26
      go_wp2_with fail
      go_ret
      exact ⟨rfl, rfl⟩

/-! ## Public, Digits -/
theorem results_cell_tmp {P : Program} {fn : Func} {p q : Tmp} {ty : TypeId} (h : fn.results = #[.cell p ty, .tmp q]) (tmps : Array Value) (w : World) (g : Nat) (t : TypeId) (cs : Array Value) (fr : Nat × Nat) (d : TypeDesc)
    (hp : tmps.getD p undef = .pointer (some ⟨g, 0, none⟩)) (hg : w.heap[g]? = some (.cells cs t fr)) (hu : P.underlying ty = some d) (hd : (match d with | .struct _ | .array _ _ => true | _ => false) = true) (hi : (P.info? ty).map (·.size) = some cs.size) :
    (results fn tmps).run P w = .ok (.tuple #[.agg cs, tmps.getD q undef]) w := by
  have hp' : tmps[p]?.getD undef = .pointer (some ⟨g, 0, none⟩) := by simpa using hp
  simp [results, h, hp', asAddr, run_loadVar_row w g t ty cs fr d hg hu hd hi]
theorem ret_blk2 {P : Program} {fn : Func} {p q : Tmp} {ty : TypeId} {R : Ending → World → Prop} {a : Act} {w : World} (hr : fn.results = #[.cell p ty, .tmp q]) (g : Nat) (hp : a.tmps.getD p undef = .pointer (some ⟨g, 0, none⟩)) {C : List Value} {T : TypeId} (hb : Blk w g C T) (d : TypeDesc) (hu : P.underlying ty = some d) (hd : d.isRow = true)
    (hi : (P.info? ty).map (·.size) = some C.length) (hdf : a.defers = []) (u : Value) (hq : a.tmps.getD q undef = u) (hR : R (.returned (.tuple #[.agg C.toArray, u])) w) : bodyPost P fn R .ret a w := by
  subst hq
  exact bodyPost_ret (results_cell_tmp hr _ w g T C.toArray (0, 0) d hp hb hu (by cases d <;> simp_all) (by simpa using hi)) hdf hR
theorem nodes_at (s : List UInt8) (w : World) (a b : Nat) (ha : a = w.heap.size) (hb : b = w.heap.size + 1) :
    Calls Tryd.prog 23 #[.string (sb s)] w fun e w' => e = .returned (.func (.func 49) #[] #[.pointer (some ⟨a, 0, none⟩), .pointer (some ⟨b, 0, none⟩)]) ∧ ND w' s a b ∧ Below w.heap.size w w' := by
  subst ha hb
  exact nodes_any s w
def retD (d : List UInt8) (er : Int) : Ending := .returned (.tuple #[.agg (bs d).toArray, .int .i64 er])
set_option maxRecDepth 100000 in
set_option maxHeartbeats 1000000 in
theorem public_no (s : List UInt8) (h : Int) (hh : s.length ≠ 32 ∨ h < 0 ∨ 6 < h) (w : World) :
    Calls Tryd.prog 12 #[.string (sb s), .int .i64 h] w fun e w' => e = retD (List.replicate 16 0) 1 ∧ Below w.heap.size w w' := by
  have HB0 : Hid (Blk (w.alloc (.cells #[.int .u8 0, .int .u8 0, .int .u8 0, .int .u8 0, .int .u8 0, .int .u8 0, .int .u8 0, .int .u8 0, .int .u8 0, .int .u8 0, .int .u8 0, .int .u8 0, .int .u8 0, .int .u8 0, .int .u8 0, .int .u8 0] 23)) w.heap.size (bs (List.replicate 16 0)) 23 ∧ Below w.heap.size w (w.alloc (.cells #[.int .u8 0, .int .u8 0, .int .u8 0, .int .u8 0, .int .u8 0, .int .u8 0, .int .u8 0, .int .u8 0, .int .u8 0, .int .u8 0, .int .u8 0, .int .u8 0, .int .u8 0, .int .u8 0, .int .u8 0, .int .u8 0] 23))) := Lib.hid ⟨Blk.new' w (bs (List.replicate 16 0)) _ _ rfl, below_a1 _ _⟩
  go_enter Tryd.func12, Tryd.ntmps12
  go_wp2_with (first
    | (refine (vs_no s h hh _).mono ?_; rintro e w' ⟨rfl, rfl⟩)
    | (refine wpList_store_blk rfl 23 (.tmp 4) (.tmp 10) rfl w.heap.size 0 rfl [.int .u8 0, .int .u8 0, .int .u8 0, .int .u8 0, .int .u8 0, .int .u8 0, .int .u8 0, .int .u8 0, .int .u8 0, .int .u8 0, .int .u8 0, .int .u8 0, .int .u8 0, .int .u8 0, .int .u8 0, .int .u8 0] rfl HB0.out.1 16 Tryd.size44 rfl (by rw [bs_length, List.length_replicate]; omega) (bs_one (List.replicate 16 0)) ?_; intro x1 hst1; rw [List.take_zero, List.nil_append, List.drop_of_length_le (by rw [bs_length, List.length_replicate]; omega), List.append_nil] at hst1; have HST : Hid (Stored _ x1 w.heap.size (bs (List.replicate 16 0)) 23) := Lib.hid hst1; clear hst1))
  exact ret_blk2 rfl _ rfl HST.out.1 _ Tryd.underlying23 rfl (by rw [bs_length, List.length_replicate]; exact Tryd.size44) rfl _ rfl ⟨rfl, HST.out.below HB0.out.2 (Nat.le_refl _)⟩
set_option maxRecDepth 100000 in
set_option maxHeartbeats 1000000 in
theorem public_yes (s D : List UInt8) (h : Nat) (H : Int) (hH : H = (h : Int)) (hs : s.length = 32) (h6 : h ≤ 6) (hD : D = node s h 0) (w : World) (hK : KH w) :
    Calls Tryd.prog 12 #[.string (sb s), .int .i64 H] w fun e w' => e = retD D 0 ∧ Below w.heap.size w w' := by
  have hDl : (bs D).length = 16 := by rw [bs_length, hD, node_length]
  have HNC : Hid (∀ (a b : Nat) W, ND W s a b → KH W → Calls Tryd.prog 49 #[.int .i64 H, .int .i64 0, .pointer (some ⟨a, 0, none⟩), .pointer (some ⟨b, 0, none⟩)] W fun e w' => e = .returned (.agg (bs D).toArray) ∧ Below W.heap.size W w') :=
    Lib.hid fun a b W hn hk => by rw [hD]; exact node_any s (by omega) a b h 0 h6 (by have : 2 ^ h ≤ 2 ^ 6 := Nat.pow_le_pow_right (by omega) h6; omega) H 0 hH rfl W hn hk
  have hh0 : 0 ≤ H := by omega
  have hh6 : H ≤ 6 := by omega
  have HK := Lib.hid hK; clear hK
  have HB0 : Hid (Blk (w.alloc (.cells #[.int .u8 0, .int .u8 0, .int .u8 0, .int .u8 0, .int .u8 0, .int .u8 0, .int .u8 0, .int .u8 0, .int .u8 0, .int .u8 0, .int .u8 0, .int .u8 0, .int .u8 0, .int .u8 0, .int .u8 0, .int .u8 0] 23)) w.heap.size (bs (List.replicate 16 0)) 23 ∧ Below w.heap.size w (w.alloc (.cells #[.int .u8 0, .int .u8 0, .int .u8 0, .int .u8 0, .int .u8 0, .int .u8 0, .int .u8 0, .int .u8 0, .int .u8 0, .int .u8 0, .int .u8 0, .int .u8 0, .int .u8 0, .int .u8 0, .int .u8 0, .int .u8 0] 23))) := Lib.hid ⟨Blk.new' w (bs (List.replicate 16 0)) _ _ rfl, below_a1 _ _⟩
  have HDL := Lib.hid hDl; clear hDl hD hH
  have hent := enter49
  go_enter Tryd.func12, Tryd.ntmps12
  go_wp2_with (first
    | (refine (vs_yes s H hs hh0 hh6 _).mono ?_; rintro e w' ⟨rfl, rfl⟩)
    | ((with_reducible refine (nodes_at s _ (w.heap.size + 1) (w.heap.size + 1 + 1) ?_ ?_).mono ?_); simp; simp; rintro e x1 ⟨rfl, hn1, hb1⟩; have HX1 : Hid (ND x1 s _ _ ∧ Blk x1 w.heap.size (bs (List.replicate 16 0)) 23 ∧ Below w.heap.size w x1) := Lib.hid ⟨hn1, HB0.out.1.below hb1 HB0.out.1.lt, below_next HB0.out.2 hb1⟩; clear hn1 hb1)
    | ((with_reducible refine (HNC.out _ _ _ HX1.out.1 ?_).mono ?_); exact (HK.out.of HX1.out.2.2); rintro e x2 ⟨rfl, hb2⟩; have HX2 : Hid (Blk x2 w.heap.size (bs (List.replicate 16 0)) 23 ∧ Below w.heap.size w x2) := Lib.hid ⟨HX1.out.2.1.below hb2 HX1.out.2.1.lt, below_next HX1.out.2.2 hb2⟩; clear hb2)
    | (refine wpList_store_blk rfl 23 (.tmp 4) (.tmp 14) rfl w.heap.size 0 rfl (bs D) rfl HX2.out.1 16 Tryd.size44 HDL.out (by rw [bs_length, List.length_replicate]; omega) (bs_one _) ?_; intro x3 hst3; rw [List.take_zero, List.nil_append, List.drop_of_length_le (by rw [bs_length, List.length_replicate]; omega), List.append_nil] at hst3; have HST := Lib.hid hst3; clear hst3))
  exact ret_blk2 rfl _ rfl HST.out.1 _ Tryd.underlying23 rfl (by rw [HDL.out]; exact Tryd.size44) rfl _ rfl ⟨rfl, HST.out.below HX2.out.2 (Nat.le_refl _)⟩
theorem sl43 (b : Nat) (w : World) : (Instr.sliceAt 43 (.pointer (some ⟨b, 0, none⟩)) none none none).run Tryd.prog w = .ok (.slice (some ⟨b, 0, none⟩) 68 68) w :=
  slice_arr_all (P := Tryd.prog) (t := 43) Tryd.underlying43 Tryd.size3 b 0 w
set_option maxRecDepth 100000 in
set_option maxHeartbeats 1000000 in
theorem digits_aux (d : List UInt8) (D : List Nat) (hD : D = digs d) (hd : d.length = 16) (w : World) :
    Calls Tryd.prog 10 #[.agg (bs d).toArray] w fun e w' => ∃ b, e = .returned (.slice (some ⟨b, 0, none⟩) 68 68) ∧ Blk w' b (is D) 43 ∧ w.heap.size ≤ b ∧ Below w.heap.size w w' := by
  have hDl : (is D).length = 68 := by rw [is_length, hD, digs_length d hd]
  have hdl : (bs d).length = 16 := by rw [bs_length]; exact hd
  have HDG : Hid (∀ W, Calls Tryd.prog 21 #[.agg (bs d).toArray] W fun e w' => e = .returned (.agg (is D).toArray) ∧ Below W.heap.size W w') := Lib.hid fun W => by rw [hD]; exact digitsOf_any d hd W
  have HL := Lib.hid (And.intro hDl hdl); clear hD hd hDl hdl
  have HB : Hid (Blk (w.alloc (.cells (bs d).toArray 23)) w.heap.size (bs d) 23) := Lib.hid (Blk.at w _ _ _ _ rfl rfl)
  have hsl := sl43
  go_enter Tryd.func10, Tryd.ntmps10
  go_wp2_with (first
    | (refine wpList_load_blk rfl 23 (.tmp 1) rfl w.heap.size 0 rfl HB.out _ Tryd.underlying23 rfl 16 Tryd.size44 (by rw [HL.out.2]; omega) ?_; rw [List.drop_zero, List.take_of_length_le (by rw [HL.out.2]; omega)])
    | (refine (HDG.out _).mono ?_; rintro e x1 ⟨rfl, hb1⟩; have HX1 : Hid (Below w.heap.size w x1) := Lib.hid (below_next (below_a1 _ _) hb1); clear hb1)
    | (refine wpList_store_blk rfl 43 (.tmp 3) (.tmp 5) rfl x1.heap.size 0 rfl (is D) rfl (Blk.new' x1 (is (List.replicate 68 0)) _ 43 rfl) 68 Tryd.size43 HL.out.1 (by rw [is_length, List.length_replicate]; omega) (is_one _) ?_; intro x2 hst2; rw [List.take_zero, List.nil_append, List.drop_of_length_le (by rw [is_length, List.length_replicate]; omega), List.append_nil] at hst2; have HST := Lib.hid hst2; clear hst2))
  go_ret
  exact ⟨_, rfl, HST.out.1, HX1.out.size, HST.out.below (al HX1.out _) HX1.out.size⟩
theorem digits_any (d : List UInt8) (hd : d.length = 16) (w : World) :
    Calls Tryd.prog 10 #[.agg (bs d).toArray] w fun e w' => ∃ b, e = .returned (.slice (some ⟨b, 0, none⟩) 68 68) ∧ Blk w' b (is (digs d)) 43 ∧ w.heap.size ≤ b ∧ Below w.heap.size w w' := digits_aux d _ rfl hd w
end Go.Proofs.YtbgcnfikcddcpaaDoor
