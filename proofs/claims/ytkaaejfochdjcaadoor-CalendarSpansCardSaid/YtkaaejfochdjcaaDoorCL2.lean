/-
  CalendarSpans: for every pair of spans and every list of spans the law returns true, and leaves what was there as it was; the tables are as the program's text lays them (the card ties them).
-/
import Derived.Test.YtkaaejfochdjcaaDoorCLaw
import Derived.Test.YtkaaejfochdjcaaDoorCRSpan
import Derived.Deep.RegionHeld3
namespace Go.Proofs.YtkaaejfochdjcaaDoor
open Go.ChangeShapes Go.WideShapes Go.ChangeAt Go.RowKit Go.ChangeMaps
open Cal
set_option linter.unusedVariables false
set_option linter.unusedSimpArgs false
namespace CL2

theorem retM_ex (o : Option (Int × Int)) : ∃ (x y : Int) (b : Bool), retM o = .returned (.tuple #[.agg #[.int .i64 x, .int .i64 y], .bool b]) := by
  cases o with
  | none => exact ⟨0, 0, false, rfl⟩
  | some p => exact ⟨p.1, p.2, true, rfl⟩
theorem run_cut {P : Program} {t e : TypeId} {i : TypeInfo} (h : P.underlying t = some (.slice e)) (hi : P.info? e = some i) (A : Option Addr) (n k c : Nat) (hk : k ≤ c) (w : World) :
    (Instr.slice t (.slice A n c) none (some (.int .i64 (k : Int))) none).run P w = .ok (.slice A k c) w := by
  have h2 : (k : Int) ≤ (c : Int) := by omega
  have h3 : ((k : Int)).toNat = k := by omega
  cases A <;> simp [Instr.slice, Instr.sliceBounds, Instr.sliceBound, asIntOf, run_underlying h, sizeOf, typeInfo, hi, h2, go_sem] <;> (intro h; omega)
theorem sv_app (u v : List (Int × Int)) : sv (u ++ v) = sv u ++ sv v := by simp [sv]
theorem sv_take {W : World} {A : Option Addr} {l : List (Int × Int)} (k : Nat) (h : Rd W A (sv l)) : Rd W A (sv (l.take k)) := by
  by_cases h0 : sv (l.take k) = []
  · exact .inl h0
  · have e : sv l = sv (l.take k) ++ sv (l.drop k) := by rw [← sv_app, List.take_append_drop]
    obtain ⟨b, o, rfl, hc⟩ := h.open (fun e2 => h0 (by rw [e2] at e; exact (List.append_eq_nil_iff.1 e.symm).1))
    refine .inr ⟨b, o, rfl, fun j v hv => hc j v ?_⟩
    rw [e, List.getElem?_append_left (List.getElem?_eq_some_iff.1 hv).1]
    exact hv
set_option maxRecDepth 100000 in
set_option maxHeartbeats 8000000 in
theorem walk_short (ax ay bx by_ x y s t : Int) (m f va be : Bool) (A : Option Addr) (n n0 c : Nat) (w : World) (h20 : ¬ 20 < n) (hn : n ≤ 20)
    (HL : Hid (∀ W, Below w.heap.size w W → Calls Tryd.prog 16 #[] W fun e w' => e = .returned (.bool true) ∧ Below W.heap.size W w'))
    (HM1 : Hid (∀ W, Below w.heap.size w W → Calls Tryd.prog 17 #[.agg #[.int .i64 ax, .int .i64 ay], .agg #[.int .i64 bx, .int .i64 by_]] W fun e w' => e = .returned (.tuple #[.agg #[.int .i64 x, .int .i64 y], .bool m]) ∧ Below W.heap.size W w')) (HM2 : Hid (∀ W, Below w.heap.size w W → Calls Tryd.prog 18 #[.agg #[.int .i64 ax, .int .i64 ay], .agg #[.int .i64 bx, .int .i64 by_]] W fun e w' => e = .returned (.tuple #[.agg #[.int .i64 x, .int .i64 y], .bool m]) ∧ Below W.heap.size W w'))
    (HF1 : Hid (∀ W, Below w.heap.size w W → Calls Tryd.prog 19 #[.slice A n c] W fun e w' => e = .returned (.tuple #[.agg #[.int .i64 s, .int .i64 t], .bool f]) ∧ Below W.heap.size W w')) (HF2 : Hid (∀ W, Below w.heap.size w W → Calls Tryd.prog 20 #[.slice A n c] W fun e w' => e = .returned (.tuple #[.agg #[.int .i64 s, .int .i64 t], .bool f]) ∧ Below W.heap.size W w'))
    (HV1 : Hid (∀ W, Calls Tryd.prog 21 #[.agg #[.int .i64 ax, .int .i64 ay]] W fun e w' => e = .returned (.bool va) ∧ Below W.heap.size W w')) (HV2 : Hid (∀ W, Calls Tryd.prog 22 #[.agg #[.int .i64 ax, .int .i64 ay]] W fun e w' => e = .returned (.bool va) ∧ Below W.heap.size W w'))
    (HB1 : Hid (∀ W, Calls Tryd.prog 23 #[.agg #[.int .i64 ax, .int .i64 ay], .agg #[.int .i64 bx, .int .i64 by_]] W fun e w' => e = .returned (.bool be) ∧ Below W.heap.size W w')) (HB2 : Hid (∀ W, Calls Tryd.prog 24 #[.agg #[.int .i64 ax, .int .i64 ay], .agg #[.int .i64 bx, .int .i64 by_]] W fun e w' => e = .returned (.bool be) ∧ Below W.heap.size W w')) :
    Calls Tryd.prog 4 #[.agg #[.int .i64 ax, .int .i64 ay], .agg #[.int .i64 bx, .int .i64 by_], .slice A n c] w fun e w' => e = .returned (.bool true) ∧ Below w.heap.size w w' := by
  have hq1 : ∀ W, (Op.equalIn 10000 30 (.agg #[.int .i64 x, .int .i64 y]) (.agg #[.int .i64 x, .int .i64 y])).run Tryd.prog W = .ok true W := fun W => by rw [eq_span]; simp
  have hq2 : ∀ W, (Op.equalIn 10000 30 (.agg #[.int .i64 s, .int .i64 t]) (.agg #[.int .i64 s, .int .i64 t])).run Tryd.prog W = .ok true W := fun W => by rw [eq_span]; simp
  have hm1 : (m == m) = true := beq_self_eq_true m
  have hm2 : (f == f) = true := beq_self_eq_true f
  have hm3 : (va == va) = true := beq_self_eq_true va
  have hm4 : (be == be) = true := beq_self_eq_true be
  go_enter Tryd.func4, Tryd.ntmps4
  go_wp2_with (first
    | (refine wpList_load_w2 (by rfl) (.tmp 3) rfl (w.heap.size) rfl (ax) (ay) ((Blk.at _ (iv [ax, ay]) _ 30 _ rfl (by first | rfl | simp)).alloc _) ?_)
    | (refine wpList_load_w2 (by rfl) (.tmp 4) rfl (w.heap.size + 1) rfl (bx) (by_) (Blk.at _ (iv [bx, by_]) _ 30 _ rfl (by first | (simp; done) | (simp; omega))) ?_)
    | ((with_reducible refine (HM1.out _ (below_al (below_al (Below.refl _ _) _) _)).mono ?_); rintro e w1 ⟨rfl, hb1⟩; have HX1 : Hid (Blk w1 (w.heap.size) (iv [ax, ay]) 30 ∧ Blk w1 (w.heap.size + 1) (iv [bx, by_]) 30 ∧ Below w.heap.size w w1) := Lib.hid ⟨((Blk.at _ (iv [ax, ay]) _ 30 _ rfl (by first | rfl | simp)).alloc _).below hb1 (by first | (simp; done) | (simp; omega)), (Blk.at _ (iv [bx, by_]) _ 30 _ rfl (by first | (simp; done) | (simp; omega))).below hb1 (by first | (simp; done) | (simp; omega)), below_next (below_al (below_al (Below.refl _ _) _) _) hb1⟩; clear hb1)
    | (refine wpList_load_w2 (by rfl) (.tmp 3) rfl (w.heap.size) rfl (ax) (ay) (HX1.out.1.alloc _) ?_)
    | (refine wpList_load_w2 (by rfl) (.tmp 4) rfl (w.heap.size + 1) rfl (bx) (by_) (HX1.out.2.1.alloc _) ?_)
    | ((with_reducible refine (HM2.out _ (below_al HX1.out.2.2 _)).mono ?_); rintro e w2 ⟨rfl, hb2⟩; have HX2 : Hid (Blk w2 (w.heap.size) (iv [ax, ay]) 30 ∧ Blk w2 (w.heap.size + 1) (iv [bx, by_]) 30 ∧ Blk w2 (w1.heap.size) (iv [x, y]) 30 ∧ Below w.heap.size w w2) := Lib.hid ⟨(HX1.out.1.alloc _).below hb2 (by simp; have := HX1.out.1.lt; omega), (HX1.out.2.1.alloc _).below hb2 (by simp; have := HX1.out.2.1.lt; omega), (Blk.at _ (iv [x, y]) _ 30 _ rfl (by first | rfl | simp)).below hb2 (by first | (simp; done) | (simp; omega)), below_next (below_al HX1.out.2.2 _) hb2⟩; clear hb2)
    | ((with_reducible refine (HF1.out _ (below_al HX2.out.2.2.2 _)).mono ?_); rintro e w3 ⟨rfl, hb3⟩; have HX3 : Hid (Blk w3 (w.heap.size) (iv [ax, ay]) 30 ∧ Blk w3 (w.heap.size + 1) (iv [bx, by_]) 30 ∧ Blk w3 (w1.heap.size) (iv [x, y]) 30 ∧ Blk w3 (w2.heap.size) (iv [x, y]) 30 ∧ Below w.heap.size w w3) := Lib.hid ⟨(HX2.out.1.alloc _).below hb3 (by simp; have := HX2.out.1.lt; omega), (HX2.out.2.1.alloc _).below hb3 (by simp; have := HX2.out.2.1.lt; omega), (HX2.out.2.2.1.alloc _).below hb3 (by simp; have := HX2.out.2.2.1.lt; omega), (Blk.at _ (iv [x, y]) _ 30 _ rfl (by first | rfl | simp)).below hb3 (by first | (simp; done) | (simp; omega)), below_next (below_al HX2.out.2.2.2 _) hb3⟩; clear hb3)
    | ((with_reducible refine (HF2.out _ (below_al HX3.out.2.2.2.2 _)).mono ?_); rintro e w4 ⟨rfl, hb4⟩; have HX4 : Hid (Blk w4 (w.heap.size) (iv [ax, ay]) 30 ∧ Blk w4 (w.heap.size + 1) (iv [bx, by_]) 30 ∧ Blk w4 (w1.heap.size) (iv [x, y]) 30 ∧ Blk w4 (w2.heap.size) (iv [x, y]) 30 ∧ Blk w4 (w3.heap.size) (iv [s, t]) 30 ∧ Below w.heap.size w w4) := Lib.hid ⟨(HX3.out.1.alloc _).below hb4 (by simp; have := HX3.out.1.lt; omega), (HX3.out.2.1.alloc _).below hb4 (by simp; have := HX3.out.2.1.lt; omega), (HX3.out.2.2.1.alloc _).below hb4 (by simp; have := HX3.out.2.2.1.lt; omega), (HX3.out.2.2.2.1.alloc _).below hb4 (by simp; have := HX3.out.2.2.2.1.lt; omega), (Blk.at _ (iv [s, t]) _ 30 _ rfl (by first | rfl | simp)).below hb4 (by first | (simp; done) | (simp; omega)), below_next (below_al HX3.out.2.2.2.2 _) hb4⟩; clear hb4))
  have HB0 : Hid (Below w.heap.size w (w4.alloc (.cells #[.int .i64 s, .int .i64 t] 30)) ∧ Blk (w4.alloc (.cells #[.int .i64 s, .int .i64 t] 30)) (w.heap.size) (iv [ax, ay]) 30 ∧ Blk (w4.alloc (.cells #[.int .i64 s, .int .i64 t] 30)) (w.heap.size + 1) (iv [bx, by_]) 30 ∧ Blk (w4.alloc (.cells #[.int .i64 s, .int .i64 t] 30)) (w1.heap.size) (iv [x, y]) 30 ∧ Blk (w4.alloc (.cells #[.int .i64 s, .int .i64 t] 30)) (w2.heap.size) (iv [x, y]) 30 ∧ Blk (w4.alloc (.cells #[.int .i64 s, .int .i64 t] 30)) (w3.heap.size) (iv [s, t]) 30 ∧ Blk (w4.alloc (.cells #[.int .i64 s, .int .i64 t] 30)) (w4.heap.size) (iv [s, t]) 30) := Lib.hid ⟨(below_al HX4.out.2.2.2.2.2 _), (HX4.out.1.alloc _), (HX4.out.2.1.alloc _), (HX4.out.2.2.1.alloc _), (HX4.out.2.2.2.1.alloc _), (HX4.out.2.2.2.2.1.alloc _), (Blk.at _ (iv [s, t]) _ 30 _ rfl (by first | rfl | simp))⟩
  obtain ⟨v, hv⟩ : ∃ v, v = w4.alloc (.cells #[.int .i64 s, .int .i64 t] 30) := ⟨_, rfl⟩
  rw [← hv] at HB0
  try rw [← hv]
  have HB : Hid (Below w.heap.size w v ∧ Blk v (w.heap.size) (iv [ax, ay]) 30 ∧ Blk v (w.heap.size + 1) (iv [bx, by_]) 30 ∧ Blk v (w1.heap.size) (iv [x, y]) 30 ∧ Blk v (w2.heap.size) (iv [x, y]) 30 ∧ Blk v (w3.heap.size) (iv [s, t]) 30 ∧ Blk v (w4.heap.size) (iv [s, t]) 30) := HB0
  clear HB0
  have HC : Hid (∀ w', Below v.heap.size v w' → Below v.heap.size v w' ∧ w'.cell? ⟨w.heap.size, 0, none⟩ = some (.int .i64 ax) ∧ w'.cell? ⟨w.heap.size, 1, none⟩ = some (.int .i64 ay) ∧ w'.cell? ⟨w.heap.size + 1, 0, none⟩ = some (.int .i64 bx) ∧ w'.cell? ⟨w.heap.size + 1, 1, none⟩ = some (.int .i64 by_) ∧ w'.cell? ⟨w1.heap.size, 0, none⟩ = some (.int .i64 x) ∧ w'.cell? ⟨w1.heap.size, 1, none⟩ = some (.int .i64 y) ∧ w'.cell? ⟨w2.heap.size, 0, none⟩ = some (.int .i64 x) ∧ w'.cell? ⟨w2.heap.size, 1, none⟩ = some (.int .i64 y) ∧ w'.cell? ⟨w3.heap.size, 0, none⟩ = some (.int .i64 s) ∧ w'.cell? ⟨w3.heap.size, 1, none⟩ = some (.int .i64 t) ∧ w'.cell? ⟨w4.heap.size, 0, none⟩ = some (.int .i64 s) ∧ w'.cell? ⟨w4.heap.size, 1, none⟩ = some (.int .i64 t)) := Lib.hid fun w' h => ⟨h, (HB.out.2.1.below h HB.out.2.1.lt).cell rfl, (HB.out.2.1.below h HB.out.2.1.lt).cell rfl, (HB.out.2.2.1.below h HB.out.2.2.1.lt).cell rfl, (HB.out.2.2.1.below h HB.out.2.2.1.lt).cell rfl, (HB.out.2.2.2.1.below h HB.out.2.2.2.1.lt).cell rfl, (HB.out.2.2.2.1.below h HB.out.2.2.2.1.lt).cell rfl, (HB.out.2.2.2.2.1.below h HB.out.2.2.2.2.1.lt).cell rfl, (HB.out.2.2.2.2.1.below h HB.out.2.2.2.2.1.lt).cell rfl, (HB.out.2.2.2.2.2.1.below h HB.out.2.2.2.2.2.1.lt).cell rfl, (HB.out.2.2.2.2.2.1.below h HB.out.2.2.2.2.2.1.lt).cell rfl, (HB.out.2.2.2.2.2.2.below h HB.out.2.2.2.2.2.2.lt).cell rfl, (HB.out.2.2.2.2.2.2.below h HB.out.2.2.2.2.2.2.lt).cell rfl⟩
  clear hv
  go_region_held3 (fun w' => Below v.heap.size v w' ∧ w'.cell? ⟨w.heap.size, 0, none⟩ = some (.int .i64 ax) ∧ w'.cell? ⟨w.heap.size, 1, none⟩ = some (.int .i64 ay) ∧ w'.cell? ⟨w.heap.size + 1, 0, none⟩ = some (.int .i64 bx) ∧ w'.cell? ⟨w.heap.size + 1, 1, none⟩ = some (.int .i64 by_) ∧ w'.cell? ⟨w1.heap.size, 0, none⟩ = some (.int .i64 x) ∧ w'.cell? ⟨w1.heap.size, 1, none⟩ = some (.int .i64 y) ∧ w'.cell? ⟨w2.heap.size, 0, none⟩ = some (.int .i64 x) ∧ w'.cell? ⟨w2.heap.size, 1, none⟩ = some (.int .i64 y) ∧ w'.cell? ⟨w3.heap.size, 0, none⟩ = some (.int .i64 s) ∧ w'.cell? ⟨w3.heap.size, 1, none⟩ = some (.int .i64 t) ∧ w'.cell? ⟨w4.heap.size, 0, none⟩ = some (.int .i64 s) ∧ w'.cell? ⟨w4.heap.size, 1, none⟩ = some (.int .i64 t)) (first | exact HC.out _ HY5.out | exact HC.out _ HY4.out | exact HC.out _ HY3.out | exact HC.out _ HY2.out | exact HC.out _ HY1.out | exact HC.out _ (Below.refl _ _).drew) (first
    | (go_at_call 21; (with_reducible refine (HV1.out _).mono ?_); rintro e y1 ⟨rfl, hb1⟩; have HY1 : Hid (Below v.heap.size v y1) := Lib.hid (below_next (Below.refl _ _).drew hb1); clear hb1)
    | (go_at_call 22; (with_reducible refine (HV2.out _).mono ?_); rintro e y2 ⟨rfl, hb2⟩; have HY2 : Hid (Below v.heap.size v y2) := Lib.hid (below_next HY1.out hb2); clear hb2)
    | (go_at_call 23; (with_reducible refine (HB1.out _).mono ?_); rintro e y3 ⟨rfl, hb3⟩; have HY3 : Hid (Below v.heap.size v y3) := Lib.hid (below_next HY2.out hb3); clear hb3)
    | (go_at_call 24; (with_reducible refine (HB2.out _).mono ?_); rintro e y4 ⟨rfl, hb4⟩; have HY4 : Hid (Below v.heap.size v y4) := Lib.hid (below_next HY3.out hb4); clear hb4)
    | (go_at_call 16; (with_reducible refine (HL.out _ (below_next HB.out.1 HY4.out)).mono ?_); rintro e y5 ⟨rfl, hb5⟩; have HY5 : Hid (Below v.heap.size v y5) := Lib.hid (below_next HY4.out hb5); clear hb5))
  go_wp2_with fail
  go_ret
  exact ⟨rfl, below_next HB.out.1 HY5.out⟩
set_option maxRecDepth 100000 in
set_option maxHeartbeats 8000000 in
theorem walk_long (ax ay bx by_ x y s t : Int) (m f va be : Bool) (A : Option Addr) (n n0 c : Nat) (w : World) (hn : n = 20) (h20 : 20 < n0) (hm : n0 ≤ 9223372036854775807) (hc : 20 ≤ c)
    (HL : Hid (∀ W, Below w.heap.size w W → Calls Tryd.prog 16 #[] W fun e w' => e = .returned (.bool true) ∧ Below W.heap.size W w'))
    (HM1 : Hid (∀ W, Below w.heap.size w W → Calls Tryd.prog 17 #[.agg #[.int .i64 ax, .int .i64 ay], .agg #[.int .i64 bx, .int .i64 by_]] W fun e w' => e = .returned (.tuple #[.agg #[.int .i64 x, .int .i64 y], .bool m]) ∧ Below W.heap.size W w')) (HM2 : Hid (∀ W, Below w.heap.size w W → Calls Tryd.prog 18 #[.agg #[.int .i64 ax, .int .i64 ay], .agg #[.int .i64 bx, .int .i64 by_]] W fun e w' => e = .returned (.tuple #[.agg #[.int .i64 x, .int .i64 y], .bool m]) ∧ Below W.heap.size W w'))
    (HF1 : Hid (∀ W, Below w.heap.size w W → Calls Tryd.prog 19 #[.slice A n c] W fun e w' => e = .returned (.tuple #[.agg #[.int .i64 s, .int .i64 t], .bool f]) ∧ Below W.heap.size W w')) (HF2 : Hid (∀ W, Below w.heap.size w W → Calls Tryd.prog 20 #[.slice A n c] W fun e w' => e = .returned (.tuple #[.agg #[.int .i64 s, .int .i64 t], .bool f]) ∧ Below W.heap.size W w'))
    (HV1 : Hid (∀ W, Calls Tryd.prog 21 #[.agg #[.int .i64 ax, .int .i64 ay]] W fun e w' => e = .returned (.bool va) ∧ Below W.heap.size W w')) (HV2 : Hid (∀ W, Calls Tryd.prog 22 #[.agg #[.int .i64 ax, .int .i64 ay]] W fun e w' => e = .returned (.bool va) ∧ Below W.heap.size W w'))
    (HB1 : Hid (∀ W, Calls Tryd.prog 23 #[.agg #[.int .i64 ax, .int .i64 ay], .agg #[.int .i64 bx, .int .i64 by_]] W fun e w' => e = .returned (.bool be) ∧ Below W.heap.size W w')) (HB2 : Hid (∀ W, Calls Tryd.prog 24 #[.agg #[.int .i64 ax, .int .i64 ay], .agg #[.int .i64 bx, .int .i64 by_]] W fun e w' => e = .returned (.bool be) ∧ Below W.heap.size W w')) :
    Calls Tryd.prog 4 #[.agg #[.int .i64 ax, .int .i64 ay], .agg #[.int .i64 bx, .int .i64 by_], .slice A n0 c] w fun e w' => e = .returned (.bool true) ∧ Below w.heap.size w w' := by
  obtain ⟨i0, hi0⟩ : ∃ i, Tryd.prog.info? 30 = some i := ⟨_, rfl⟩
  have hcut : ∀ W, (Instr.slice 31 (.slice A n0 c) none (some (.int .i64 20)) none).run Tryd.prog W = .ok (.slice A n c) W := fun W => by rw [hn]; exact run_cut Tryd.underlying31 hi0 A n0 20 c hc W
  clear hn hi0
  have hq1 : ∀ W, (Op.equalIn 10000 30 (.agg #[.int .i64 x, .int .i64 y]) (.agg #[.int .i64 x, .int .i64 y])).run Tryd.prog W = .ok true W := fun W => by rw [eq_span]; simp
  have hq2 : ∀ W, (Op.equalIn 10000 30 (.agg #[.int .i64 s, .int .i64 t]) (.agg #[.int .i64 s, .int .i64 t])).run Tryd.prog W = .ok true W := fun W => by rw [eq_span]; simp
  have hm1 : (m == m) = true := beq_self_eq_true m
  have hm2 : (f == f) = true := beq_self_eq_true f
  have hm3 : (va == va) = true := beq_self_eq_true va
  have hm4 : (be == be) = true := beq_self_eq_true be
  go_enter Tryd.func4, Tryd.ntmps4
  go_wp2_with (first
    | (refine wpList_load_w2 (by rfl) (.tmp 3) rfl (w.heap.size) rfl (ax) (ay) ((Blk.at _ (iv [ax, ay]) _ 30 _ rfl (by first | rfl | simp)).alloc _) ?_)
    | (refine wpList_load_w2 (by rfl) (.tmp 4) rfl (w.heap.size + 1) rfl (bx) (by_) (Blk.at _ (iv [bx, by_]) _ 30 _ rfl (by first | (simp; done) | (simp; omega))) ?_)
    | ((with_reducible refine (HM1.out _ (below_al (below_al (Below.refl _ _) _) _)).mono ?_); rintro e w1 ⟨rfl, hb1⟩; have HX1 : Hid (Blk w1 (w.heap.size) (iv [ax, ay]) 30 ∧ Blk w1 (w.heap.size + 1) (iv [bx, by_]) 30 ∧ Below w.heap.size w w1) := Lib.hid ⟨((Blk.at _ (iv [ax, ay]) _ 30 _ rfl (by first | rfl | simp)).alloc _).below hb1 (by first | (simp; done) | (simp; omega)), (Blk.at _ (iv [bx, by_]) _ 30 _ rfl (by first | (simp; done) | (simp; omega))).below hb1 (by first | (simp; done) | (simp; omega)), below_next (below_al (below_al (Below.refl _ _) _) _) hb1⟩; clear hb1)
    | (refine wpList_load_w2 (by rfl) (.tmp 3) rfl (w.heap.size) rfl (ax) (ay) (HX1.out.1.alloc _) ?_)
    | (refine wpList_load_w2 (by rfl) (.tmp 4) rfl (w.heap.size + 1) rfl (bx) (by_) (HX1.out.2.1.alloc _) ?_)
    | ((with_reducible refine (HM2.out _ (below_al HX1.out.2.2 _)).mono ?_); rintro e w2 ⟨rfl, hb2⟩; have HX2 : Hid (Blk w2 (w.heap.size) (iv [ax, ay]) 30 ∧ Blk w2 (w.heap.size + 1) (iv [bx, by_]) 30 ∧ Blk w2 (w1.heap.size) (iv [x, y]) 30 ∧ Below w.heap.size w w2) := Lib.hid ⟨(HX1.out.1.alloc _).below hb2 (by simp; have := HX1.out.1.lt; omega), (HX1.out.2.1.alloc _).below hb2 (by simp; have := HX1.out.2.1.lt; omega), (Blk.at _ (iv [x, y]) _ 30 _ rfl (by first | rfl | simp)).below hb2 (by first | (simp; done) | (simp; omega)), below_next (below_al HX1.out.2.2 _) hb2⟩; clear hb2)
    | ((with_reducible refine (HF1.out _ (below_al HX2.out.2.2.2 _)).mono ?_); rintro e w3 ⟨rfl, hb3⟩; have HX3 : Hid (Blk w3 (w.heap.size) (iv [ax, ay]) 30 ∧ Blk w3 (w.heap.size + 1) (iv [bx, by_]) 30 ∧ Blk w3 (w1.heap.size) (iv [x, y]) 30 ∧ Blk w3 (w2.heap.size) (iv [x, y]) 30 ∧ Below w.heap.size w w3) := Lib.hid ⟨(HX2.out.1.alloc _).below hb3 (by simp; have := HX2.out.1.lt; omega), (HX2.out.2.1.alloc _).below hb3 (by simp; have := HX2.out.2.1.lt; omega), (HX2.out.2.2.1.alloc _).below hb3 (by simp; have := HX2.out.2.2.1.lt; omega), (Blk.at _ (iv [x, y]) _ 30 _ rfl (by first | rfl | simp)).below hb3 (by first | (simp; done) | (simp; omega)), below_next (below_al HX2.out.2.2.2 _) hb3⟩; clear hb3)
    | ((with_reducible refine (HF2.out _ (below_al HX3.out.2.2.2.2 _)).mono ?_); rintro e w4 ⟨rfl, hb4⟩; have HX4 : Hid (Blk w4 (w.heap.size) (iv [ax, ay]) 30 ∧ Blk w4 (w.heap.size + 1) (iv [bx, by_]) 30 ∧ Blk w4 (w1.heap.size) (iv [x, y]) 30 ∧ Blk w4 (w2.heap.size) (iv [x, y]) 30 ∧ Blk w4 (w3.heap.size) (iv [s, t]) 30 ∧ Below w.heap.size w w4) := Lib.hid ⟨(HX3.out.1.alloc _).below hb4 (by simp; have := HX3.out.1.lt; omega), (HX3.out.2.1.alloc _).below hb4 (by simp; have := HX3.out.2.1.lt; omega), (HX3.out.2.2.1.alloc _).below hb4 (by simp; have := HX3.out.2.2.1.lt; omega), (HX3.out.2.2.2.1.alloc _).below hb4 (by simp; have := HX3.out.2.2.2.1.lt; omega), (Blk.at _ (iv [s, t]) _ 30 _ rfl (by first | rfl | simp)).below hb4 (by first | (simp; done) | (simp; omega)), below_next (below_al HX3.out.2.2.2.2 _) hb4⟩; clear hb4))
  have HB0 : Hid (Below w.heap.size w (w4.alloc (.cells #[.int .i64 s, .int .i64 t] 30)) ∧ Blk (w4.alloc (.cells #[.int .i64 s, .int .i64 t] 30)) (w.heap.size) (iv [ax, ay]) 30 ∧ Blk (w4.alloc (.cells #[.int .i64 s, .int .i64 t] 30)) (w.heap.size + 1) (iv [bx, by_]) 30 ∧ Blk (w4.alloc (.cells #[.int .i64 s, .int .i64 t] 30)) (w1.heap.size) (iv [x, y]) 30 ∧ Blk (w4.alloc (.cells #[.int .i64 s, .int .i64 t] 30)) (w2.heap.size) (iv [x, y]) 30 ∧ Blk (w4.alloc (.cells #[.int .i64 s, .int .i64 t] 30)) (w3.heap.size) (iv [s, t]) 30 ∧ Blk (w4.alloc (.cells #[.int .i64 s, .int .i64 t] 30)) (w4.heap.size) (iv [s, t]) 30) := Lib.hid ⟨(below_al HX4.out.2.2.2.2.2 _), (HX4.out.1.alloc _), (HX4.out.2.1.alloc _), (HX4.out.2.2.1.alloc _), (HX4.out.2.2.2.1.alloc _), (HX4.out.2.2.2.2.1.alloc _), (Blk.at _ (iv [s, t]) _ 30 _ rfl (by first | rfl | simp))⟩
  obtain ⟨v, hv⟩ : ∃ v, v = w4.alloc (.cells #[.int .i64 s, .int .i64 t] 30) := ⟨_, rfl⟩
  rw [← hv] at HB0
  try rw [← hv]
  have HB : Hid (Below w.heap.size w v ∧ Blk v (w.heap.size) (iv [ax, ay]) 30 ∧ Blk v (w.heap.size + 1) (iv [bx, by_]) 30 ∧ Blk v (w1.heap.size) (iv [x, y]) 30 ∧ Blk v (w2.heap.size) (iv [x, y]) 30 ∧ Blk v (w3.heap.size) (iv [s, t]) 30 ∧ Blk v (w4.heap.size) (iv [s, t]) 30) := HB0
  clear HB0
  have HC : Hid (∀ w', Below v.heap.size v w' → Below v.heap.size v w' ∧ w'.cell? ⟨w.heap.size, 0, none⟩ = some (.int .i64 ax) ∧ w'.cell? ⟨w.heap.size, 1, none⟩ = some (.int .i64 ay) ∧ w'.cell? ⟨w.heap.size + 1, 0, none⟩ = some (.int .i64 bx) ∧ w'.cell? ⟨w.heap.size + 1, 1, none⟩ = some (.int .i64 by_) ∧ w'.cell? ⟨w1.heap.size, 0, none⟩ = some (.int .i64 x) ∧ w'.cell? ⟨w1.heap.size, 1, none⟩ = some (.int .i64 y) ∧ w'.cell? ⟨w2.heap.size, 0, none⟩ = some (.int .i64 x) ∧ w'.cell? ⟨w2.heap.size, 1, none⟩ = some (.int .i64 y) ∧ w'.cell? ⟨w3.heap.size, 0, none⟩ = some (.int .i64 s) ∧ w'.cell? ⟨w3.heap.size, 1, none⟩ = some (.int .i64 t) ∧ w'.cell? ⟨w4.heap.size, 0, none⟩ = some (.int .i64 s) ∧ w'.cell? ⟨w4.heap.size, 1, none⟩ = some (.int .i64 t)) := Lib.hid fun w' h => ⟨h, (HB.out.2.1.below h HB.out.2.1.lt).cell rfl, (HB.out.2.1.below h HB.out.2.1.lt).cell rfl, (HB.out.2.2.1.below h HB.out.2.2.1.lt).cell rfl, (HB.out.2.2.1.below h HB.out.2.2.1.lt).cell rfl, (HB.out.2.2.2.1.below h HB.out.2.2.2.1.lt).cell rfl, (HB.out.2.2.2.1.below h HB.out.2.2.2.1.lt).cell rfl, (HB.out.2.2.2.2.1.below h HB.out.2.2.2.2.1.lt).cell rfl, (HB.out.2.2.2.2.1.below h HB.out.2.2.2.2.1.lt).cell rfl, (HB.out.2.2.2.2.2.1.below h HB.out.2.2.2.2.2.1.lt).cell rfl, (HB.out.2.2.2.2.2.1.below h HB.out.2.2.2.2.2.1.lt).cell rfl, (HB.out.2.2.2.2.2.2.below h HB.out.2.2.2.2.2.2.lt).cell rfl, (HB.out.2.2.2.2.2.2.below h HB.out.2.2.2.2.2.2.lt).cell rfl⟩
  clear hv
  go_region_held3 (fun w' => Below v.heap.size v w' ∧ w'.cell? ⟨w.heap.size, 0, none⟩ = some (.int .i64 ax) ∧ w'.cell? ⟨w.heap.size, 1, none⟩ = some (.int .i64 ay) ∧ w'.cell? ⟨w.heap.size + 1, 0, none⟩ = some (.int .i64 bx) ∧ w'.cell? ⟨w.heap.size + 1, 1, none⟩ = some (.int .i64 by_) ∧ w'.cell? ⟨w1.heap.size, 0, none⟩ = some (.int .i64 x) ∧ w'.cell? ⟨w1.heap.size, 1, none⟩ = some (.int .i64 y) ∧ w'.cell? ⟨w2.heap.size, 0, none⟩ = some (.int .i64 x) ∧ w'.cell? ⟨w2.heap.size, 1, none⟩ = some (.int .i64 y) ∧ w'.cell? ⟨w3.heap.size, 0, none⟩ = some (.int .i64 s) ∧ w'.cell? ⟨w3.heap.size, 1, none⟩ = some (.int .i64 t) ∧ w'.cell? ⟨w4.heap.size, 0, none⟩ = some (.int .i64 s) ∧ w'.cell? ⟨w4.heap.size, 1, none⟩ = some (.int .i64 t)) (first | exact HC.out _ HY5.out | exact HC.out _ HY4.out | exact HC.out _ HY3.out | exact HC.out _ HY2.out | exact HC.out _ HY1.out | exact HC.out _ (Below.refl _ _).drew) (first
    | (go_at_call 21; (with_reducible refine (HV1.out _).mono ?_); rintro e y1 ⟨rfl, hb1⟩; have HY1 : Hid (Below v.heap.size v y1) := Lib.hid (below_next (Below.refl _ _).drew hb1); clear hb1)
    | (go_at_call 22; (with_reducible refine (HV2.out _).mono ?_); rintro e y2 ⟨rfl, hb2⟩; have HY2 : Hid (Below v.heap.size v y2) := Lib.hid (below_next HY1.out hb2); clear hb2)
    | (go_at_call 23; (with_reducible refine (HB1.out _).mono ?_); rintro e y3 ⟨rfl, hb3⟩; have HY3 : Hid (Below v.heap.size v y3) := Lib.hid (below_next HY2.out hb3); clear hb3)
    | (go_at_call 24; (with_reducible refine (HB2.out _).mono ?_); rintro e y4 ⟨rfl, hb4⟩; have HY4 : Hid (Below v.heap.size v y4) := Lib.hid (below_next HY3.out hb4); clear hb4)
    | (go_at_call 16; (with_reducible refine (HL.out _ (below_next HB.out.1 HY4.out)).mono ?_); rintro e y5 ⟨rfl, hb5⟩; have HY5 : Hid (Below v.heap.size v y5) := Lib.hid (below_next HY4.out hb5); clear hb5))
  go_wp2_with fail
  go_ret
  exact ⟨rfl, below_next HB.out.1 HY5.out⟩
theorem walk (ax ay bx by_ : Int) (A : Option Addr) (l : List (Int × Int)) (c : Nat) (hlc : l.length ≤ c) (hcm : c ≤ maxLen) (w : World) (hr : Rd w A (sv l)) (hK : KC w) : Calls Tryd.prog 4 #[.agg #[.int .i64 ax, .int .i64 ay], .agg #[.int .i64 bx, .int .i64 by_], .slice A l.length c] w fun e w' => e = .returned (.bool true) ∧ Below w.heap.size w w' := by
  have hm' : c ≤ 9223372036854775807 := by unfold maxLen at hcm; omega
  obtain ⟨x, y, m, hmeet⟩ := retM_ex (meetP ax ay bx by_)
  have HL : Hid (∀ W, Below w.heap.size w W → Calls Tryd.prog 16 #[] W fun e w' => e = .returned (.bool true) ∧ Below W.heap.size W w') := Lib.hid fun W hb => lives_any W (hK.below hb)
  have HM1 : Hid (∀ W, Below w.heap.size w W → Calls Tryd.prog 17 #[.agg #[.int .i64 ax, .int .i64 ay], .agg #[.int .i64 bx, .int .i64 by_]] W fun e w' => e = .returned (.tuple #[.agg #[.int .i64 x, .int .i64 y], .bool m]) ∧ Below W.heap.size W w') := Lib.hid fun W _ => by have := meet_any ax ay bx by_ W; rw [hmeet] at this; exact this
  have HM2 : Hid (∀ W, Below w.heap.size w W → Calls Tryd.prog 18 #[.agg #[.int .i64 ax, .int .i64 ay], .agg #[.int .i64 bx, .int .i64 by_]] W fun e w' => e = .returned (.tuple #[.agg #[.int .i64 x, .int .i64 y], .bool m]) ∧ Below W.heap.size W w') := Lib.hid fun W _ => by have := rmeet_any ax ay bx by_ W; rw [hmeet] at this; exact this
  have HV1 : Hid (∀ W, Calls Tryd.prog 21 #[.agg #[.int .i64 ax, .int .i64 ay]] W fun e w' => e = .returned (.bool (vaB ax ay)) ∧ Below W.heap.size W w') := Lib.hid fun W => valid_any ax ay W
  have HV2 : Hid (∀ W, Calls Tryd.prog 22 #[.agg #[.int .i64 ax, .int .i64 ay]] W fun e w' => e = .returned (.bool (vaB ax ay)) ∧ Below W.heap.size W w') := Lib.hid fun W => by
    cases h : vaB ax ay
    · exact rvalid_no ax ay h W
    · exact rvalid_yes ax ay h W
  have HB1 : Hid (∀ W, Calls Tryd.prog 23 #[.agg #[.int .i64 ax, .int .i64 ay], .agg #[.int .i64 bx, .int .i64 by_]] W fun e w' => e = .returned (.bool (befB ax ay bx by_)) ∧ Below W.heap.size W w') := Lib.hid fun W => before_any ax ay bx by_ W
  have HB2 : Hid (∀ W, Calls Tryd.prog 24 #[.agg #[.int .i64 ax, .int .i64 ay], .agg #[.int .i64 bx, .int .i64 by_]] W fun e w' => e = .returned (.bool (befB ax ay bx by_)) ∧ Below W.heap.size W w') := Lib.hid fun W => rbefore_any ax ay bx by_ W
  by_cases h20 : 20 < l.length
  · obtain ⟨s, t, f, hfi⟩ := retM_ex (firstP (l.take 20))
    have hl : 20 = (l.take 20).length := by rw [List.length_take]; omega
    exact walk_long ax ay bx by_ x y s t m f _ _ A 20 l.length c w rfl h20 (by omega) (by omega) HL HM1 HM2
      (Lib.hid fun W hb => by have := first_any (l.take 20) A 20 c hl (by omega) hcm W ((sv_take 20 hr).below hb); rw [hfi] at this; exact this)
      (Lib.hid fun W hb => by have := rfirst_any (l.take 20) A 20 c hl (by omega) hcm W ((sv_take 20 hr).below hb); rw [hfi] at this; exact this) HV1 HV2 HB1 HB2
  · obtain ⟨s, t, f, hfi⟩ := retM_ex (firstP l)
    exact walk_short ax ay bx by_ x y s t m f _ _ A l.length 0 c w h20 (by omega) HL HM1 HM2
      (Lib.hid fun W hb => by have := first_any l A l.length c rfl hlc hcm W (hr.below hb); rw [hfi] at this; exact this)
      (Lib.hid fun W hb => by have := rfirst_any l A l.length c rfl hlc hcm W (hr.below hb); rw [hfi] at this; exact this) HV1 HV2 HB1 HB2

set_option maxRecDepth 100000 in
theorem contract (H : Type) (enc : TypeId × Value → H) (W : World) (base : Nat) (args : Array Value) (ds gs : List (DataW H)) (before : List MemPlace)
    (hval : ∀ (j : Nat) t v, Tryd.f4.params[j]? = some t → args[j]? = some v → Value.okWide Tryd.prog W .any base t v)
    (hW : DataW.Whole enc Tryd.prog Tryd.f4.params.toList Rows.calendarSpansSpec.vars false W args.toList ds gs before) (hK : KC W) :
    Calls Tryd.prog 4 args W fun e W' => ∃ v, e = .returned v ∧ Rows.calendarSpansSpec.post enc Tryd.prog Tryd.f4 false true false false W args v W' := by
  have hW' := hW
  obtain ⟨p, q, hA0, hV, rfl, hfz, hnd⟩ := hW
  have hA : DataW.TrodAll enc Tryd.prog W 0 (fun _ => true) true Tryd.f4.params.toList args.toList ds p := hA0
  rw [Tryd.params4] at hA hval
  obtain ⟨v0, v1, v2, d0, d1, d2, p0, p1, p2, rfl, rfl, rfl, h0, h1, h2⟩ := trodAll_three hA
  obtain ⟨rfl, rfl⟩ := trodVars_none hV
  obtain ⟨ax, ay, rfl, axi, ayi⟩ := open_span (hval 0 30 v0 rfl rfl) h0
  obtain ⟨bx, by_, rfl, bxi, byi⟩ := open_span (hval 1 30 v1 rfl rfl) h1
  obtain ⟨lA, ll, lc, rfl, lr, li, ln, lm⟩ := open_svs (hval 2 31 v2 rfl rfl) h2
  have hargs : (#[.agg #[.int .i64 ax, .int .i64 ay], .agg #[.int .i64 bx, .int .i64 by_], .slice lA ll.length lc] : Array Value) = #[.agg #[.int .i64 ax, .int .i64 ay], .agg #[.int .i64 bx, .int .i64 by_], .slice lA ll.length lc] := by rfl
  have hwalk : Calls Tryd.prog 4 #[.agg #[.int .i64 ax, .int .i64 ay], .agg #[.int .i64 bx, .int .i64 by_], .slice lA ll.length lc] W fun e W' => e = .returned (.bool true) ∧ Below W.heap.size W W' := by
    rw [hargs]
    exact walk ax ay bx by_ lA ll lc ln lm W lr hK
  refine hwalk.mono fun e W' ⟨he, hb⟩ => ⟨_, he, ?_⟩
  exact law_post rfl rfl (by kernel_rfl) hW' rfl hb

set_option maxRecDepth 100000 in
theorem lifted (os : Os) (started : os.Started) (H : Type) (enc : TypeId × Value → H) :
    ReturnsInHanded {} Tryd.checked os 4 .any (fun w args => (Rows.calendarSpansSpec.pre enc Tryd.prog Tryd.f4 [] false w args ∧ laidMetH Tryd.prog laid4 w) ∧ sizedMet enc Tryd.prog Tryd.f4 (OpenSpec.ofChange Rows.calendarSpansSpec) false w args)
      (Rows.calendarSpansSpec.post enc Tryd.prog Tryd.f4 false true false false) := by
  refine returnsInHanded_of_change_and (C := Tryd.checked) (X := fun w _ => laidMetH Tryd.prog laid4 w) (fun _ _ _ hh h => h.of_heap hh) Tryd.own started (by kernel_rfl) Tryd.func4
    (ChangeSpec.witness_shaped (enc := enc) (C := Tryd.checked) (os := os) (X := fun w _ => laidMetH Tryd.prog laid4 w) false (World.doorLaid Tryd.prog 400 os) #[.agg #[.int .i64 0, .int .i64 0], .agg #[.int .i64 0, .int .i64 0], .slice none 0 0] 8 rfl (World.shaped_of_RefB (by kernel_rfl) (by kernel_rfl)) (by kernel_rfl) (by kernel_rfl) (by kernel_rfl) (door_met4 os _)) ?_
  intro W base args ds gs before hval hW _ hsz hL _
  exact contract H enc W base args ds gs before hval hW (of_laid4 hL)

theorem row : Rows.CalendarSpansSaid :=
  OpenClaim.holds_of_wide 4 Tryd.f4 rfl rfl rfl rfl rfl rfl rfl ⟨rfl, rfl, rfl, rfl, rfl⟩ rfl rfl rfl rfl rfl (by kernel_rfl) Tryd.func4 (by kernel_rfl)
    (of_decide_eq_true (by kernel_rfl)) (by unfold Func.isWrapper; first | (rw [if_pos (by decide +kernel)]; kernel_rfl) | (rw [if_neg (by decide +kernel)]; exact ⟨rfl, rfl⟩))
    (fun os started H enc _ => lifted os started H enc)

theorem proved : Rows.CalendarSpansCardSaid :=
  Claim7.holds_tied_plain_at .later [] [.data, .data, .data, .data] true (true, "520023937c31a48c793982c9874225f2c411890cd26ecc880d0bbeb410484da2") false
    row (fun _ h => by cases h) (by kernel_rfl) (fun _ h => by cases h) calendarSpans_row_tie rfl ⟨rfl, rfl⟩ (by kernel_rfl) rfl
    (fun f fn hf hfn => by
      obtain rfl : f = 4 := Option.some.inj ((show Tryd.prog.funcNamed "wordbook/wordbooklaw04.CalendarSpans" = some 4 by kernel_rfl).symm.trans hf) |>.symm
      obtain rfl : fn = Tryd.f4 := (Option.some.inj (Tryd.func4.symm.trans hfn)).symm
      exact ⟨by kernel_rfl, fun j t ht => by
        rw [Tryd.params4] at ht
        have hm : t ∈ [30, 30, 31] := by simpa using Array.mem_of_getElem? ht
        have hall : ([30, 30, 31].all fun u => !Tryd.prog.wantsStandIn u) = true := by kernel_rfl
        exact (show Tryd.prog.wantsStandIn t = false by simpa using List.all_eq_true.1 hall t hm)⟩)
    (by kernel_rfl)
end CL2
end Go.Proofs.YtkaaejfochdjcaaDoor
