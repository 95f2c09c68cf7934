/-
  SignIsAccepted: for every byte of a seed, height, index and message the law returns true; the table of constants is as the program's text lays it (the card ties it).
-/
import Derived.Test.YtbgcnfikcddcpaaDoorSLaw
import Derived.Test.YtbgcnfikcddcpaaDoorSSan
namespace Go.Proofs.YtbgcnfikcddcpaaDoor
open Go.ChangeShapes Go.WideShapes Go.ChangeAt Go.RowKit Go.ChangeMaps
open Sha Sgn
set_option linter.unusedVariables false
set_option linter.unusedSimpArgs false
namespace SL4
theorem cut_last (E T : List UInt8) (hT : 1 ≤ T.length) : (E ++ T).take ((E ++ T).length - 1) = E ++ T.take (T.length - 1) := by
  rw [List.take_append, List.length_append, List.take_of_length_le (by omega), show E.length + T.length - 1 - E.length = T.length - 1 from by omega]
set_option maxRecDepth 100000 in
set_option maxHeartbeats 1000000 in
theorem walk_big (c ht ix : UInt8) (m : List UInt8) (hm : 200 < m.length) (w : World) (hK : KH w) :
    Calls Tryd.prog 6 #[.int .u8 c.toNat, .int .u8 ht.toNat, .int .u8 ix.toNat, .string (sb m)] w fun e w' => e = .returned (.bool true) ∧ Below w.heap.size w w' := by
  have hsz := sb_size m
  have hd : decide ((200 : Int) < (m.length : Int)) = true := by simp; omega
  clear hm
  have HK := Lib.hid hK
  clear hK
  go_enter Tryd.func6, Tryd.ntmps6
  go_wp2_with (refine (sanity_any _ HK.out).mono ?_; rintro e x1 ⟨rfl, hb1⟩; have HX1 := Lib.hid hb1; clear hb1)
  go_ret
  exact ⟨rfl, HX1.out⟩
set_option maxRecDepth 100000 in
set_option maxHeartbeats 4000000 in
theorem walk_aux (h i : Nat) (H I : Int) (hH : H = (h : Int)) (hI : I = (i : Int)) (h2 : h ≤ 2) (hi : i < 2 ^ h) (c ht ix : UInt8) (S P G GX GS m : List UInt8) (hS : S = seedB c) (hP : P = node S h 0) (hG : G = sgn S h i m) (hGX : GX = G ++ [120]) (hGS : GS = G.take (G.length - 1)) (hm : m.length ≤ 200)
    (hrem : (wrap64 (ht.toNat : Int)).tmod 3 = H) (P2 : Int) (hshf : ∀ W, Sem.run Tryd.prog (Op.shift BinOp.shl IntKind.i64 1 IntKind.i64 H) W = .ok (.int .i64 P2) W) (hP2 : P2 ≠ 0) (hrem2 : (wrap64 (ix.toNat : Int)).tmod P2 = I) (w : World) (hK : KH w) :
    Calls Tryd.prog 6 #[.int .u8 c.toNat, .int .u8 ht.toNat, .int .u8 ix.toNat, .string (sb m)] w fun e w' => e = .returned (.bool true) ∧ Below w.heap.size w w' := by
  have hsz := sb_size m
  have hd : decide ((200 : Int) < (m.length : Int)) = false := by simp; omega
  have hSl : S.length = 32 := by rw [hS, seedB_length]
  have hPl : P.length = 16 := by rw [hP, node_length]
  have hi64 : i < 64 := by have : 2 ^ h ≤ 2 ^ 6 := Nat.pow_le_pow_right (by omega) (by omega); omega
  have hGl : G.length = (en (i : Int)).length + (1088 + 16 * h) := by rw [hG, sgn_length]
  have hel : (en (i : Int)).length ≤ 9 := en_len9 (i : Int)
  have hGg : ∀ R, gI (G ++ R) = ((i : Int), (en (i : Int)).length, 0) := fun R => by rw [hG, sgn, List.append_assoc]; exact gI_en (i : Int) (by unfold inI; omega) _
  have hSd : Hid (∀ W, Calls Tryd.prog 20 #[.int .u8 c.toNat] W fun e w' => e = .returned (.string (sb S)) ∧ Below W.heap.size W w') := Lib.hid fun W => by rw [hS]; exact seed_any c W
  have HPU : Hid (∀ W, KH W → Calls Tryd.prog 12 #[.string (sb S), .int .i64 H] W fun e w' => e = .returned (.tuple #[.agg (bs P).toArray, .int .i64 0]) ∧ Below W.heap.size W w') := Lib.hid fun W hk => public_yes S P h H hH hSl (by omega) hP W hk
  have HSG : Hid (∀ W, KH W → Calls Tryd.prog 14 #[.string (sb S), .int .i64 H, .int .i64 I, .string (sb m)] W fun e w' => e = .returned (.tuple #[.string (sb G), .int .i64 0]) ∧ Below W.heap.size W w') := Lib.hid fun W hk => by rw [hG]; exact sign_any S m h i H I hH hI hSl (by omega) hi (by omega) W hk
  have HV1 : Hid (∀ W, KH W → Calls Tryd.prog 18 #[.agg (bs P).toArray, .int .i64 H, .string (sb m), .string (sb G)] W fun e w' => e = .returned (.tuple #[.int .i64 I, .int .i64 0]) ∧ Below W.heap.size W w') := Lib.hid fun W hk => by
    have h1 := verify_any P m G W H hPl (by omega) hk
    have e : ver P H m G = (I, 0) := by rw [hG, hP, hH, hI]; exact ver_sgn S m h i (by omega) hi (by omega)
    rw [e] at h1
    exact h1
  have HV2 : Hid (∀ W, KH W → Calls Tryd.prog 18 #[.agg (bs P).toArray, .int .i64 H, .string (sb m), .string (sb GX)] W fun e w' => e = .returned (.tuple #[.int .i64 0, .int .i64 2]) ∧ Below W.heap.size W w') := Lib.hid fun W hk => by
    have h1 := verify_any P m GX W H hPl (by rw [hGX, List.length_append]; simp only [List.length_cons, List.length_nil]; omega) hk
    have e : ver P H m GX = (0, 2) := by
      rw [hH]
      refine ver_len P m GX h i _ (by omega) (by omega) (by rw [hGX]; exact hGg _) ?_
      rw [hGX, List.length_append]
      simp only [List.length_cons, List.length_nil]
      omega
    rw [e] at h1
    exact h1
  have HV3 : Hid (∀ W, KH W → Calls Tryd.prog 18 #[.agg (bs P).toArray, .int .i64 H, .string (sb m), .string (sb GS)] W fun e w' => e = .returned (.tuple #[.int .i64 0, .int .i64 2]) ∧ Below W.heap.size W w') := Lib.hid fun W hk => by
    have hGSl : GS.length = G.length - 1 := by rw [hGS, List.length_take]; omega
    have h1 := verify_any P m GS W H hPl (by omega) hk
    have e : ver P H m GS = (0, 2) := by
      rw [hH]
      have hcut : ∃ T, GS = en (i : Int) ++ T := by
        obtain ⟨T, hT⟩ : ∃ T, G = en (i : Int) ++ T := ⟨_, by rw [hG, sgn]⟩
        have hTl : 1 ≤ T.length := by rw [hT, List.length_append] at hGl; omega
        exact ⟨T.take (T.length - 1), by rw [hGS, hT, cut_last _ _ hTl]⟩
      obtain ⟨T, hT⟩ := hcut
      refine ver_len P m GS h i (en (i : Int)).length (by omega) (by omega) (by rw [hT]; exact gI_en (i : Int) (by unfold inI; omega) _) ?_
      omega
    rw [e] at h1
    exact h1
  obtain ⟨gl, hgl⟩ : ∃ gl, gl = G.length := ⟨_, rfl⟩
  obtain ⟨g1, hg1⟩ : ∃ g1, gl = g1 + 1 := ⟨gl - 1, by omega⟩
  have hGz : (sb G).size = gl := by rw [sb_size, hgl]
  have hxz : ({ data := #[120] } : ByteArray) = sb [120] := rfl
  have hcat : sb G ++ { data := #[120] } = sb GX := by rw [hxz, sb_append, hGX]
  have hadd := fun (W : World) => run_cat (P := Tryd.prog) (sb G) { data := #[120] } (by rw [sb_size]; show _ + 1 ≤ _; omega) W
  have hcut : (sb G).extract 0 g1 = sb GS := by rw [sb_take, hGS]; congr 2; omega
  have hg2 : decide ((gl : Int) < 2) = false := by simp; omega
  have hwr : IntKind.i64.wrap (g1 : Int) = (g1 : Int) := IntWalk.i64_in _ (by omega)
  have hz0 : (0 : Int) ≤ (g1 : Int) := by omega
  have hzl : (g1 : Int) ≤ (gl : Int) := by omega
  have hsub2 : (gl : Int) - 1 = (g1 : Int) := by omega
  have hle : g1 ≤ gl := by omega
  have HPB : Hid ((bs P).length = 16) := Lib.hid (by rw [bs_length]; exact hPl)
  have HK := Lib.hid hK
  clear hK hS hP hG hGX hGS hSl hPl hGl hel hGg hi64 hH hI hi hxz hgl hg1
  go_enter Tryd.func6, Tryd.ntmps6
  go_wp2_with (first
    | (refine (sanity_any _ HK.out).mono ?_; rintro e x1 ⟨rfl, hb1⟩; have HX1 := Lib.hid hb1; clear hb1)
    | ((with_reducible refine (hSd.out _).mono ?_); rintro e x2 ⟨rfl, hb2⟩; have HX2 : Hid (Below w.heap.size w x2) := Lib.hid (below_next HX1.out hb2); clear hb2)
    | ((with_reducible refine (HPU.out _ ?_).mono ?_); exact (HK.out.of HX2.out); rintro e x3 ⟨rfl, hb3⟩; have HX3 : Hid (Below w.heap.size w x3) := Lib.hid (below_next HX2.out hb3); clear hb3)
    | (refine wpList_store_blk rfl 23 (.tmp 12) (.tmp 40) rfl x3.heap.size 0 rfl (bs P) rfl (Blk.new' x3 (bs (List.replicate 16 0)) _ 23 rfl) 16 Tryd.size44 HPB.out (by rw [bs_length, List.length_replicate]; omega) (bs_one _) ?_; intro x4 hst4; rw [List.take_zero, List.nil_append, List.drop_of_length_le (by rw [bs_length, List.length_replicate]; omega), List.append_nil] at hst4; have HX4 : Hid (Blk x4 x3.heap.size (bs P) 23 ∧ Below w.heap.size w x4) := Lib.hid ⟨hst4.1, hst4.below (al HX3.out _) HX3.out.size⟩; clear hst4)
    | ((with_reducible refine (hSd.out _).mono ?_); rintro e x5 ⟨rfl, hb5⟩; have HX5 : Hid (Blk x5 x3.heap.size (bs P) 23 ∧ Below w.heap.size w x5) := Lib.hid ⟨HX4.out.1.below hb5 HX4.out.1.lt, below_next HX4.out.2 hb5⟩; clear hb5)
    | ((with_reducible refine (HSG.out _ ?_).mono ?_); exact (HK.out.of HX5.out.2); rintro e x6 ⟨rfl, hb6⟩; have HX6 : Hid (Blk x6 x3.heap.size (bs P) 23 ∧ Below w.heap.size w x6) := Lib.hid ⟨HX5.out.1.below hb6 HX5.out.1.lt, below_next HX5.out.2 hb6⟩; clear hb6)
    | (refine wpList_load_blk rfl 23 (.tmp 12) rfl x3.heap.size 0 rfl HX6.out.1 _ Tryd.underlying23 rfl 16 Tryd.size44 (by rw [HPB.out]; omega) ?_; rw [List.drop_zero, List.take_of_length_le (by rw [HPB.out]; omega)])
    | ((with_reducible refine (HV1.out _ ?_).mono ?_); exact (HK.out.of HX6.out.2); rintro e x7 ⟨rfl, hb7⟩; have HX7 : Hid (Blk x7 x3.heap.size (bs P) 23 ∧ Below w.heap.size w x7) := Lib.hid ⟨HX6.out.1.below hb7 HX6.out.1.lt, below_next HX6.out.2 hb7⟩; clear hb7)
    | (refine wpList_load_blk rfl 23 (.tmp 12) rfl x3.heap.size 0 rfl HX7.out.1 _ Tryd.underlying23 rfl 16 Tryd.size44 (by rw [HPB.out]; omega) ?_; rw [List.drop_zero, List.take_of_length_le (by rw [HPB.out]; omega)])
    | ((with_reducible refine (HV2.out _ ?_).mono ?_); exact (HK.out.of HX7.out.2); rintro e x8 ⟨rfl, hb8⟩; have HX8 : Hid (Blk x8 x3.heap.size (bs P) 23 ∧ Below w.heap.size w x8) := Lib.hid ⟨HX7.out.1.below hb8 HX7.out.1.lt, below_next HX7.out.2 hb8⟩; clear hb8)
    | fail)
  have HRG : Hid (∀ W, Below x8.heap.size x8 W → W.rangeAt x3.heap.size 0 (bs P)) := Lib.hid fun W h => blk_range (HX8.out.1.below h HX8.out.1.lt)
  have hun23 := Tryd.underlying23
  have hsz23 : (Tryd.prog.info? 23).map (·.size) = some (bs P).length := by rw [HPB.out]; exact Tryd.size44
  refine wp_region_held_drew (S := fun w' => w'.rangeAt x3.heap.size 0 (bs P)) (by kernel_rfl) (HRG.out _ (Below.refl _ _).drew) (fun hS0 => ?_)
  refine wpAnyH_take (i := 1) (oi := { dst := some 85, op := Op.move (Operand.tmp 10), type := 3, pos := "law.go:90", after := #[], guard := none }) (v := ?_) rfl (by kernel_rfl) (by kernel_rfl) (by kernel_rfl) (fun _ _ _ h => h) (Or.inl ⟨by rfl, ?_⟩) (by assumption) ?_
  rotate_left
  · (intro w' hSw; (try dsimp only at hSw); go_simp; try with_reducible rfl)
  try simp only [Act.put, List.setIfInBounds_toArray, List.set_cons_zero, List.set_cons_succ]
  refine wpAnyH_take (i := 2) (oi := { dst := some 86, op := Op.move (Operand.tmp 3), type := 9, pos := "law.go:90", after := #[], guard := none }) (v := ?_) rfl (by kernel_rfl) (by kernel_rfl) (by kernel_rfl) (fun _ _ _ h => h) (Or.inl ⟨by rfl, ?_⟩) (by assumption) ?_
  rotate_left
  · (intro w' hSw; (try dsimp only at hSw); go_simp; try with_reducible rfl)
  try simp only [Act.put, List.setIfInBounds_toArray, List.set_cons_zero, List.set_cons_succ]
  refine wpAnyH_take (i := 3) (oi := { dst := some 87, op := Op.move (Operand.tmp 14), type := 9, pos := "law.go:90", after := #[], guard := none }) (v := ?_) rfl (by kernel_rfl) (by kernel_rfl) (by kernel_rfl) (fun _ _ _ h => h) (Or.inl ⟨by rfl, ?_⟩) (by assumption) ?_
  rotate_left
  · (intro w' hSw; (try dsimp only at hSw); go_simp; try with_reducible rfl)
  try simp only [Act.put, List.setIfInBounds_toArray, List.set_cons_zero, List.set_cons_succ]
  refine wpAnyH_take (i := 4) (oi := { dst := some 88, op := Op.move (Operand.tmp 14), type := 9, pos := "law.go:90", after := #[], guard := none }) (v := ?_) rfl (by kernel_rfl) (by kernel_rfl) (by kernel_rfl) (fun _ _ _ h => h) (Or.inl ⟨by rfl, ?_⟩) (by assumption) ?_
  rotate_left
  · (intro w' hSw; (try dsimp only at hSw); go_simp; try with_reducible rfl)
  try simp only [Act.put, List.setIfInBounds_toArray, List.set_cons_zero, List.set_cons_succ]
  refine wpAnyH_take (i := 5) (oi := { dst := some 89, op := Op.call { callee := Callee.builtin Builtin.len, args := #[Operand.tmp 88], argTypes := #[9] }, type := 3, pos := "law.go:90", after := #[{ on := 4, ground := Ground.data }], guard := none }) (v := ?_) rfl (by kernel_rfl) (by kernel_rfl) (by kernel_rfl) (fun _ _ _ h => h) (Or.inl ⟨by rfl, ?_⟩) (by assumption) ?_
  rotate_left
  · (intro w' hSw; (try dsimp only at hSw); go_simp; try with_reducible rfl)
  try simp only [Act.put, List.setIfInBounds_toArray, List.set_cons_zero, List.set_cons_succ]
  refine wpAnyH_take (i := 6) (oi := { dst := some 90, op := Op.binOp BinOp.sub 3 (Operand.tmp 89) (Operand.const (Value.int IntKind.i64 1)) 3, type := 3, pos := "law.go:90", after := #[{ on := 5, ground := Ground.data }], guard := none }) (v := ?_) rfl (by kernel_rfl) (by kernel_rfl) (by kernel_rfl) (fun _ _ _ h => h) (Or.inl ⟨by rfl, ?_⟩) (by assumption) ?_
  rotate_left
  · (intro w' hSw; (try dsimp only at hSw); go_simp; try with_reducible rfl)
  try simp only [Act.put, List.setIfInBounds_toArray, List.set_cons_zero, List.set_cons_succ]
  refine wpAnyH_take (i := 7) (oi := { dst := some 91, op := Op.slice 9 (Operand.tmp 87) none (some (Operand.tmp 90)) none, type := 9, pos := "law.go:90", after := #[{ on := 3, ground := Ground.data }, { on := 6, ground := Ground.data }], guard := none }) (v := ?_) rfl (by kernel_rfl) (by kernel_rfl) (by kernel_rfl) (fun _ _ _ h => h) (Or.inl ⟨by rfl, ?_⟩) (by assumption) ?_
  rotate_left
  · (intro w' hSw; (try dsimp only at hSw); go_simp; try with_reducible rfl)
  try simp only [Act.put, List.setIfInBounds_toArray, List.set_cons_zero, List.set_cons_succ]
  refine wpAnyH_take (i := 0) (oi := { dst := some 84, op := Op.load 23 (Operand.tmp 12), type := 23, pos := "law.go:90", after := #[], guard := none }) (v := _) rfl (by kernel_rfl) (by kernel_rfl) (by kernel_rfl) (fun _ _ _ h => h) (yieldsIf_load_mid (by rfl) _ _ rfl _ _ rfl _ _ (fun w h => h) hun23 rfl hsz23) (by assumption) ?_
  try simp only [Act.put, List.setIfInBounds_toArray, List.set_cons_zero, List.set_cons_succ]
  refine wpAnyH_ready (rs := [8]) (by kernel_rfl) (by simp) ?_
  refine AllReadyH.cons (o := { dst := some 92, op := Op.call { callee := Callee.value (Operand.func 18), args := #[Operand.tmp 84, Operand.tmp 85, Operand.tmp 86, Operand.tmp 91], argTypes := #[23, 3, 9, 9] }, type := 36, pos := "law.go:90", after := #[{ on := 0, ground := Ground.data }, { on := 1, ground := Ground.data }, { on := 2, ground := Ground.data }, { on := 7, ground := Ground.data }], guard := none }) rfl (fun K hK => ?_) AllReadyH.nil
  go_simp
  go_at_call 18
  refine (HV3.out _ (HK.out.of HX8.out.2.drew)).mono ?_
  rintro e y1 ⟨rfl, hb1⟩
  have HY1 : Hid (Below w.heap.size w y1 ∧ Below x8.heap.size x8 y1) := Lib.hid ⟨below_next HX8.out.2.drew hb1, below_next (w := x8.drew) (Below.refl _ _).drew hb1⟩
  clear hb1
  refine hK _ _ (HRG.out _ HY1.out.2) (fun hS1 => ?_)
  clear hK K hS0
  try simp only [Act.put, List.setIfInBounds_toArray, List.set_cons_zero, List.set_cons_succ]
  refine wpAnyH_take (i := 9) (oi := { dst := some 83, op := Op.move (Operand.tmp 92), type := 36, pos := "law.go:90", after := #[{ on := 8, ground := Ground.data }], guard := none }) (v := ?_) rfl (by kernel_rfl) (by kernel_rfl) (by kernel_rfl) (fun _ _ _ h => h) (Or.inl ⟨by rfl, ?_⟩) (by assumption) ?_
  rotate_left
  · (intro w' hSw; (try dsimp only at hSw); go_simp; try with_reducible rfl)
  try simp only [Act.put, List.setIfInBounds_toArray, List.set_cons_zero, List.set_cons_succ]
  refine wpAnyH_take (i := 10) (oi := { dst := some 93, op := Op.extract (Operand.tmp 83) 0, type := 3, pos := "law.go:90", after := #[{ on := 9, ground := Ground.data }], guard := none }) (v := ?_) rfl (by kernel_rfl) (by kernel_rfl) (by kernel_rfl) (fun _ _ _ h => h) (Or.inl ⟨by rfl, ?_⟩) (by assumption) ?_
  rotate_left
  · (intro w' hSw; (try dsimp only at hSw); go_simp; try with_reducible rfl)
  try simp only [Act.put, List.setIfInBounds_toArray, List.set_cons_zero, List.set_cons_succ]
  refine wpAnyH_take (i := 11) (oi := { dst := some 94, op := Op.extract (Operand.tmp 83) 1, type := 29, pos := "law.go:90", after := #[{ on := 9, ground := Ground.data }, { on := 12, ground := Ground.gcOnly Departure.lateStores }], guard := none }) (v := ?_) rfl (by kernel_rfl) (by kernel_rfl) (by kernel_rfl) (fun _ _ _ h => h) (Or.inl ⟨by rfl, ?_⟩) (by assumption) ?_
  rotate_left
  · (intro w' hSw; (try dsimp only at hSw); go_simp; try with_reducible rfl)
  try simp only [Act.put, List.setIfInBounds_toArray, List.set_cons_zero, List.set_cons_succ]
  refine wpAnyH_take (i := 12) (oi := { dst := some 20, op := Op.assign (Operand.tmp 93), type := 3, pos := "law.go:90", after := #[{ on := 10, ground := Ground.data }, { on := 8, ground := Ground.chain }, { on := 0, ground := Ground.phase }, { on := 1, ground := Ground.phase }, { on := 2, ground := Ground.phase }, { on := 3, ground := Ground.phase }, { on := 4, ground := Ground.phase }, { on := 5, ground := Ground.phase }, { on := 6, ground := Ground.phase }, { on := 7, ground := Ground.phase }, { on := 8, ground := Ground.phase }, { on := 9, ground := Ground.phase }, { on := 10, ground := Ground.phase }, { on := 11, ground := Ground.textOnly Departure.lateStores }], guard := none }) (v := ?_) rfl (by kernel_rfl) (by kernel_rfl) (by kernel_rfl) (fun _ _ _ h => h) (Or.inl ⟨by rfl, ?_⟩) (by assumption) ?_
  rotate_left
  · (intro w' hSw; (try dsimp only at hSw); go_simp; try with_reducible rfl)
  try simp only [Act.put, List.setIfInBounds_toArray, List.set_cons_zero, List.set_cons_succ]
  refine wpAnyH_take (i := 13) (oi := { dst := some 21, op := Op.assign (Operand.tmp 94), type := 29, pos := "law.go:90", after := #[{ on := 11, ground := Ground.data }, { on := 12, ground := Ground.chain }, { on := 0, ground := Ground.phase }, { on := 1, ground := Ground.phase }, { on := 2, ground := Ground.phase }, { on := 3, ground := Ground.phase }, { on := 4, ground := Ground.phase }, { on := 5, ground := Ground.phase }, { on := 6, ground := Ground.phase }, { on := 7, ground := Ground.phase }, { on := 8, ground := Ground.phase }, { on := 9, ground := Ground.phase }, { on := 10, ground := Ground.phase }, { on := 11, ground := Ground.phase }, { on := 12, ground := Ground.phase }], guard := none }) (v := ?_) rfl (by kernel_rfl) (by kernel_rfl) (by kernel_rfl) (fun _ _ _ h => h) (Or.inl ⟨by rfl, ?_⟩) (by assumption) ?_
  rotate_left
  · (intro w' hSw; (try dsimp only at hSw); go_simp; try with_reducible rfl)
  try simp only [Act.put, List.setIfInBounds_toArray, List.set_cons_zero, List.set_cons_succ]
  refine wpAnyH_done (by kernel_rfl) ?_ _
  go_wp2_with fail
  go_ret
  exact ⟨rfl, HY1.out.1⟩
theorem shift_lit (h : Nat) (h2 : h ≤ 2) : ∀ W, Sem.run Tryd.prog (Op.shift BinOp.shl IntKind.i64 1 IntKind.i64 (h : Int)) W = .ok (.int .i64 ((2 ^ h : Nat) : Int)) W := by
  have : h = 0 ∨ h = 1 ∨ h = 2 := by omega
  rcases this with rfl | rfl | rfl <;> intro W <;> kernel_rfl
theorem wrapSmall (n : Nat) (h : n < 256) : wrap64 (n : Int) = (n : Int) := by
  exact IntWalk.wrap64_in _ (by omega)
theorem walk (c ht ix : UInt8) (m : List UInt8) (w : World) (hK : KH w) :
    Calls Tryd.prog 6 #[.int .u8 c.toNat, .int .u8 ht.toNat, .int .u8 ix.toNat, .string (sb m)] w fun e w' => e = .returned (.bool true) ∧ Below w.heap.size w w' := by
  by_cases hm : 200 < m.length
  · exact walk_big c ht ix m hm w hK
  · have h1 : ht.toNat < 256 := UInt8.toNat_lt ht
    have h3 : ix.toNat < 256 := UInt8.toNat_lt ix
    have h2 : ht.toNat % 3 ≤ 2 := by omega
    have hpos : 0 < 2 ^ (ht.toNat % 3) := Nat.pow_pos (by omega)
    refine walk_aux (ht.toNat % 3) (ix.toNat % 2 ^ (ht.toNat % 3)) _ _ rfl rfl h2 (Nat.mod_lt _ hpos) c ht ix _ _ _ _ _ m rfl rfl rfl rfl rfl (by omega) ?_ _ (shift_lit _ h2) (by omega) ?_ w hK
    · rw [wrapSmall _ h1]; rfl
    · rw [wrapSmall _ h3]; rfl

set_option maxRecDepth 100000 in
theorem contract (H : Type) (enc : TypeId × Value → H) (W : World) (base : Nat) (args : Array Value) (ds gs : List (DataW H)) (before : List MemPlace)
    (hval : ∀ (j : Nat) t v, Tryd.f6.params[j]? = some t → args[j]? = some v → Value.okWide Tryd.prog W .any base t v)
    (hW : DataW.Whole enc Tryd.prog Tryd.f6.params.toList Rows.signIsAcceptedSpec.vars false W args.toList ds gs before)
    (hsz : (DataW.weightsEach Tryd.prog (Tryd.f6.params.toList ++ Rows.signIsAcceptedSpec.plain.varTypes Tryd.prog) (ds ++ gs)).all (· ≤ reachBytes) = true) (hK : KH W) :
    Calls Tryd.prog 6 args W fun e W' => ∃ v, e = .returned v ∧ Rows.signIsAcceptedSpec.post enc Tryd.prog Tryd.f6 false true false false W args v W' := by
  have hW' := hW
  obtain ⟨p, q, hA0, hV, rfl, hfz, hnd⟩ := hW
  have hA : DataW.TrodAll enc Tryd.prog W 0 (fun _ => true) true Tryd.f6.params.toList args.toList ds p := hA0
  rw [Tryd.params6] at hA hval hsz
  obtain ⟨v0, v1, v2, v3, d0, d1, d2, d3, p0, p1, p2, p3, rfl, rfl, rfl, h0, h1, h2, h3⟩ := trodAll_four hA
  obtain ⟨rfl, rfl⟩ := trodVars_none hV
  obtain ⟨cn, rfl, rfl, rfl, cw⟩ := open_int Tryd.underlying5 (hval 0 5 v0 rfl rfl) h0
  obtain ⟨c, ce⟩ := u8_wf cw
  obtain ⟨htn, rfl, rfl, rfl, htw⟩ := open_int Tryd.underlying5 (hval 1 5 v1 rfl rfl) h1
  obtain ⟨ht, hte⟩ := u8_wf htw
  obtain ⟨ixn, rfl, rfl, rfl, ixw⟩ := open_int Tryd.underlying5 (hval 2 5 v2 rfl rfl) h2
  obtain ⟨ix, ixe⟩ := u8_wf ixw
  obtain ⟨m0, rfl, rfl, rfl, mw⟩ := open_string Tryd.underlying9 (hval 3 9 v3 rfl rfl) h3
  have mq := sized_string hsz (j := 3) (t := 9) rfl rfl
  obtain ⟨m, me⟩ : ∃ l, l = m0.data.toList := ⟨_, rfl⟩
  have mb : m0 = sb m := by rw [me]; rfl
  have mr : m.length ≤ 140737488355328 := by rw [me]; exact Nat.le_trans (m := 140737488351232) (by simpa [reachBytes] using mq) (by omega)

  have hargs : (#[.int .u8 cn, .int .u8 htn, .int .u8 ixn, .string m0] : Array Value) = #[.int .u8 c.toNat, .int .u8 ht.toNat, .int .u8 ix.toNat, .string (sb m)] := by rw [mb, ce, hte, ixe]
  have hwalk : Calls Tryd.prog 6 #[.int .u8 cn, .int .u8 htn, .int .u8 ixn, .string m0] W fun e W' => e = .returned (.bool true) ∧ Below W.heap.size W W' := by
    rw [hargs]
    exact walk c ht ix m W hK
  refine hwalk.mono fun e W' ⟨he, hb⟩ => ⟨_, he, ?_⟩
  exact law_post rfl rfl (by kernel_rfl) hW' rfl hb

set_option maxRecDepth 100000 in
theorem lifted (os : Os) (started : os.Started) (H : Type) (enc : TypeId × Value → H) :
    ReturnsInHanded {} Tryd.checked os 6 .any (fun w args => (Rows.signIsAcceptedSpec.pre enc Tryd.prog Tryd.f6 [] false w args ∧ laidMetH Tryd.prog laid1 w) ∧ sizedMet enc Tryd.prog Tryd.f6 (OpenSpec.ofChange Rows.signIsAcceptedSpec) false w args)
      (Rows.signIsAcceptedSpec.post enc Tryd.prog Tryd.f6 false true false false) := by
  refine returnsInHanded_of_change_and (C := Tryd.checked) (X := fun w _ => laidMetH Tryd.prog laid1 w) (fun _ _ _ hh h => h.of_heap hh) Tryd.own started (by kernel_rfl) Tryd.func6
    (ChangeSpec.witness_shaped (enc := enc) (C := Tryd.checked) (os := os) (X := fun w _ => laidMetH Tryd.prog laid1 w) false (World.doorLaid Tryd.prog 400 os) #[.int .u8 0, .int .u8 0, .int .u8 0, .string ByteArray.empty] 8 rfl (World.shaped_of_RefB (by kernel_rfl) (by kernel_rfl)) (by kernel_rfl) (by kernel_rfl) (by kernel_rfl) (door_met1 os _)) ?_
  intro W base args ds gs before hval hW _ hsz hL _
  exact contract H enc W base args ds gs before hval hW hsz (of_laid1 hL)

theorem row : Rows.SignIsAcceptedSaid :=
  OpenClaim.holds_of_wide 6 Tryd.f6 rfl rfl rfl rfl rfl rfl rfl ⟨rfl, rfl, rfl, rfl, rfl⟩ rfl rfl rfl rfl rfl (by kernel_rfl) Tryd.func6 (by kernel_rfl)
    (of_decide_eq_true (by kernel_rfl)) (by unfold Func.isWrapper; first | (rw [if_pos (by decide +kernel)]; kernel_rfl) | (rw [if_neg (by decide +kernel)]; exact ⟨rfl, rfl⟩))
    (fun os started H enc _ => lifted os started H enc)

theorem proved : Rows.SignIsAcceptedCardSaid :=
  Claim7.holds_tied_plain_at .later [] [.data] true (true, "53e8dcc94a98ee4e8397ce15025af463fab214ab1c042506e4d652f15817975a") false
    row (fun _ h => by cases h) (by kernel_rfl) (fun _ h => by cases h) signIsAccepted_row_tie rfl ⟨rfl, rfl⟩ (by kernel_rfl) rfl
    (fun f fn hf hfn => by
      obtain rfl : f = 6 := Option.some.inj ((show Tryd.prog.funcNamed "wordbook/wordbooklaw03.SignIsAccepted" = some 6 by kernel_rfl).symm.trans hf) |>.symm
      obtain rfl : fn = Tryd.f6 := (Option.some.inj (Tryd.func6.symm.trans hfn)).symm
      exact ⟨by kernel_rfl, fun j t ht => by
        rw [Tryd.params6] at ht
        have hm : t ∈ [5, 5, 5, 9] := by simpa using Array.mem_of_getElem? ht
        have hall : ([5, 5, 5, 9].all fun u => !Tryd.prog.wantsStandIn u) = true := by kernel_rfl
        exact (show Tryd.prog.wantsStandIn t = false by simpa using List.all_eq_true.1 hall t hm)⟩)
    (by kernel_rfl)
end SL4
end Go.Proofs.YtbgcnfikcddcpaaDoor
