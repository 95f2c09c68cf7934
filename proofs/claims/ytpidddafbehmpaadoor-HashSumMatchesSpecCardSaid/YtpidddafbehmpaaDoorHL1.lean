/-
  HashSumMatchesSpec: for every list of bytes, the law returns true and leaves them as they are; the two tables of constants are as the program's text lays them (the card ties them).
-/
import Derived.Test.YtpidddafbehmpaaDoorHLaw3
import Derived.Deep.RegionHeld3
namespace Go.Proofs.YtpidddafbehmpaaDoor
open Go.ChangeShapes Go.WideShapes Go.ChangeAt Go.RowKit Go.ChangeMaps
open Sha
set_option linter.unusedVariables false
set_option linter.unusedSimpArgs false
namespace L1

section
variable {H : Type} {enc : TypeId × Value → H}
theorem cells5 : Tryd.prog.cellsOf 5 = 1 := by kernel_rfl
theorem open_rd {W : World} {v : Value} {d : DataW H} {ps : List MemPlace} {b0 : Nat} (hval : Value.okWide Tryd.prog W .any b0 22 v) (h : DataW.Trod enc Tryd.prog W 0 (fun _ => true) true 22 v d ps) :
    ∃ (A : Option Addr) (l : List UInt8) (c : Nat), v = .slice A l.length c ∧ Rd W A (bs l) ∧ l.length ≤ c ∧ c ≤ maxLen ∧ (A = none → l = []) := by
  obtain ⟨a0, len, cap, rfl⟩ := okWide_slice Tryd.underlying22 hval
  obtain ⟨fuel, hf⟩ := h
  rcases open_ints Tryd.underlying22 Tryd.underlying5 cells5 hf with ⟨hcs, _⟩ | ⟨a, len', cap', zs, hcs, _, hl, hm, hz, _, hcell, hwz⟩
  · simp [Value.cells] at hcs
    obtain ⟨rfl, rfl, rfl⟩ := hcs
    exact ⟨none, [], 0, rfl, .inl rfl, Nat.le_refl _, Nat.zero_le _, fun _ => rfl⟩
  · simp [Value.cells] at hcs
    obtain ⟨rfl, rfl, rfl⟩ := hcs
    simp only [if_true] at hz
    have hlen : ((zs.take len).map fun z => UInt8.ofNat z.toNat).length = len := by simp; omega
    refine ⟨some a, (zs.take len).map fun z => UInt8.ofNat z.toNat, cap, by rw [hlen], ?_, by rw [hlen]; exact hl, hm, by simp⟩
    refine rd_addr (n := len) (f := fun i => .int .u8 (zs.getD i 0)) (by rw [bs_length]; exact hlen) (fun i hi => ?_) (fun i hi => hcell i (by omega))
    rw [bs_get (by omega)]
    have hzi : i < zs.length := by omega
    have hwf := hwz zs[i] (List.getElem_mem hzi)
    have h1 : IntKind.u8.min = 0 := rfl
    have h2 : IntKind.u8.max = 255 := rfl
    simp only [Lit.wf, Bool.and_eq_true, decide_eq_true_eq, h1, h2] at hwf
    simp only [List.getElem_map, List.getElem_take, List.getD, List.getElem?_eq_getElem hzi, Option.getD_some]
    congr 2
    simp
    omega
end
theorem run_load_blk {P : Program} {W : World} (ty : TypeId) (g : Nat) {C : List Value} {T : TypeId} (hb : Blk W g C T) (d : TypeDesc) (hu : P.underlying ty = some d) (hd : d.isRow = true) (hi : (P.info? ty).map (·.size) = some C.length) :
    (Instr.loadAt ty (.pointer (some ⟨g, 0, none⟩))).run P W = .ok (.agg C.toArray) W := by
  have hc : W.rangeAt g 0 C := fun j v hv => by rw [Nat.zero_add]; exact hb.cell hv
  simp only [Instr.loadAt, Instr.sureAddr, Sem.run_bind, Sem.run_pure, Result.andThen_ok, run_loadVar_mid W g 0 ty C d hc hu hd hi]

set_option maxRecDepth 100000 in
set_option maxHeartbeats 2000000 in
theorem walk_aux (l R : List UInt8) (hR : R = sha l) (A : Option Addr) (c : Nat) (hc : l.length ≤ c) (hm : c ≤ maxLen) (w : World) (hr : Rd w A (bs l)) (hK : KH w) (hKR : KR w) :
    Calls Tryd.prog 3 #[.slice A l.length c] w fun e w' => e = .returned (.bool true) ∧ Below w.heap.size w w' := by
  have hm' : l.length ≤ 9223372036854775807 := by unfold maxLen at hm; omega
  have HK := Lib.hid (And.intro hK (And.intro hKR hr)); clear hK hKR hr
  by_cases h1 : l.length ≤ 1000
  · have d1 : decide ((1000 : Int) < (l.length : Int)) = false := by simp; omega
    have hsl := sb_size l
    have HS1 : Hid (∀ W, Rd W A (bs l) → KH W → Calls Tryd.prog 11 #[.slice A l.length c] W fun e w' => e = .returned (.agg (bs R).toArray) ∧ Below W.heap.size W w') := Lib.hid fun W h hk => by rw [hR]; exact hsum_any l A _ c rfl (by omega) W h hk
    have HS2 : Hid (∀ (B : Addr) (n : Nat) (d : Nat) (W : World), n = (sb l).size → Rd W (some B) (bs l) → KR W → Calls Tryd.prog 12 #[.slice (some B) n d] W fun e w' => e = .returned (.agg (bs R).toArray) ∧ Below W.heap.size W w') := Lib.hid fun B n d W hn h hk => by rw [hR]; exact rsum_any l (some B) n d (by rw [hn]; exact hsl) (by simp) (by omega) W h hk
    have hRl : R.length = 32 := by rw [hR, sha_length]
    have heq : ∀ W, (Op.equalIn 10000 24 (.agg (bs R).toArray) (.agg (bs R).toArray)).run Tryd.prog W = .ok true W := fun W => by rw [eq24 R R hRl hRl, eqB_refl]
    have hsz24 : (Tryd.prog.info? 24).map (·.size) = some (bs R).length := by rw [bs_length, hRl]; exact Tryd.size24
    have hun24 := Tryd.underlying24
    have HRL : Hid ((bs R).length = 32) := Lib.hid (by rw [bs_length, hRl])
    have HCA : Hid (∀ W, Rd W A (bs l) → (convert 22 9 (.slice A l.length c)).run Tryd.prog W = .ok (.string (sb l)) W) := Lib.hid fun W h => conv_sb (A := A) (l := l) (n := l.length) (w := W) c rfl h
    clear hR hRl hm
    go_enter Tryd.func3, Tryd.ntmps3
    go_wp2_with (first
      | (refine (sanity_any _ HK.out.1).mono ?_; rintro e w1 ⟨rfl, hb1⟩; have HB1 := Lib.hid hb1; have hca1 := HCA.out w1 (HK.out.2.2.below HB1.out); clear hb1)
      | ((with_reducible refine (HS1.out _ ?_ ?_).mono ?_); exact (HK.out.2.2.below HB1.out); exact (HK.out.1.of HB1.out); rintro e w2 ⟨rfl, hb2⟩; have HB2 : Hid (Below w.heap.size w w2) := Lib.hid (below_next HB1.out hb2); clear hb2)
      | (refine wpList_store_blk rfl 24 (.tmp 5) (.tmp 14) rfl _ 0 rfl (bs R) rfl (Blk.new' w2 (bs (List.replicate 32 0)) _ 24 rfl) 32 Tryd.size24 HRL.out (by rw [bs_length, List.length_replicate]; omega) (bs_one _) ?_; intro w3 hst3; rw [List.take_zero, List.nil_append, List.drop_of_length_le (by rw [bs_length, List.length_replicate]; omega), List.append_nil] at hst3; have HX3 : Hid (Blk w3 w2.heap.size (bs R) 24 ∧ Below w.heap.size w w3) := Lib.hid ⟨hst3.1, hst3.below (al HB2.out _) HB2.out.size⟩; clear hst3))
    clear hca1
    generalize w2.heap.size = M at HX3 ⊢
    have HRG : Hid (∀ W, Below w3.heap.size w3 W → W.rangeAt M 0 (bs R)) := Lib.hid fun W hb j v hv => by rw [Nat.zero_add]; exact (HX3.out.1.below hb HX3.out.1.lt).cell hv
    have HCW : Hid (∀ W, Below w3.heap.size w3 W → (convert 22 9 (.slice A l.length c)).run Tryd.prog W = .ok (.string (sb l)) W) := Lib.hid fun W hb => HCA.out W (HK.out.2.2.below (below_next HX3.out.2 hb))
    have HC0 : Hid (Below w3.heap.size w3 w3) := Lib.hid (Below.refl _ _)
    obtain ⟨c0, w4, hcb, hr0, hbl0⟩ := conv_back (P := Tryd.prog) (src := 9) (dst := 22) Tryd.underlying9 Tryd.underlying22 Tryd.underlying5 w3.drew (sb l)
    have HR4 : Hid (Rd w4 (some ⟨w3.drew.heap.size, 0, none⟩) (bs l)) := Lib.hid (by rw [sb_list] at hr0; exact hr0)
    have HC1 : Hid (Below w3.heap.size w3 w4) := Lib.hid (below_next HC0.out.drew hbl0)
    clear hr0 hbl0
    have HLD : Hid (∀ W, Below w3.heap.size w3 W → (Instr.loadAt 24 (.pointer (some ⟨M, 0, none⟩))).run Tryd.prog W = .ok (.agg (bs R).toArray) W) := Lib.hid fun W hb => run_load_blk 24 M (HX3.out.1.below hb HX3.out.1.lt) _ Tryd.underlying24 rfl (by rw [HRL.out]; exact Tryd.size24)
    have hld0 := HLD.out _ HC0.out.drew
    have hld1 := HLD.out _ HC1.out
    -- REGION
    clear hld0 hld1
    refine wp_region_held_drew (S := fun w' => w'.rangeAt M 0 (bs R) ∧ (convert 22 9 (.slice A l.length c)).run Tryd.prog w' = .ok (.string (sb l)) w') (by kernel_rfl) ⟨HRG.out _ HC0.out.drew, HCW.out _ HC0.out.drew⟩ (fun hS0 => ?_)
    refine wpAnyH_take (i := 0) (oi := { dst := some 15, op := Op.move (Operand.tmp 3), type := 4, pos := "law.go:38", after := #[], guard := none }) (v := ?_) rfl (by kernel_rfl) (by kernel_rfl) (by kernel_rfl) (fun _ _ _ h => h) (Or.inl ⟨by rfl, ?_⟩) (by assumption) ?_
    rotate_left
    · (intro w' hSw; (try dsimp only at hSw); go_simp; try with_reducible rfl)
    try simp only [Act.put, List.setIfInBounds_toArray, List.set_cons_zero, List.set_cons_succ]
    refine wpAnyH_take (i := 1) (oi := { dst := some 16, op := Op.move (Operand.tmp 15), type := 4, pos := "law.go:38", after := #[{ on := 0, ground := Ground.data }], guard := none }) (v := ?_) rfl (by kernel_rfl) (by kernel_rfl) (by kernel_rfl) (fun _ _ _ h => h) (Or.inl ⟨by rfl, ?_⟩) (by assumption) ?_
    rotate_left
    · (intro w' hSw; (try dsimp only at hSw); go_simp; try with_reducible rfl)
    try simp only [Act.put, List.setIfInBounds_toArray, List.set_cons_zero, List.set_cons_succ]
    refine wpAnyH_take (i := 3) (oi := { dst := some 18, op := Op.move (Operand.tmp 4), type := 9, pos := "law.go:38", after := #[{ on := 1, ground := Ground.guard }], guard := some (1, true) }) (v := ?_) rfl (by kernel_rfl) (by kernel_rfl) (by kernel_rfl) (fun _ _ _ h => h) (Or.inl ⟨by rfl, ?_⟩) (by assumption) ?_
    rotate_left
    · (intro w' hSw; (try dsimp only at hSw); go_simp; try with_reducible rfl)
    try simp only [Act.put, List.setIfInBounds_toArray, List.set_cons_zero, List.set_cons_succ]
    refine wpAnyH_take (i := 2) (oi := { dst := some 17, op := Op.load 24 (Operand.tmp 5), type := 24, pos := "law.go:38", after := #[{ on := 1, ground := Ground.guard }], guard := some (1, true) }) (v := _) rfl (by kernel_rfl) (by kernel_rfl) (by kernel_rfl) (fun _ _ _ h => h) (yieldsIf_load_mid (by rfl) _ _ rfl _ _ rfl _ _ (fun w h => h.1) hun24 rfl hsz24) (by assumption) ?_
    try simp only [Act.put, List.setIfInBounds_toArray, List.set_cons_zero, List.set_cons_succ]
    refine wpAnyH_ready (rs := [4]) (by kernel_rfl) (by simp) ?_
    refine AllReadyH.cons (o := { dst := some 19, op := Op.convert 9 22 (Operand.tmp 18), type := 22, pos := "law.go:38", after := #[{ on := 3, ground := Ground.data }, { on := 1, ground := Ground.guard }], guard := some (1, true) }) rfl (fun K hK => ?_) AllReadyH.nil
    go_simp
    refine hK.out _ _ ⟨HRG.out _ HC1.out, HCW.out _ HC1.out⟩ (fun hS1 => ?_)
    clear hK K hS0
    try simp only [Act.put, List.setIfInBounds_toArray, List.set_cons_zero, List.set_cons_succ]
    refine wpAnyH_ready (rs := [5]) (by kernel_rfl) (by simp) ?_
    refine AllReadyH.cons (o := { dst := some 20, op := Op.call { callee := Callee.value (Operand.func 12), args := #[Operand.tmp 19], argTypes := #[22] }, type := 24, pos := "law.go:38", after := #[{ on := 4, ground := Ground.data }, { on := 1, ground := Ground.chain }, { on := 1, ground := Ground.guard }], guard := some (1, true) }) rfl (fun K hK => ?_) AllReadyH.nil
    go_simp
    go_at_call 12
    refine (HS2.out _ _ _ _ ?_ HR4.out (HK.out.2.1.of (below_next HX3.out.2 HC1.out))).mono ?_
    · first | rfl | (rw [hsl]; rfl) | (simp [hsl])
    rintro e y1 ⟨rfl, hbx⟩
    have HC2 : Hid (Below w3.heap.size w3 y1) := Lib.hid (below_next HC1.out hbx)
    clear hbx
    refine hK.out _ _ ⟨HRG.out _ HC2.out, HCW.out _ HC2.out⟩ (fun hS2 => ?_)
    clear hK K hS1 hcb
    try simp only [Act.put, List.setIfInBounds_toArray, List.set_cons_zero, List.set_cons_succ]
    refine wpAnyH_take (i := 6) (oi := { dst := some 21, op := Op.binOp BinOp.eql 24 (Operand.tmp 17) (Operand.tmp 20) 24, type := 4, pos := "law.go:38", after := #[{ on := 2, ground := Ground.data }, { on := 5, ground := Ground.data }, { on := 1, ground := Ground.guard }], guard := some (1, true) }) (v := ?_) rfl (by kernel_rfl) (by kernel_rfl) (by kernel_rfl) (fun _ _ _ h => h) (Or.inl ⟨by rfl, ?_⟩) (by assumption) ?_
    rotate_left
    · (intro w' hSw; (try dsimp only at hSw); go_simp; try with_reducible rfl)
    try simp only [Act.put, List.setIfInBounds_toArray, List.set_cons_zero, List.set_cons_succ]
    refine wpAnyH_take (i := 7) (oi := { dst := some 22, op := Op.pick (Operand.tmp 16) (Operand.tmp 21) (Operand.const (Value.bool false)), type := 4, pos := "law.go:38", after := #[{ on := 1, ground := Ground.data }, { on := 6, ground := Ground.data }], guard := none }) (v := ?_) rfl (by kernel_rfl) (by kernel_rfl) (by kernel_rfl) (fun _ _ _ h => h) (Or.inl ⟨by rfl, ?_⟩) (by assumption) ?_
    rotate_left
    · (intro w' hSw; (try dsimp only at hSw); go_simp; try with_reducible rfl)
    try simp only [Act.put, List.setIfInBounds_toArray, List.set_cons_zero, List.set_cons_succ]
    refine wpAnyH_take (i := 8) (oi := { dst := some 23, op := Op.move (Operand.tmp 22), type := 4, pos := "law.go:38", after := #[{ on := 7, ground := Ground.data }, { on := 5, ground := Ground.chain }], guard := none }) (v := ?_) rfl (by kernel_rfl) (by kernel_rfl) (by kernel_rfl) (fun _ _ _ h => h) (Or.inl ⟨by rfl, ?_⟩) (by assumption) ?_
    rotate_left
    · (intro w' hSw; (try dsimp only at hSw); go_simp; try with_reducible rfl)
    try simp only [Act.put, List.setIfInBounds_toArray, List.set_cons_zero, List.set_cons_succ]
    refine wpAnyH_take (i := 9) (oi := { dst := some 24, op := Op.move (Operand.tmp 0), type := 22, pos := "law.go:38", after := #[{ on := 8, ground := Ground.guard }], guard := some (8, true) }) (v := ?_) rfl (by kernel_rfl) (by kernel_rfl) (by kernel_rfl) (fun _ _ _ h => h) (Or.inl ⟨by rfl, ?_⟩) (by assumption) ?_
    rotate_left
    · (intro w' hSw; (try dsimp only at hSw); go_simp; try with_reducible rfl)
    try simp only [Act.put, List.setIfInBounds_toArray, List.set_cons_zero, List.set_cons_succ]
    refine wpAnyH_take (i := 11) (oi := { dst := some 26, op := Op.move (Operand.tmp 4), type := 9, pos := "law.go:38", after := #[{ on := 8, ground := Ground.guard }], guard := some (8, true) }) (v := ?_) rfl (by kernel_rfl) (by kernel_rfl) (by kernel_rfl) (fun _ _ _ h => h) (Or.inl ⟨by rfl, ?_⟩) (by assumption) ?_
    rotate_left
    · (intro w' hSw; (try dsimp only at hSw); go_simp; try with_reducible rfl)
    try simp only [Act.put, List.setIfInBounds_toArray, List.set_cons_zero, List.set_cons_succ]
    refine wpAnyH_take (i := 10) (oi := { dst := some 25, op := Op.convert 22 9 (Operand.tmp 24), type := 9, pos := "law.go:38", after := #[{ on := 9, ground := Ground.data }, { on := 8, ground := Ground.guard }], guard := some (8, true) }) (v := ?_) rfl (by kernel_rfl) (by kernel_rfl) (by kernel_rfl) (fun _ _ _ h => h) (Or.inl ⟨by rfl, ?_⟩) (by assumption) ?_
    rotate_left
    · (intro w' hSw; (try dsimp only at hSw); go_simp; try with_reducible rfl)
    try simp only [Act.put, List.setIfInBounds_toArray, List.set_cons_zero, List.set_cons_succ]
    refine wpAnyH_take (i := 12) (oi := { dst := some 27, op := Op.binOp BinOp.eql 9 (Operand.tmp 25) (Operand.tmp 26) 9, type := 4, pos := "law.go:38", after := #[{ on := 10, ground := Ground.data }, { on := 11, ground := Ground.data }, { on := 8, ground := Ground.guard }], guard := some (8, true) }) (v := ?_) rfl (by kernel_rfl) (by kernel_rfl) (by kernel_rfl) (fun _ _ _ h => h) (Or.inl ⟨by rfl, ?_⟩) (by assumption) ?_
    rotate_left
    · (intro w' hSw; (try dsimp only at hSw); go_simp; try with_reducible rfl)
    try simp only [Act.put, List.setIfInBounds_toArray, List.set_cons_zero, List.set_cons_succ]
    refine wpAnyH_take (i := 13) (oi := { dst := some 28, op := Op.pick (Operand.tmp 23) (Operand.tmp 27) (Operand.const (Value.bool false)), type := 4, pos := "law.go:38", after := #[{ on := 8, ground := Ground.data }, { on := 12, ground := Ground.data }], guard := none }) (v := ?_) rfl (by kernel_rfl) (by kernel_rfl) (by kernel_rfl) (fun _ _ _ h => h) (Or.inl ⟨by rfl, ?_⟩) (by assumption) ?_
    rotate_left
    · (intro w' hSw; (try dsimp only at hSw); go_simp; try with_reducible rfl)
    try simp only [Act.put, List.setIfInBounds_toArray, List.set_cons_zero, List.set_cons_succ]
    refine wpAnyH_take (i := 14) (oi := { dst := some 2, op := Op.assign (Operand.tmp 28), type := 4, pos := "law.go:38", after := #[{ on := 13, ground := Ground.data }, { on := 8, ground := Ground.chain }, { on := 0, ground := Ground.phase }, { on := 1, ground := Ground.phase }, { on := 2, ground := Ground.phase }, { on := 3, ground := Ground.phase }, { on := 4, ground := Ground.phase }, { on := 5, ground := Ground.phase }, { on := 6, ground := Ground.phase }, { on := 7, ground := Ground.phase }, { on := 8, ground := Ground.phase }, { on := 9, ground := Ground.phase }, { on := 10, ground := Ground.phase }, { on := 11, ground := Ground.phase }, { on := 12, ground := Ground.phase }, { on := 13, ground := Ground.phase }], guard := none }) (v := ?_) rfl (by kernel_rfl) (by kernel_rfl) (by kernel_rfl) (fun _ _ _ h => h) (Or.inl ⟨by rfl, ?_⟩) (by assumption) ?_
    rotate_left
    · (intro w' hSw; (try dsimp only at hSw); go_simp; try with_reducible rfl)
    try simp only [Act.put, List.setIfInBounds_toArray, List.set_cons_zero, List.set_cons_succ]
    refine wpAnyH_done (by kernel_rfl) ?_ _
    go_wp2_with fail
    go_ret
    exact ⟨rfl, below_next HX3.out.2 HC2.out⟩
  · have d1 : decide ((1000 : Int) < (l.length : Int)) = true := by simp; omega
    clear hR
    go_enter Tryd.func3, Tryd.ntmps3
    go_wp2_with ((refine (sanity_any _ HK.out.1).mono ?_; rintro e w1 ⟨rfl, hb1⟩; have HB1 := Lib.hid hb1; clear hb1))
    go_ret
    exact ⟨rfl, HB1.out⟩

set_option maxRecDepth 100000 in
theorem contract (H : Type) (enc : TypeId × Value → H) (W : World) (base : Nat) (args : Array Value) (ds gs : List (DataW H)) (before : List MemPlace)
    (hval : ∀ (j : Nat) t v, Tryd.f3.params[j]? = some t → args[j]? = some v → Value.okWide Tryd.prog W .any base t v)
    (hW : DataW.Whole enc Tryd.prog Tryd.f3.params.toList Rows.hashSumMatchesSpecSpec.vars false W args.toList ds gs before)
    (hsz : (DataW.weightsEach Tryd.prog (Tryd.f3.params.toList ++ Rows.hashSumMatchesSpecSpec.plain.varTypes Tryd.prog) (ds ++ gs)).all (· ≤ reachBytes) = true) (hK : KH W ∧ KR W) :
    Calls Tryd.prog 3 args W fun e W' => ∃ v, e = .returned v ∧ Rows.hashSumMatchesSpecSpec.post enc Tryd.prog Tryd.f3 false true false false W args v W' := by
  have hW' := hW
  obtain ⟨p, q, hA0, hV, rfl, hfz, hnd⟩ := hW
  have hA : DataW.TrodAll enc Tryd.prog W 0 (fun _ => true) true Tryd.f3.params.toList args.toList ds p := hA0
  rw [Tryd.params3] at hA hval hsz
  obtain ⟨v0, d0, rfl, rfl, h0⟩ := trodAll_one hA
  obtain ⟨rfl, rfl⟩ := trodVars_none hV
  obtain ⟨A, l, c, rfl, hr, hc, hm, _⟩ := open_rd (hval 0 22 v0 rfl rfl) h0
  refine (walk_aux l _ rfl A c hc hm W hr hK.1 hK.2).mono fun e W' ⟨he, hb⟩ => ⟨_, he, ?_⟩
  exact law_post rfl rfl (by kernel_rfl) hW' rfl hb

set_option maxRecDepth 100000 in
theorem lifted (os : Os) (started : os.Started) (H : Type) (enc : TypeId × Value → H) :
    ReturnsInHanded {} Tryd.checked os 3 .any (fun w args => (Rows.hashSumMatchesSpecSpec.pre enc Tryd.prog Tryd.f3 [] false w args ∧ laidMetH Tryd.prog laid2 w) ∧ sizedMet enc Tryd.prog Tryd.f3 (OpenSpec.ofChange Rows.hashSumMatchesSpecSpec) false w args)
      (Rows.hashSumMatchesSpecSpec.post enc Tryd.prog Tryd.f3 false true false false) := by
  refine returnsInHanded_of_change_and (C := Tryd.checked) (X := fun w _ => laidMetH Tryd.prog laid2 w) (fun _ _ _ hh h => h.of_heap hh) Tryd.own started (by kernel_rfl) Tryd.func3
    (ChangeSpec.witness_shaped (enc := enc) (C := Tryd.checked) (os := os) (X := fun w _ => laidMetH Tryd.prog laid2 w) false (World.doorLaid Tryd.prog 400 os) #[.slice none 0 0] 8 rfl (World.shaped_of_RefB (by kernel_rfl) (by kernel_rfl)) (by kernel_rfl) (by kernel_rfl) (by kernel_rfl) (door_met2 os _)) ?_
  intro W base args ds gs before hval hW _ hsz hL _
  exact contract H enc W base args ds gs before hval hW hsz (of_laid2 hL)

theorem row : Rows.HashSumMatchesSpecSaid :=
  OpenClaim.holds_of_wide 3 Tryd.f3 rfl rfl rfl rfl rfl rfl rfl ⟨rfl, rfl, rfl, rfl, rfl⟩ rfl rfl rfl rfl rfl (by kernel_rfl) Tryd.func3 (by kernel_rfl)
    (of_decide_eq_true (by kernel_rfl)) (by unfold Func.isWrapper; first | (rw [if_pos (by decide +kernel)]; kernel_rfl) | (rw [if_neg (by decide +kernel)]; exact ⟨rfl, rfl⟩))
    (fun os started H enc _ => lifted os started H enc)

theorem proved : Rows.HashSumMatchesSpecCardSaid :=
  Claim7.holds_tied_plain_at .later [] [.data, .data] true (true, "6fa3fdd116d3381a5e582ac1ee652fca5a46acc6e7226d526a164f01037ac487") false
    row (fun _ h => by cases h) (by kernel_rfl) (fun _ h => by cases h) hashSumMatchesSpec_row_tie rfl ⟨rfl, rfl⟩ (by kernel_rfl) rfl
    (fun f fn hf hfn => by
      obtain rfl : f = 3 := Option.some.inj ((show Tryd.prog.funcNamed "wordbook/wordbooklaw02.HashSumMatchesSpec" = some 3 by kernel_rfl).symm.trans hf) |>.symm
      obtain rfl : fn = Tryd.f3 := (Option.some.inj (Tryd.func3.symm.trans hfn)).symm
      exact ⟨by kernel_rfl, fun j t ht => by
        rw [Tryd.params3] at ht
        have hm : t ∈ [22] := by simpa using Array.mem_of_getElem? ht
        have hall : ([22].all fun u => !Tryd.prog.wantsStandIn u) = true := by kernel_rfl
        exact (show Tryd.prog.wantsStandIn t = false by simpa using List.all_eq_true.1 hall t hm)⟩)
    (by kernel_rfl)
end L1
end Go.Proofs.YtpidddafbehmpaaDoor
