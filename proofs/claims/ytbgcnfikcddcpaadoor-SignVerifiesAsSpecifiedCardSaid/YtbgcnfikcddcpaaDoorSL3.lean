/-
  SignVerifiesAsSpecified: for all public keys, heights, messages and signatures the law returns true; the two tables of constants are as the program's text lays them (the card ties them).
-/
import Derived.Test.YtbgcnfikcddcpaaDoorSLaw
import Derived.Test.YtbgcnfikcddcpaaDoorSRVer
namespace Go.Proofs.YtbgcnfikcddcpaaDoor
open Go.ChangeShapes Go.WideShapes Go.ChangeAt Go.RowKit Go.ChangeMaps
open Sha Sgn
set_option linter.unusedVariables false
set_option linter.unusedSimpArgs false
namespace SL3
set_option maxRecDepth 100000 in
set_option maxHeartbeats 2000000 in
theorem walk (p : List UInt8) (h : Int) (m g : List UInt8) (hp : p.length = 16) (w : World) (hK : KH w ∧ KR w) :
    Calls Tryd.prog 5 #[.agg (bs p).toArray, .int .i64 h, .string (sb m), .string (sb g)] w fun e w' => e = .returned (.bool true) ∧ Below w.heap.size w w' := by
  have hsm := sb_size m
  have hsg := sb_size g
  have H0 : Hid (Blk (w.alloc (.cells (bs p).toArray 23)) w.heap.size (bs p) 23 ∧ Below w.heap.size w (w.alloc (.cells (bs p).toArray 23))) := Lib.hid ⟨Blk.at w _ _ _ _ rfl rfl, below_a1 _ _⟩
  have HK := Lib.hid hK; clear hK
  have HPB : Hid ((bs p).length = 16) := Lib.hid (by rw [bs_length]; exact hp)
  by_cases h1 : 200 < m.length
  · have hd1 : decide ((200 : Int) < (m.length : Int)) = true := by simp; omega
    clear h1 hp
    go_enter Tryd.func5, Tryd.ntmps5
    go_wp2_with (go_at_call 9; (with_reducible refine (sanity_any _ ?_).mono ?_); exact (HK.out.1.of H0.out.2); rintro e x1 ⟨rfl, hb1⟩; have HX1 : Hid (Blk x1 w.heap.size (bs p) 23 ∧ Below w.heap.size w x1) := Lib.hid ⟨H0.out.1.below hb1 H0.out.1.lt, below_next H0.out.2 hb1⟩; clear hb1)
    go_ret
    exact ⟨rfl, HX1.out.2⟩
  · have hd1 : decide ((200 : Int) < (m.length : Int)) = false := by simp; omega
    by_cases h2 : 1400 < g.length
    · have hd2 : decide ((1400 : Int) < (g.length : Int)) = true := by simp; omega
      clear h1 h2 hp
      go_enter Tryd.func5, Tryd.ntmps5
      go_wp2_with (go_at_call 9; (with_reducible refine (sanity_any _ ?_).mono ?_); exact (HK.out.1.of H0.out.2); rintro e x1 ⟨rfl, hb1⟩; have HX1 : Hid (Blk x1 w.heap.size (bs p) 23 ∧ Below w.heap.size w x1) := Lib.hid ⟨H0.out.1.below hb1 H0.out.1.lt, below_next H0.out.2 hb1⟩; clear hb1)
      go_ret
      exact ⟨rfl, HX1.out.2⟩
    · have hd2 : decide ((1400 : Int) < (g.length : Int)) = false := by simp; omega
      obtain ⟨r1, r2, hver⟩ : ∃ r1 r2, ver p h m g = (r1, r2) := ⟨_, _, rfl⟩
      have HV1 : Hid (∀ W, KH W → Calls Tryd.prog 18 #[.agg (bs p).toArray, .int .i64 h, .string (sb m), .string (sb g)] W fun e w' => e = .returned (.tuple #[.int .i64 r1, .int .i64 r2]) ∧ Below W.heap.size W w') := Lib.hid fun W hk => by
        have := verify_any p m g W h hp (by omega) hk
        rw [hver] at this
        exact this
      have HV2 : Hid (∀ W, KR W → Calls Tryd.prog 19 #[.agg (bs p).toArray, .int .i64 h, .string (sb m), .string (sb g)] W fun e w' => e = .returned (.tuple #[.int .i64 r1, .int .i64 r2]) ∧ Below W.heap.size W w') := Lib.hid fun W hk => by
        have := rverify_any p m g W h hp (by omega) (by omega) hk
        rw [hver] at this
        exact this
      clear h1 h2 hver hp
      go_enter Tryd.func5, Tryd.ntmps5
      go_wp2_with (first
        | (go_at_call 9; (with_reducible refine (sanity_any _ ?_).mono ?_); exact (HK.out.1.of H0.out.2); rintro e x1 ⟨rfl, hb1⟩; have HX1 : Hid (Blk x1 w.heap.size (bs p) 23 ∧ Below w.heap.size w x1) := Lib.hid ⟨H0.out.1.below hb1 H0.out.1.lt, below_next H0.out.2 hb1⟩; clear hb1)
        | (refine wpList_load_blk rfl 23 (.tmp 4) rfl w.heap.size 0 rfl HX1.out.1 _ Tryd.underlying23 rfl 16 Tryd.size44 (by rw [HPB.out]; omega) ?_; rw [List.drop_zero, List.take_of_length_le (by rw [HPB.out]; omega)])
        | (go_at_call 18; (with_reducible refine (HV1.out _ ?_).mono ?_); exact (HK.out.1.of HX1.out.2); rintro e x2 ⟨rfl, hb2⟩; have HX2 : Hid (Blk x2 w.heap.size (bs p) 23 ∧ Below w.heap.size w x2) := Lib.hid ⟨HX1.out.1.below hb2 HX1.out.1.lt, below_next HX1.out.2 hb2⟩; clear hb2)
        | (refine wpList_load_blk rfl 23 (.tmp 4) rfl w.heap.size 0 rfl HX2.out.1 _ Tryd.underlying23 rfl 16 Tryd.size44 (by rw [HPB.out]; omega) ?_; rw [List.drop_zero, List.take_of_length_le (by rw [HPB.out]; omega)])
        | (go_at_call 19; (with_reducible refine (HV2.out _ ?_).mono ?_); exact (HK.out.2.of HX2.out.2); rintro e x3 ⟨rfl, hb3⟩; have HX3 : Hid (Below w.heap.size w x3) := Lib.hid (below_next HX2.out.2 hb3); clear hb3))
      go_ret
      exact ⟨rfl, HX3.out⟩

set_option maxRecDepth 100000 in
theorem contract (H : Type) (enc : TypeId × Value → H) (W : World) (base : Nat) (args : Array Value) (ds gs : List (DataW H)) (before : List MemPlace)
    (hval : ∀ (j : Nat) t v, Tryd.f5.params[j]? = some t → args[j]? = some v → Value.okWide Tryd.prog W .any base t v)
    (hW : DataW.Whole enc Tryd.prog Tryd.f5.params.toList Rows.signVerifiesAsSpecifiedSpec.vars false W args.toList ds gs before)
    (hsz : (DataW.weightsEach Tryd.prog (Tryd.f5.params.toList ++ Rows.signVerifiesAsSpecifiedSpec.plain.varTypes Tryd.prog) (ds ++ gs)).all (· ≤ reachBytes) = true) (hK : KH W ∧ KR W) :
    Calls Tryd.prog 5 args W fun e W' => ∃ v, e = .returned v ∧ Rows.signVerifiesAsSpecifiedSpec.post enc Tryd.prog Tryd.f5 false true false false W args v W' := by
  have hW' := hW
  obtain ⟨p, q, hA0, hV, rfl, hfz, hnd⟩ := hW
  have hA : DataW.TrodAll enc Tryd.prog W 0 (fun _ => true) true Tryd.f5.params.toList args.toList ds p := hA0
  rw [Tryd.params5] at hA hval hsz
  obtain ⟨v0, v1, v2, v3, d0, d1, d2, d3, p0, p1, p2, p3, rfl, rfl, rfl, h0, h1, h2, h3⟩ := trodAll_four hA
  obtain ⟨rfl, rfl⟩ := trodVars_none hV
  obtain ⟨k, rfl, kl⟩ := open_digest (hval 0 23 v0 rfl rfl) h0
  obtain ⟨n, rfl, rfl, rfl, nw⟩ := open_int Tryd.underlying3 (hval 1 3 v1 rfl rfl) h1
  have ni := inI_wf nw
  obtain ⟨m0, rfl, rfl, rfl, mw⟩ := open_string Tryd.underlying9 (hval 2 9 v2 rfl rfl) h2
  have mq := sized_string hsz (j := 2) (t := 9) rfl rfl
  obtain ⟨m, me⟩ : ∃ l, l = m0.data.toList := ⟨_, rfl⟩
  have mb : m0 = sb m := by rw [me]; rfl
  have mr : m.length ≤ 140737488355328 := by rw [me]; exact Nat.le_trans (m := 140737488351232) (by simpa [reachBytes] using mq) (by omega)
  obtain ⟨t0, rfl, rfl, rfl, tw⟩ := open_string Tryd.underlying9 (hval 3 9 v3 rfl rfl) h3
  have tq := sized_string hsz (j := 3) (t := 9) rfl rfl
  obtain ⟨t, te⟩ : ∃ l, l = t0.data.toList := ⟨_, rfl⟩
  have tb : t0 = sb t := by rw [te]; rfl
  have tr : t.length ≤ 140737488355328 := by rw [te]; exact Nat.le_trans (m := 140737488351232) (by simpa [reachBytes] using tq) (by omega)

  have hargs : (#[.agg (bs k).toArray, .int .i64 n, .string m0, .string t0] : Array Value) = #[.agg (bs k).toArray, .int .i64 n, .string (sb m), .string (sb t)] := by rw [mb, tb]
  have hwalk : Calls Tryd.prog 5 #[.agg (bs k).toArray, .int .i64 n, .string m0, .string t0] W fun e W' => e = .returned (.bool true) ∧ Below W.heap.size W W' := by
    rw [hargs]
    exact walk k n m t kl W hK
  refine hwalk.mono fun e W' ⟨he, hb⟩ => ⟨_, he, ?_⟩
  exact law_post rfl rfl (by kernel_rfl) hW' rfl hb

set_option maxRecDepth 100000 in
theorem lifted (os : Os) (started : os.Started) (H : Type) (enc : TypeId × Value → H) :
    ReturnsInHanded {} Tryd.checked os 5 .any (fun w args => (Rows.signVerifiesAsSpecifiedSpec.pre enc Tryd.prog Tryd.f5 [] false w args ∧ laidMetH Tryd.prog laid2 w) ∧ sizedMet enc Tryd.prog Tryd.f5 (OpenSpec.ofChange Rows.signVerifiesAsSpecifiedSpec) false w args)
      (Rows.signVerifiesAsSpecifiedSpec.post enc Tryd.prog Tryd.f5 false true false false) := by
  refine returnsInHanded_of_change_and (C := Tryd.checked) (X := fun w _ => laidMetH Tryd.prog laid2 w) (fun _ _ _ hh h => h.of_heap hh) Tryd.own started (by kernel_rfl) Tryd.func5
    (ChangeSpec.witness_shaped (enc := enc) (C := Tryd.checked) (os := os) (X := fun w _ => laidMetH Tryd.prog laid2 w) false (World.doorLaid Tryd.prog 400 os) #[.agg #[.int .u8 0, .int .u8 0, .int .u8 0, .int .u8 0, .int .u8 0, .int .u8 0, .int .u8 0, .int .u8 0, .int .u8 0, .int .u8 0, .int .u8 0, .int .u8 0, .int .u8 0, .int .u8 0, .int .u8 0, .int .u8 0], .int .i64 0, .string ByteArray.empty, .string ByteArray.empty] 8 rfl (World.shaped_of_RefB (by kernel_rfl) (by kernel_rfl)) (by kernel_rfl) (by kernel_rfl) (by kernel_rfl) (door_met2 os _)) ?_
  intro W base args ds gs before hval hW _ hsz hL _
  exact contract H enc W base args ds gs before hval hW hsz (of_laid2 hL)

theorem row : Rows.SignVerifiesAsSpecifiedSaid :=
  OpenClaim.holds_of_wide 5 Tryd.f5 rfl rfl rfl rfl rfl rfl rfl ⟨rfl, rfl, rfl, rfl, rfl⟩ rfl rfl rfl rfl rfl (by kernel_rfl) Tryd.func5 (by kernel_rfl)
    (of_decide_eq_true (by kernel_rfl)) (by unfold Func.isWrapper; first | (rw [if_pos (by decide +kernel)]; kernel_rfl) | (rw [if_neg (by decide +kernel)]; exact ⟨rfl, rfl⟩))
    (fun os started H enc _ => lifted os started H enc)

theorem proved : Rows.SignVerifiesAsSpecifiedCardSaid :=
  Claim7.holds_tied_plain_at .later [] [.data, .data] true (true, "53e8dcc94a98ee4e8397ce15025af463fab214ab1c042506e4d652f15817975a") false
    row (fun _ h => by cases h) (by kernel_rfl) (fun _ h => by cases h) signVerifiesAsSpecified_row_tie rfl ⟨rfl, rfl⟩ (by kernel_rfl) rfl
    (fun f fn hf hfn => by
      obtain rfl : f = 5 := Option.some.inj ((show Tryd.prog.funcNamed "wordbook/wordbooklaw03.SignVerifiesAsSpecified" = some 5 by kernel_rfl).symm.trans hf) |>.symm
      obtain rfl : fn = Tryd.f5 := (Option.some.inj (Tryd.func5.symm.trans hfn)).symm
      exact ⟨by kernel_rfl, fun j t ht => by
        rw [Tryd.params5] at ht
        have hm : t ∈ [23, 3, 9, 9] := by simpa using Array.mem_of_getElem? ht
        have hall : ([23, 3, 9, 9].all fun u => !Tryd.prog.wantsStandIn u) = true := by kernel_rfl
        exact (show Tryd.prog.wantsStandIn t = false by simpa using List.all_eq_true.1 hall t hm)⟩)
    (by kernel_rfl)
end SL3
end Go.Proofs.YtbgcnfikcddcpaaDoor
