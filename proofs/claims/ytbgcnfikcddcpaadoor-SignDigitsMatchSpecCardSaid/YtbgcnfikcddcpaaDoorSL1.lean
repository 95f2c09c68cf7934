/-
  SignDigitsMatchSpec: for every digest the law returns true; the table of constants is as the program's text lays it (the card ties it).
-/
import Derived.Test.YtbgcnfikcddcpaaDoorSLaw
import Derived.Test.YtbgcnfikcddcpaaDoorSRDig
namespace Go.Proofs.YtbgcnfikcddcpaaDoor
open Go.ChangeShapes Go.WideShapes Go.ChangeAt Go.RowKit Go.ChangeMaps
open Sha Sgn
set_option linter.unusedVariables false
set_option linter.unusedSimpArgs false
namespace SL1
def LI (w : World) (X : List Nat) (ga : Nat) (B : Nat) (O : Nat) (wr : World) : Prop := Blk wr ga (is X) 43 ∧ (∀ k v, (is X)[k]? = some v → wr.cell? ⟨B, O + k, none⟩ = some v) ∧ B < wr.heap.size ∧ Below w.heap.size w wr
theorem LI.drewN {w wr : World} {X : List Nat} {ga B O : Nat} (h : LI w X ga B O wr) (n : Nat) : LI w X ga B O (wr.drewN n) := ⟨h.1, h.2.1, h.2.2.1, below_drewN h.2.2.2 n⟩
set_option maxRecDepth 100000 in
set_option maxHeartbeats 2000000 in
theorem walk_aux (d : List UInt8) (X : List Nat) (hX : X = digs d) (hd : d.length = 16) (w : World) (hK : KH w) :
    Calls Tryd.prog 3 #[.agg (bs d).toArray] w fun e w' => e = .returned (.bool true) ∧ Below w.heap.size w w' := by
  have hXl : X.length = 68 := by rw [hX, digs_length d hd]
  have HDX : Hid (∀ W, Calls Tryd.prog 10 #[.agg (bs d).toArray] W fun e w' => ∃ g, e = .returned (.slice (some ⟨g, 0, none⟩) 68 68) ∧ Blk w' g (is X) 43 ∧ W.heap.size ≤ g ∧ Below W.heap.size W w') := Lib.hid fun W => by rw [hX]; exact digits_any d hd W
  have HDY : Hid (∀ W, Calls Tryd.prog 11 #[.agg (bs d).toArray] W fun e w' => ∃ A c, e = .returned (.slice A 68 c) ∧ Rd w' A (is X) ∧ Below W.heap.size W w') := Lib.hid fun W => by rw [hX]; exact rdigits_any d hd W
  have HL : Hid (X.length = 68 ∧ (bs d).length = 16 ∧ ∀ k, X.getD k 0 ≤ 3) := Lib.hid ⟨hXl, by rw [bs_length]; exact hd, fun k => by rw [hX]; exact digs_getD_le d hd k⟩
  have HK := Lib.hid hK
  clear hK hX hXl hd
  have H0 : Hid (Blk (w.alloc (.cells (bs d).toArray 23)) w.heap.size (bs d) 23 ∧ Below w.heap.size w (w.alloc (.cells (bs d).toArray 23))) :=
    Lib.hid ⟨Blk.at w _ _ _ _ rfl rfl, below_a1 _ _⟩
  go_enter Tryd.func3, Tryd.ntmps3
  go_wp2_with (first
    | (refine (sanity_any _ (HK.out.of H0.out.2)).mono ?_; rintro e x1 ⟨rfl, hb1⟩; have HX1 : Hid (Blk x1 w.heap.size (bs d) 23 ∧ Below w.heap.size w x1) := Lib.hid ⟨H0.out.1.below hb1 H0.out.1.lt, below_next H0.out.2 hb1⟩; clear hb1)
    | (refine wpList_load_blk rfl 23 (.tmp 1) rfl w.heap.size 0 rfl HX1.out.1 _ Tryd.underlying23 rfl 16 Tryd.size44 (by rw [HL.out.2.1]; omega) ?_; rw [List.drop_zero, List.take_of_length_le (by rw [HL.out.2.1]; omega)])
    | (go_at_call 10; refine (HDX.out _).mono ?_; rintro e x2 ⟨gx, rfl, hbx, hgx, hb2⟩; have HX2 : Hid (Blk x2 w.heap.size (bs d) 23 ∧ Blk x2 gx (is X) 43 ∧ Below w.heap.size w x2) := Lib.hid ⟨HX1.out.1.below hb2 HX1.out.1.lt, hbx, below_next HX1.out.2 hb2⟩; clear hb2 hbx hgx)
    | (refine wpList_load_blk rfl 23 (.tmp 1) rfl w.heap.size 0 rfl HX2.out.1 _ Tryd.underlying23 rfl 16 Tryd.size44 (by rw [HL.out.2.1]; omega) ?_; rw [List.drop_zero, List.take_of_length_le (by rw [HL.out.2.1]; omega)])
    | (go_at_call 11; refine (HDY.out _).mono ?_; rintro e x3 ⟨A, c, rfl, hrd, hb3⟩; obtain ⟨B, O, rfl, hcell⟩ := hrd.open (by intro h; have := congrArg List.length h; rw [is_length, HL.out.1] at this; cases this); have HX3 : Hid (LI w X gx B O x3) := Lib.hid ⟨HX2.out.2.1.below hb3 HX2.out.2.1.lt, hcell, World.block_lt_of_cell? x3 ⟨B, O + 0, none⟩ (hcell 0 _ (is_get X 0 (by rw [HL.out.1]; omega))), below_next HX2.out.2.2 hb3⟩; clear hb3 hcell hrd))
  go_loopg [6] 68 (fun g s6 wr => ∃ k : Nat, k + g = 68 ∧ s6 = .int .i64 k ∧ LI w X gx B O wr)
  case atStart => exact ⟨0, rfl, rfl, HX3.out⟩
  case round =>
    clear HX3
    obtain ⟨k, hk, rfl, hI⟩ := hrel
    by_cases hlt : k < 68
    · obtain ⟨g, rfl⟩ : ∃ g, gk = g + 1 := ⟨gk - 1, by omega⟩
      obtain ⟨x, hx⟩ : ∃ x, x = X.getD k 0 := ⟨_, rfl⟩
      have hx3 : x ≤ 3 := by rw [hx]; exact HL.out.2.2 k
      have hcx := hI.1.cell (is_get X k (by rw [HL.out.1]; exact hlt))
      have hcy := hI.2.1 k _ (is_get X k (by rw [HL.out.1]; exact hlt))
      rw [← hx] at hcx hcy
      have hd1 : decide ((x : Int) < 0) = false := by simp
      have hd2 : decide ((3 : Int) < (x : Int)) = false := by simp; omega
      have HS := Lib.hid hI
      clear hx hI hx3
      go_wp2_with fail
      go_quiet (fail)
      go_wp2_with fail
      go_roundg g
      case rel => exact ⟨k + 1, by omega, by go_num, HS.out.drewN _⟩
      case measure => omega
    · obtain rfl : k = 68 := by omega
      have HI := Lib.hid hI
      clear hI
      go_wp2_with fail
      go_ret
      exact ⟨rfl, HI.out.2.2.2⟩
theorem walk (d : List UInt8) (hd : d.length = 16) (w : World) (hK : KH w) :
    Calls Tryd.prog 3 #[.agg (bs d).toArray] w fun e w' => e = .returned (.bool true) ∧ Below w.heap.size w w' := walk_aux d _ rfl hd w hK

set_option maxRecDepth 100000 in
theorem contract (H : Type) (enc : TypeId × Value → H) (W : World) (base : Nat) (args : Array Value) (ds gs : List (DataW H)) (before : List MemPlace)
    (hval : ∀ (j : Nat) t v, Tryd.f3.params[j]? = some t → args[j]? = some v → Value.okWide Tryd.prog W .any base t v)
    (hW : DataW.Whole enc Tryd.prog Tryd.f3.params.toList Rows.signDigitsMatchSpecSpec.vars false W args.toList ds gs before)
    (hsz : (DataW.weightsEach Tryd.prog (Tryd.f3.params.toList ++ Rows.signDigitsMatchSpecSpec.plain.varTypes Tryd.prog) (ds ++ gs)).all (· ≤ reachBytes) = true) (hK : KH W) :
    Calls Tryd.prog 3 args W fun e W' => ∃ v, e = .returned v ∧ Rows.signDigitsMatchSpecSpec.post enc Tryd.prog Tryd.f3 false true false false W args v W' := by
  have hW' := hW
  obtain ⟨p, q, hA0, hV, rfl, hfz, hnd⟩ := hW
  have hA : DataW.TrodAll enc Tryd.prog W 0 (fun _ => true) true Tryd.f3.params.toList args.toList ds p := hA0
  rw [Tryd.params3] at hA hval hsz
  obtain ⟨v0, d0, rfl, rfl, h0⟩ := trodAll_one hA
  obtain ⟨rfl, rfl⟩ := trodVars_none hV
  obtain ⟨d, rfl, dl⟩ := open_digest (hval 0 23 v0 rfl rfl) h0

  have hargs : (#[.agg (bs d).toArray] : Array Value) = #[.agg (bs d).toArray] := by rfl
  have hwalk : Calls Tryd.prog 3 #[.agg (bs d).toArray] W fun e W' => e = .returned (.bool true) ∧ Below W.heap.size W W' := by
    rw [hargs]
    exact walk d dl W hK
  refine hwalk.mono fun e W' ⟨he, hb⟩ => ⟨_, he, ?_⟩
  exact law_post rfl rfl (by kernel_rfl) hW' rfl hb

set_option maxRecDepth 100000 in
theorem lifted (os : Os) (started : os.Started) (H : Type) (enc : TypeId × Value → H) :
    ReturnsInHanded {} Tryd.checked os 3 .any (fun w args => (Rows.signDigitsMatchSpecSpec.pre enc Tryd.prog Tryd.f3 [] false w args ∧ laidMetH Tryd.prog laid1 w) ∧ sizedMet enc Tryd.prog Tryd.f3 (OpenSpec.ofChange Rows.signDigitsMatchSpecSpec) false w args)
      (Rows.signDigitsMatchSpecSpec.post enc Tryd.prog Tryd.f3 false true false false) := by
  refine returnsInHanded_of_change_and (C := Tryd.checked) (X := fun w _ => laidMetH Tryd.prog laid1 w) (fun _ _ _ hh h => h.of_heap hh) Tryd.own started (by kernel_rfl) Tryd.func3
    (ChangeSpec.witness_shaped (enc := enc) (C := Tryd.checked) (os := os) (X := fun w _ => laidMetH Tryd.prog laid1 w) false (World.doorLaid Tryd.prog 400 os) #[.agg #[.int .u8 0, .int .u8 0, .int .u8 0, .int .u8 0, .int .u8 0, .int .u8 0, .int .u8 0, .int .u8 0, .int .u8 0, .int .u8 0, .int .u8 0, .int .u8 0, .int .u8 0, .int .u8 0, .int .u8 0, .int .u8 0]] 8 rfl (World.shaped_of_RefB (by kernel_rfl) (by kernel_rfl)) (by kernel_rfl) (by kernel_rfl) (by kernel_rfl) (door_met1 os _)) ?_
  intro W base args ds gs before hval hW _ hsz hL _
  exact contract H enc W base args ds gs before hval hW hsz (of_laid1 hL)

theorem row : Rows.SignDigitsMatchSpecSaid :=
  OpenClaim.holds_of_wide 3 Tryd.f3 rfl rfl rfl rfl rfl rfl rfl ⟨rfl, rfl, rfl, rfl, rfl⟩ rfl rfl rfl rfl rfl (by kernel_rfl) Tryd.func3 (by kernel_rfl)
    (of_decide_eq_true (by kernel_rfl)) (by unfold Func.isWrapper; first | (rw [if_pos (by decide +kernel)]; kernel_rfl) | (rw [if_neg (by decide +kernel)]; exact ⟨rfl, rfl⟩))
    (fun os started H enc _ => lifted os started H enc)

theorem proved : Rows.SignDigitsMatchSpecCardSaid :=
  Claim7.holds_tied_plain_at .later [] [.data] true (true, "53e8dcc94a98ee4e8397ce15025af463fab214ab1c042506e4d652f15817975a") false
    row (fun _ h => by cases h) (by kernel_rfl) (fun _ h => by cases h) signDigitsMatchSpec_row_tie rfl ⟨rfl, rfl⟩ (by kernel_rfl) rfl
    (fun f fn hf hfn => by
      obtain rfl : f = 3 := Option.some.inj ((show Tryd.prog.funcNamed "wordbook/wordbooklaw03.SignDigitsMatchSpec" = some 3 by kernel_rfl).symm.trans hf) |>.symm
      obtain rfl : fn = Tryd.f3 := (Option.some.inj (Tryd.func3.symm.trans hfn)).symm
      exact ⟨by kernel_rfl, fun j t ht => by
        rw [Tryd.params3] at ht
        have hm : t ∈ [23] := by simpa using Array.mem_of_getElem? ht
        have hall : ([23].all fun u => !Tryd.prog.wantsStandIn u) = true := by kernel_rfl
        exact (show Tryd.prog.wantsStandIn t = false by simpa using List.all_eq_true.1 hall t hm)⟩)
    (by kernel_rfl)
end SL1
end Go.Proofs.YtbgcnfikcddcpaaDoor
