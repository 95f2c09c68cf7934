/-
  SignDigitsCross: for all digests a and b the law returns true and leaves them as they are; the table of constants is as the program's text lays it (the card ties it).
-/
import Derived.Test.YtbgcnfikcddcpaaDoorSLaw
import Derived.Test.YtbgcnfikcddcpaaDoorSSan
namespace Go.Proofs.YtbgcnfikcddcpaaDoor
open Go.ChangeShapes Go.WideShapes Go.ChangeAt Go.RowKit Go.ChangeMaps
open Sha Sgn
set_option linter.unusedVariables false
set_option linter.unusedSimpArgs false
namespace SL5
/-- Is one of the first k numbers of X less than that of Y at its place? -/
def les (X Y : List Nat) : Nat → Bool
  | 0 => false
  | k + 1 => les X Y k || decide (X.getD k 0 < Y.getD k 0)
theorem les_true {X Y : List Nat} {i : Nat} (h : X.getD i 0 < Y.getD i 0) : ∀ k, i < k → les X Y k = true := by
  intro k
  induction k with
  | zero => intro h'; omega
  | succ k ih =>
    intro h'
    rw [les]
    by_cases e : i = k
    · subst e; rw [decide_eq_true h, Bool.or_true]
    · rw [ih (by omega)]; rfl
attribute [irreducible] les
theorem les_succ (X Y : List Nat) (k : Nat) : les X Y (k + 1) = (les X Y k || decide (X.getD k 0 < Y.getD k 0)) := by rw [les]
theorem les_zero (X Y : List Nat) : les X Y 0 = false := by rw [les]
/-- What the law keeps in its loop. -/
def LI (w : World) (a b : List UInt8) (X Y : List Nat) (gx gy : Nat) (wr : World) : Prop := Blk wr w.heap.size (bs a) 23 ∧ Blk wr (w.heap.size + 1) (bs b) 23 ∧ Blk wr gx (is X) 43 ∧ Blk wr gy (is Y) 43 ∧ Below w.heap.size w wr
theorem LI.drewN {w wr : World} {a b : List UInt8} {X Y : List Nat} {gx gy : Nat} (h : LI w a b X Y gx gy wr) (n : Nat) : LI w a b X Y gx gy (wr.drewN n) := ⟨h.1, h.2.1, h.2.2.1, h.2.2.2.1, below_drewN h.2.2.2.2 n⟩
set_option maxRecDepth 100000 in
set_option maxHeartbeats 2000000 in
theorem walk_aux (a b : List UInt8) (X Y : List Nat) (hX : X = digs a) (hY : Y = digs b) (ha : a.length = 16) (hb : b.length = 16) (w : World) (hK : KH w) :
    Calls Tryd.prog 7 #[.agg (bs a).toArray, .agg (bs b).toArray] w fun e w' => e = .returned (.bool true) ∧ Below w.heap.size w w' := by
  have hXl : X.length = 68 := by rw [hX, digs_length a ha]
  have hYl : Y.length = 68 := by rw [hY, digs_length b hb]
  have HC : Hid (a ≠ b → les X Y 68 = true ∧ les Y X 68 = true) := Lib.hid fun hne => by
    obtain ⟨⟨i, hi, h1⟩, j, hj, h2⟩ := cross a b ha hb hne
    exact ⟨les_true (by rw [hX, hY]; exact h1) 68 hi, les_true (by rw [hX, hY]; exact h2) 68 hj⟩
  have HDX : Hid (∀ W, Calls Tryd.prog 10 #[.agg (bs a).toArray] W fun e w' => ∃ g, e = .returned (.slice (some ⟨g, 0, none⟩) 68 68) ∧ Blk w' g (is X) 43 ∧ W.heap.size ≤ g ∧ Below W.heap.size W w') := Lib.hid fun W => by rw [hX]; exact digits_any a ha W
  have HDY : Hid (∀ W, Calls Tryd.prog 10 #[.agg (bs b).toArray] W fun e w' => ∃ g, e = .returned (.slice (some ⟨g, 0, none⟩) 68 68) ∧ Blk w' g (is Y) 43 ∧ W.heap.size ≤ g ∧ Below W.heap.size W w') := Lib.hid fun W => by rw [hY]; exact digits_any b hb W
  have HEQ : Hid (∀ W, (Op.equalIn 10000 23 (.agg (bs a).toArray) (.agg (bs b).toArray)).run Tryd.prog W = .ok (eqB a b) W) := Lib.hid fun W => eq44 a b ha hb W
  have HL : Hid (X.length = 68 ∧ Y.length = 68 ∧ (bs a).length = 16 ∧ (bs b).length = 16) := Lib.hid ⟨hXl, hYl, by rw [bs_length]; exact ha, by rw [bs_length]; exact hb⟩
  have HK := Lib.hid hK
  clear hK hX hY hXl hYl ha hb
  have H0 : Hid (Blk ((w.alloc (.cells (bs a).toArray 23)).alloc (.cells (bs b).toArray 23)) w.heap.size (bs a) 23 ∧ Blk ((w.alloc (.cells (bs a).toArray 23)).alloc (.cells (bs b).toArray 23)) (w.heap.size + 1) (bs b) 23 ∧ Below w.heap.size w ((w.alloc (.cells (bs a).toArray 23)).alloc (.cells (bs b).toArray 23))) :=
    Lib.hid ⟨(Blk.at w _ _ _ _ rfl rfl).alloc _, Blk.at _ _ _ _ _ rfl (by simp), (below_a1 _ _).alloc (by simp) _⟩
  go_enter Tryd.func7, Tryd.ntmps7
  go_wp2_with (first
    | (refine (sanity_any _ (HK.out.of H0.out.2.2)).mono ?_; rintro e x1 ⟨rfl, hb1⟩; have HX1 : Hid (Blk x1 w.heap.size (bs a) 23 ∧ Blk x1 (w.heap.size + 1) (bs b) 23 ∧ Below w.heap.size w x1) := Lib.hid ⟨H0.out.1.below hb1 H0.out.1.lt, H0.out.2.1.below hb1 H0.out.2.1.lt, below_next H0.out.2.2 hb1⟩; clear hb1)
    | (refine wpList_load_blk rfl 23 (.tmp 2) rfl w.heap.size 0 rfl HX1.out.1 _ Tryd.underlying23 rfl 16 Tryd.size44 (by rw [HL.out.2.2.1]; omega) ?_; rw [List.drop_zero, List.take_of_length_le (by rw [HL.out.2.2.1]; omega)])
    | ((with_reducible refine (HDX.out _).mono ?_); rintro e x2 ⟨gx, rfl, hbx, hgx, hb2⟩; have HX2 : Hid (Blk x2 w.heap.size (bs a) 23 ∧ Blk x2 (w.heap.size + 1) (bs b) 23 ∧ Blk x2 gx (is X) 43 ∧ Below w.heap.size w x2) := Lib.hid ⟨HX1.out.1.below hb2 HX1.out.1.lt, HX1.out.2.1.below hb2 HX1.out.2.1.lt, hbx, below_next HX1.out.2.2 hb2⟩; clear hb2 hbx hgx)
    | (refine wpList_load_blk rfl 23 (.tmp 3) rfl (w.heap.size + 1) 0 rfl HX2.out.2.1 _ Tryd.underlying23 rfl 16 Tryd.size44 (by rw [HL.out.2.2.2]; omega) ?_; rw [List.drop_zero, List.take_of_length_le (by rw [HL.out.2.2.2]; omega)])
    | ((with_reducible refine (HDY.out _).mono ?_); rintro e x3 ⟨gy, rfl, hby, hgy, hb3⟩; have HX3 : Hid (LI w a b X Y gx gy x3) := Lib.hid ⟨HX2.out.1.below hb3 HX2.out.1.lt, HX2.out.2.1.below hb3 HX2.out.2.1.lt, HX2.out.2.2.1.below hb3 HX2.out.2.2.1.lt, hby, below_next HX2.out.2.2.2 hb3⟩; clear hb3 hby hgy))
  go_loopg [8, 9, 10] 68 (fun g s8 s9 s10 wr => ∃ k : Nat, k + g = 68 ∧ s10 = .int .i64 k ∧ s8 = .bool (les X Y k) ∧ s9 = .bool (les Y X k) ∧ LI w a b X Y gx gy wr)
  case atStart => exact ⟨0, rfl, rfl, by rw [les_zero], by rw [les_zero], HX3.out⟩
  case round =>
    clear HX3
    obtain ⟨k, hk, rfl, rfl, rfl, hI⟩ := hrel
    by_cases hlt : k < 68
    · obtain ⟨g, rfl⟩ : ∃ g, gk = g + 1 := ⟨gk - 1, by omega⟩
      obtain ⟨x, hx⟩ : ∃ x, x = X.getD k 0 := ⟨_, rfl⟩
      obtain ⟨y, hy⟩ : ∃ y, y = Y.getD k 0 := ⟨_, rfl⟩
      have hcx := hI.2.2.1.cell (is_get X k (by rw [HL.out.1]; exact hlt))
      have hcy := hI.2.2.2.1.cell (is_get Y k (by rw [HL.out.2.1]; exact hlt))
      have h1 := les_succ X Y k
      have h2 := les_succ Y X k
      rw [← hx] at hcx h1 h2
      rw [← hy] at hcy h1 h2
      have HS := Lib.hid (And.intro h1 (And.intro h2 hI))
      clear hx hy h1 h2 hI
      generalize les X Y k = l1 at HS ⊢
      generalize les Y X k = l2 at HS ⊢
      have hcast1 : decide ((x : Int) < (y : Int)) = decide (x < y) := by simp
      have hcast2 : decide ((y : Int) < (x : Int)) = decide (y < x) := by simp
      cases l1 <;> cases l2
      all_goals
        go_wp2_with fail
        go_quiet (fail)
        go_wp2_with fail
        go_quiet (fail)
        go_wp2_with fail
        go_roundg g
        case rel => exact ⟨k + 1, by omega, by go_num, by rw [HS.out.1]; first | rfl | (simp; done), by rw [HS.out.2.1]; first | rfl | (simp; done), HS.out.2.2.drewN _⟩
        case measure => omega
    · obtain rfl : k = 68 := by omega
      have HI := Lib.hid hI
      clear hI
      by_cases hq : a = b
      · have hqb : eqB a b = true := (eqB_iff a b).2 hq
        have heq : ∀ W, (Op.equalIn 10000 23 (.agg (bs a).toArray) (.agg (bs b).toArray)).run Tryd.prog W = .ok true W := fun W => by rw [HEQ.out, hqb]
        clear hq hqb
        go_wp2_with (first
          | (refine wpList_load_w (by rfl) 23 (.tmp 2) rfl w.heap.size rfl HI.out.1 _ Tryd.underlying23 rfl (by rw [HL.out.2.2.1]; exact Tryd.size44) ?_)
          | (refine wpList_load_w (by rfl) 23 (.tmp 3) rfl (w.heap.size + 1) rfl HI.out.2.1 _ Tryd.underlying23 rfl (by rw [HL.out.2.2.2]; exact Tryd.size44) ?_))
        go_ret
        exact ⟨rfl, HI.out.2.2.2.2⟩
      · have hqb : eqB a b = false := by rw [← Bool.not_eq_true, eqB_iff]; exact hq
        have heq : ∀ W, (Op.equalIn 10000 23 (.agg (bs a).toArray) (.agg (bs b).toArray)).run Tryd.prog W = .ok false W := fun W => by rw [HEQ.out, hqb]
        have h68 := HC.out hq
        rw [h68.1, h68.2]
        clear hq hqb h68
        go_wp2_with (first
          | (refine wpList_load_w (by rfl) 23 (.tmp 2) rfl w.heap.size rfl HI.out.1 _ Tryd.underlying23 rfl (by rw [HL.out.2.2.1]; exact Tryd.size44) ?_)
          | (refine wpList_load_w (by rfl) 23 (.tmp 3) rfl (w.heap.size + 1) rfl HI.out.2.1 _ Tryd.underlying23 rfl (by rw [HL.out.2.2.2]; exact Tryd.size44) ?_))
        go_ret
        exact ⟨rfl, HI.out.2.2.2.2⟩
theorem walk (a b : List UInt8) (ha : a.length = 16) (hb : b.length = 16) (w : World) (hK : KH w) :
    Calls Tryd.prog 7 #[.agg (bs a).toArray, .agg (bs b).toArray] w fun e w' => e = .returned (.bool true) ∧ Below w.heap.size w w' := walk_aux a b _ _ rfl rfl ha hb w hK

set_option maxRecDepth 100000 in
theorem contract (H : Type) (enc : TypeId × Value → H) (W : World) (base : Nat) (args : Array Value) (ds gs : List (DataW H)) (before : List MemPlace)
    (hval : ∀ (j : Nat) t v, Tryd.f7.params[j]? = some t → args[j]? = some v → Value.okWide Tryd.prog W .any base t v)
    (hW : DataW.Whole enc Tryd.prog Tryd.f7.params.toList Rows.signDigitsCrossSpec.vars false W args.toList ds gs before)
    (hsz : (DataW.weightsEach Tryd.prog (Tryd.f7.params.toList ++ Rows.signDigitsCrossSpec.plain.varTypes Tryd.prog) (ds ++ gs)).all (· ≤ reachBytes) = true) (hK : KH W) :
    Calls Tryd.prog 7 args W fun e W' => ∃ v, e = .returned v ∧ Rows.signDigitsCrossSpec.post enc Tryd.prog Tryd.f7 false true false false W args v W' := by
  have hW' := hW
  obtain ⟨p, q, hA0, hV, rfl, hfz, hnd⟩ := hW
  have hA : DataW.TrodAll enc Tryd.prog W 0 (fun _ => true) true Tryd.f7.params.toList args.toList ds p := hA0
  rw [Tryd.params7] at hA hval hsz
  obtain ⟨v0, v1, d0, d1, p0, p1, rfl, rfl, rfl, h0, h1⟩ := trodAll_two hA
  obtain ⟨rfl, rfl⟩ := trodVars_none hV
  obtain ⟨a, rfl, al⟩ := open_digest (hval 0 23 v0 rfl rfl) h0
  obtain ⟨b, rfl, bl⟩ := open_digest (hval 1 23 v1 rfl rfl) h1

  have hargs : (#[.agg (bs a).toArray, .agg (bs b).toArray] : Array Value) = #[.agg (bs a).toArray, .agg (bs b).toArray] := by rfl
  have hwalk : Calls Tryd.prog 7 #[.agg (bs a).toArray, .agg (bs b).toArray] W fun e W' => e = .returned (.bool true) ∧ Below W.heap.size W W' := by
    rw [hargs]
    exact walk a b al bl W hK
  refine hwalk.mono fun e W' ⟨he, hb⟩ => ⟨_, he, ?_⟩
  exact law_post rfl rfl (by kernel_rfl) hW' rfl hb

set_option maxRecDepth 100000 in
theorem lifted (os : Os) (started : os.Started) (H : Type) (enc : TypeId × Value → H) :
    ReturnsInHanded {} Tryd.checked os 7 .any (fun w args => (Rows.signDigitsCrossSpec.pre enc Tryd.prog Tryd.f7 [] false w args ∧ laidMetH Tryd.prog laid1 w) ∧ sizedMet enc Tryd.prog Tryd.f7 (OpenSpec.ofChange Rows.signDigitsCrossSpec) false w args)
      (Rows.signDigitsCrossSpec.post enc Tryd.prog Tryd.f7 false true false false) := by
  refine returnsInHanded_of_change_and (C := Tryd.checked) (X := fun w _ => laidMetH Tryd.prog laid1 w) (fun _ _ _ hh h => h.of_heap hh) Tryd.own started (by kernel_rfl) Tryd.func7
    (ChangeSpec.witness_shaped (enc := enc) (C := Tryd.checked) (os := os) (X := fun w _ => laidMetH Tryd.prog laid1 w) false (World.doorLaid Tryd.prog 400 os) #[.agg #[.int .u8 0, .int .u8 0, .int .u8 0, .int .u8 0, .int .u8 0, .int .u8 0, .int .u8 0, .int .u8 0, .int .u8 0, .int .u8 0, .int .u8 0, .int .u8 0, .int .u8 0, .int .u8 0, .int .u8 0, .int .u8 0], .agg #[.int .u8 0, .int .u8 0, .int .u8 0, .int .u8 0, .int .u8 0, .int .u8 0, .int .u8 0, .int .u8 0, .int .u8 0, .int .u8 0, .int .u8 0, .int .u8 0, .int .u8 0, .int .u8 0, .int .u8 0, .int .u8 0]] 8 rfl (World.shaped_of_RefB (by kernel_rfl) (by kernel_rfl)) (by kernel_rfl) (by kernel_rfl) (by kernel_rfl) (door_met1 os _)) ?_
  intro W base args ds gs before hval hW _ hsz hL _
  exact contract H enc W base args ds gs before hval hW hsz (of_laid1 hL)

theorem row : Rows.SignDigitsCrossSaid :=
  OpenClaim.holds_of_wide 7 Tryd.f7 rfl rfl rfl rfl rfl rfl rfl ⟨rfl, rfl, rfl, rfl, rfl⟩ rfl rfl rfl rfl rfl (by kernel_rfl) Tryd.func7 (by kernel_rfl)
    (of_decide_eq_true (by kernel_rfl)) (by unfold Func.isWrapper; first | (rw [if_pos (by decide +kernel)]; kernel_rfl) | (rw [if_neg (by decide +kernel)]; exact ⟨rfl, rfl⟩))
    (fun os started H enc _ => lifted os started H enc)

theorem proved : Rows.SignDigitsCrossCardSaid :=
  Claim7.holds_tied_plain_at .later [] [.data] true (true, "53e8dcc94a98ee4e8397ce15025af463fab214ab1c042506e4d652f15817975a") false
    row (fun _ h => by cases h) (by kernel_rfl) (fun _ h => by cases h) signDigitsCross_row_tie rfl ⟨rfl, rfl⟩ (by kernel_rfl) rfl
    (fun f fn hf hfn => by
      obtain rfl : f = 7 := Option.some.inj ((show Tryd.prog.funcNamed "wordbook/wordbooklaw03.SignDigitsCross" = some 7 by kernel_rfl).symm.trans hf) |>.symm
      obtain rfl : fn = Tryd.f7 := (Option.some.inj (Tryd.func7.symm.trans hfn)).symm
      exact ⟨by kernel_rfl, fun j t ht => by
        rw [Tryd.params7] at ht
        have hm : t ∈ [23, 23] := by simpa using Array.mem_of_getElem? ht
        have hall : ([23, 23].all fun u => !Tryd.prog.wantsStandIn u) = true := by kernel_rfl
        exact (show Tryd.prog.wantsStandIn t = false by simpa using List.all_eq_true.1 hall t hm)⟩)
    (by kernel_rfl)
end SL5
end Go.Proofs.YtbgcnfikcddcpaaDoor
