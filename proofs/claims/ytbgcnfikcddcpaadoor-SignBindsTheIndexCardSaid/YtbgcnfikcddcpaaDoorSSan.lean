/-
  The walks of the law's seed and of its own examples.
-/
import Derived.Test.YtbgcnfikcddcpaaDoorSVer
import Derived.Test.YtbgcnfikcddcpaaDoorSEvB
namespace Go.Proofs.YtbgcnfikcddcpaaDoor
open Go.RowKit
set_option linter.unusedVariables false
set_option linter.unusedSimpArgs false
open Sha Sgn
def seedB (c : UInt8) : List UInt8 := List.replicate 32 c
theorem seedB_length (c : UInt8) : (seedB c).length = 32 := by simp [seedB]
def fillK (k : Nat) (c : UInt8) : List UInt8 := List.replicate k c ++ List.replicate (32 - k) 0
theorem fillK_length (k : Nat) (c : UInt8) (h : k ≤ 32) : (fillK k c).length = 32 := by simp [fillK]; omega
theorem fillK_zero (c : UInt8) : fillK 0 c = List.replicate 32 0 := by simp [fillK]
theorem fillK_all (c : UInt8) : fillK 32 c = seedB c := by simp [fillK, seedB]
theorem fillK_set (k : Nat) (c : UInt8) (h : k < 32) : (fillK k c).set k c = fillK (k + 1) c := by
  have e : 32 - k = (32 - (k + 1)) + 1 := by omega
  unfold fillK
  rw [List.set_append_right _ _ (by simp), List.length_replicate, Nat.sub_self, e, List.replicate_succ, List.set_cons_zero, List.replicate_succ', List.append_assoc]
  rfl
attribute [irreducible] fillK seedB
set_option maxRecDepth 100000 in
set_option maxHeartbeats 1000000 in
theorem seed_any (c : UInt8) (w : World) :
    Calls Tryd.prog 20 #[.int .u8 c.toNat] w fun e w' => e = .returned (.string (sb (seedB c))) ∧ Below w.heap.size w w' := by
  have hmk : (Instr.makeSlice 58 (.int .i64 32) (.int .i64 32)).run Tryd.prog w = .ok (.slice (some ⟨w.heap.size, 0, none⟩) 32 32) (w.alloc (.cells (bs (List.replicate 32 0)).toArray 5)) := by kernel_rfl
  have HB0 : Hid (Blk (w.alloc (.cells (bs (List.replicate 32 0)).toArray 5)) w.heap.size (bs (List.replicate 32 0)) 5) := Lib.hid (Blk.new w _ _)
  go_enter Tryd.func20, Tryd.ntmps20
  go_wp2_with fail
  go_loopg [4] 32 (fun g s4 wr => ∃ k : Nat, k + g = 32 ∧ s4 = .int .i64 k ∧ Blk wr w.heap.size (bs (fillK k c)) 5 ∧ Below w.heap.size w wr)
  case atStart => exact ⟨0, rfl, rfl, by rw [fillK_zero]; exact HB0.out, below_a1 _ _⟩
  case round =>
    clear HB0 hmk
    obtain ⟨k, hk, rfl, hB, hBl⟩ := hrel
    by_cases hlt : k < 32
    · obtain ⟨g, rfl⟩ : ∃ g, gk = g + 1 := ⟨gk - 1, by omega⟩
      have hset : (bs (fillK k c)).set k (.int .u8 c.toNat) = bs (fillK (k + 1) c) := by rw [bs_set, fillK_set k c hlt]
      have HS := Lib.hid (And.intro hset (And.intro hB hBl)); clear hset hB hBl
      go_wp2_with (refine wpList_store_int rfl 5 (.tmp 13) (.tmp 12) rfl w.heap.size k rfl .u8 (c.toNat : Int) rfl HS.out.2.1 (by rw [bs_length, fillK_length k c (by omega)]; exact hlt) Tryd.size1 ?_; intro w2 hst2; rw [HS.out.1] at hst2; have HST2 := Lib.hid hst2; clear hst2)
      go_roundg g
      case rel => exact ⟨k + 1, by omega, by go_num, HST2.out.1, HST2.out.below HS.out.2.2 (Nat.le_refl _)⟩
      case measure => omega
    · obtain rfl : k = 32 := by omega
      rw [fillK_all] at hB
      have hcv := conv_blk (n := 32) 32 hB (seedB_length c).symm
      have HB := Lib.hid hBl; clear hB hBl
      go_wp2_with fail
      go_ret
      exact ⟨rfl, HB.out⟩

/-! ## what Verify answers of signatures -/
theorem ver_body (p m R : List UInt8) (h i : Nat) (h6 : h ≤ 6) (hi : i < 2 ^ h) (hm : m.length ≤ 1048576) (hR : R.length = 16 * (68 + h)) : ver p h m (en i ++ R) = if way p h i m R = p then ((i : Int), 0) else (0, 10) := by
  have hi64 : i < 64 := by have : 2 ^ h ≤ 2 ^ 6 := Nat.pow_le_pow_right (by omega) h6; omega
  have hg := gI_en (i : Int) (by unfold inI; omega) R
  have hlen : (en (i : Int) ++ R).length - (en (i : Int)).length = 16 * (68 + h) := by rw [List.length_append, hR]; omega
  rw [ver, if_neg (by omega), if_neg (by omega), hg, if_neg (by simp), Int.toNat_natCast, Int.toNat_natCast, List.drop_left, if_neg]
  rintro (h1 | h1 | h1)
  · have h1' : (i : Int) < 0 := h1
    omega
  · exact absurd (Int.ofNat_le.1 h1) (by omega)
  · exact h1 hlen
theorem ver_len (p m G : List UInt8) (h i u : Nat) (h6 : h ≤ 6) (hm : m.length ≤ 1048576) (hg : gI G = ((i : Int), u, 0)) (hl : G.length - u ≠ 16 * (68 + h)) : ver p h m G = (0, 2) := by
  rw [ver, if_neg (by omega), if_neg (by omega), hg, if_neg (by simp), Int.toNat_natCast, if_pos (.inr (.inr hl))]
theorem sig_length (s : List UInt8) (h i : Nat) (d : List Nat) (b : List UInt8) (hb : b = (besid s h i).flatten) : (sigN s i d 68 ++ b).length = 16 * (68 + h) := by
  rw [hb, List.length_append, sigN_length, besid_flat]; omega
/-- P3.5: what Sign makes is accepted. -/
theorem ver_sgn (s m : List UInt8) (h i : Nat) (h6 : h ≤ 6) (hi : i < 2 ^ h) (hm : m.length ≤ 1048576) : ver (node s h 0) h m (sgn s h i m) = ((i : Int), 0) := by
  rw [sgn, ver_body _ _ _ h i h6 hi hm (sig_length _ _ _ _ _ rfl), if_pos (way_sgn s h i m hi)]
theorem ver_other : ver (node Fast.S5 1 0) (1 : Nat) [110] (sgn Fast.S5 1 1 [109]) = (0, 10) := by
  rw [sgn, ver_body _ _ _ 1 1 (by omega) (by omega) (by simp) (sig_length _ _ _ _ _ rfl), if_neg Fast.other_root]
theorem S5_seed : Fast.S5 = seedB 5 := by rw [seedB]; rfl
theorem sgn_le (s m : List UInt8) (h i : Nat) (h6 : h ≤ 6) : (sgn s h i m).length ≤ 2000 := by
  have := en_len9 (i : Int)
  rw [sgn_length]
  omega
theorem digs_zero : digs (List.replicate 16 0) = List.replicate 64 0 ++ [3, 0, 0, 0] := by kernel_rfl
def San (w : World) (e : Ending) (w' : World) : Prop := e = .returned (.bool true) ∧ Below w.heap.size w w'
set_option maxRecDepth 100000 in
set_option maxHeartbeats 4000000 in
theorem sanity_aux (S P G Q1 Q0 : List UInt8) (D0 : List Nat) (hS : S = Fast.S5) (hP : P = node S 1 0) (hG : G = sgn S 1 1 [109]) (hQ1 : Q1 = dgst P (1 : Nat) [109]) (hQ0 : Q0 = dgst P (0 : Nat) [109]) (hD0 : D0 = digs (List.replicate 16 0)) (w : World) (hK : KH w) :
    Calls Tryd.prog 9 #[] w (San w) := by
  have hSl : S.length = 32 := by rw [hS]; simp [Fast.S5]
  have hPl : P.length = 16 := by rw [hP, node_length]
  have hGl : G.length ≤ 2000 := by rw [hG]; exact sgn_le _ _ _ _ (by omega)
  have hQ1l : Q1.length = 16 := by rw [hQ1, dgst_length]
  have hQ0l : Q0.length = 16 := by rw [hQ0, dgst_length]
  have hne : eqB Q1 Q0 = false := by
    rw [← Bool.not_eq_true, eqB_iff, hQ1, hQ0, hP, hS]
    exact Fast.two_digests
  have HSD : Hid (∀ W, Calls Tryd.prog 20 #[.int .u8 5] W fun e w' => e = .returned (.string (sb S)) ∧ Below W.heap.size W w') := Lib.hid fun W => by rw [hS, S5_seed]; exact seed_any 5 W
  have HPU : Hid (∀ W, KH W → Calls Tryd.prog 12 #[.string (sb S), .int .i64 1] W fun e w' => e = .returned (.tuple #[.agg (bs P).toArray, .int .i64 0]) ∧ Below W.heap.size W w') := Lib.hid fun W hk => public_yes S P 1 1 rfl hSl (by omega) hP W hk
  have HSG : Hid (∀ W, KH W → Calls Tryd.prog 14 #[.string (sb S), .int .i64 1, .int .i64 1, .string { data := #[109] }] W fun e w' => e = .returned (.tuple #[.string (sb G), .int .i64 0]) ∧ Below W.heap.size W w') := Lib.hid fun W hk => by rw [hG]; exact sign_any S [109] 1 1 1 1 rfl rfl hSl (by omega) (by omega) (by simp) W hk
  have HV1 : Hid (∀ W, KH W → Calls Tryd.prog 18 #[.agg (bs P).toArray, .int .i64 1, .string { data := #[109] }, .string (sb G)] W fun e w' => e = .returned (.tuple #[.int .i64 1, .int .i64 0]) ∧ Below W.heap.size W w') := Lib.hid fun W hk => by
    have h1 := verify_any P [109] G W 1 hPl (by omega) hk
    have e : ver P 1 [109] G = (1, 0) := by rw [hG, hP]; exact ver_sgn S [109] 1 1 (by omega) (by omega) (by simp)
    rw [e] at h1
    exact h1
  have HV2 : Hid (∀ W, KH W → Calls Tryd.prog 18 #[.agg (bs P).toArray, .int .i64 1, .string { data := #[110] }, .string (sb G)] W fun e w' => e = .returned (.tuple #[.int .i64 0, .int .i64 10]) ∧ Below W.heap.size W w') := Lib.hid fun W hk => by
    have h1 := verify_any P [110] G W 1 hPl (by omega) hk
    have e : ver P 1 [110] G = (0, 10) := by rw [hG, hP, hS]; exact ver_other
    rw [e] at h1
    exact h1
  have HSP : Hid (∀ W, Calls Tryd.prog 14 #[.string (sb S), .int .i64 1, .int .i64 2, .string { data := #[109] }] W fun e w' => e = .returned (.tuple #[.string (sb []), .int .i64 23]) ∧ Below W.heap.size W w') := Lib.hid fun W => sign_spent S [109] 1 1 2 rfl hSl (by omega) (.inr (by decide)) W
  obtain ⟨S1, hS1⟩ : ∃ S1, S1 = S.drop 1 := ⟨_, rfl⟩
  have HSH : Hid (∀ W, Calls Tryd.prog 12 #[.string (sb S1), .int .i64 0] W fun e w' => e = .returned (.tuple #[.agg (bs (List.replicate 16 0)).toArray, .int .i64 1]) ∧ Below W.heap.size W w') := Lib.hid fun W => public_no S1 0 (.inl (by rw [hS1, List.length_drop]; omega)) W
  have HDI : Hid (∀ W, Calls Tryd.prog 10 #[.agg (bs (List.replicate 16 0)).toArray] W fun e w' => ∃ b, e = .returned (.slice (some ⟨b, 0, none⟩) 68 68) ∧ Blk w' b (is D0) 43 ∧ W.heap.size ≤ b ∧ Below W.heap.size W w') := Lib.hid fun W => by rw [hD0]; exact digits_any (List.replicate 16 0) (by simp) W
  have HD1 : Hid (∀ W, KH W → Calls Tryd.prog 16 #[.agg (bs P).toArray, .int .i64 1, .string { data := #[109] }] W fun e w' => e = .returned (.agg (bs Q1).toArray) ∧ Below W.heap.size W w') := Lib.hid fun W hk => by rw [hQ1]; exact dgst_any P [109] 1 hPl (by unfold inI; omega) (by simp) W hk
  have HD2 : Hid (∀ W, KH W → Calls Tryd.prog 16 #[.agg (bs P).toArray, .int .i64 0, .string { data := #[109] }] W fun e w' => e = .returned (.agg (bs Q0).toArray) ∧ Below W.heap.size W w') := Lib.hid fun W hk => by rw [hQ0]; exact dgst_any P [109] 0 hPl (by unfold inI; omega) (by simp) W hk
  have HEQ : Hid (∀ W, (Op.equalIn 10000 23 (.agg (bs Q1).toArray) (.agg (bs Q0).toArray)).run Tryd.prog W = .ok false W) := Lib.hid fun W => by rw [eq44 Q1 Q0 hQ1l hQ0l W, hne]
  have hDc : (is D0)[0]? = some (.int .i64 0) ∧ (is D0)[64]? = some (.int .i64 3) ∧ (is D0)[67]? = some (.int .i64 0) := by rw [hD0, digs_zero]; exact ⟨rfl, rfl, rfl⟩
  have HDC := Lib.hid hDc
  have hSz : (sb S).size = 32 := by rw [sb_size, hSl]
  have hcut : (sb S).extract 1 32 = sb S1 := by rw [← hSz, hS1]; exact sb_drop S 1 (by omega)
  have HPB : Hid ((bs P).length = 16) := Lib.hid (by rw [bs_length]; exact hPl)
  have HK := Lib.hid hK
  clear hK hS hP hG hQ1 hQ0 hD0 hSl hPl hGl hQ1l hQ0l hne hDc hS1
  go_enter Tryd.func9, Tryd.ntmps9
  go_wp2_with (first
    | ((with_reducible refine (HSD.out _).mono ?_); rintro e x1 ⟨rfl, hb1⟩; have HX1 := Lib.hid hb1; clear hb1)
    | ((with_reducible refine (HPU.out _ ?_).mono ?_); exact (HK.out.of HX1.out); rintro e x2 ⟨rfl, hb2⟩; have HX2 : Hid (Below w.heap.size w x2) := Lib.hid (below_next HX1.out hb2); clear hb2)
    | (refine wpList_store_blk rfl 23 (.tmp 2) (.tmp 19) rfl x2.heap.size 0 rfl (bs P) rfl (Blk.new' x2 (bs (List.replicate 16 0)) _ 23 rfl) 16 Tryd.size44 HPB.out (by rw [bs_length, List.length_replicate]; omega) (bs_one _) ?_; intro x3 hst3; rw [List.take_zero, List.nil_append, List.drop_of_length_le (by rw [bs_length, List.length_replicate]; omega), List.append_nil] at hst3; have HX3 : Hid (Blk x3 x2.heap.size (bs P) 23 ∧ Below w.heap.size w x3) := Lib.hid ⟨hst3.1, hst3.below (al HX2.out _) HX2.out.size⟩; clear hst3)
    | ((with_reducible refine (HSG.out _ ?_).mono ?_); exact (HK.out.of HX3.out.2); rintro e x4 ⟨rfl, hb4⟩; have HX4 : Hid (Blk x4 x2.heap.size (bs P) 23 ∧ Below w.heap.size w x4) := Lib.hid ⟨HX3.out.1.below hb4 HX3.out.1.lt, below_next HX3.out.2 hb4⟩; clear hb4)
    | (refine wpList_load_blk rfl 23 (.tmp 2) rfl x2.heap.size 0 rfl HX4.out.1 _ Tryd.underlying23 rfl 16 Tryd.size44 (by rw [HPB.out]; omega) ?_; rw [List.drop_zero, List.take_of_length_le (by rw [HPB.out]; omega)])
    | ((with_reducible refine (HV1.out _ ?_).mono ?_); exact (HK.out.of HX4.out.2); rintro e x5 ⟨rfl, hb5⟩; have HX5 : Hid (Blk x5 x2.heap.size (bs P) 23 ∧ Below w.heap.size w x5) := Lib.hid ⟨HX4.out.1.below hb5 HX4.out.1.lt, below_next HX4.out.2 hb5⟩; clear hb5)
    | (refine wpList_load_blk rfl 23 (.tmp 2) rfl x2.heap.size 0 rfl HX5.out.1 _ Tryd.underlying23 rfl 16 Tryd.size44 (by rw [HPB.out]; omega) ?_; rw [List.drop_zero, List.take_of_length_le (by rw [HPB.out]; omega)])
    | ((with_reducible refine (HV2.out _ ?_).mono ?_); exact (HK.out.of HX5.out.2); rintro e x6 ⟨rfl, hb6⟩; have HX6 : Hid (Blk x6 x2.heap.size (bs P) 23 ∧ Below w.heap.size w x6) := Lib.hid ⟨HX5.out.1.below hb6 HX5.out.1.lt, below_next HX5.out.2 hb6⟩; clear hb6)
    | ((with_reducible refine (HSP.out _).mono ?_); rintro e x7 ⟨rfl, hb7⟩; have HX7 : Hid (Blk x7 x2.heap.size (bs P) 23 ∧ Below w.heap.size w x7) := Lib.hid ⟨HX6.out.1.below hb7 HX6.out.1.lt, below_next HX6.out.2 hb7⟩; clear hb7)
    | ((with_reducible refine (HSH.out _).mono ?_); rintro e x8 ⟨rfl, hb8⟩; have HX8 : Hid (Blk x8 x2.heap.size (bs P) 23 ∧ Below w.heap.size w x8) := Lib.hid ⟨HX7.out.1.below hb8 HX7.out.1.lt, below_next HX7.out.2 hb8⟩; clear hb8)
    | (refine wpList_store_blk rfl 23 (.tmp 12) (.tmp 47) rfl x8.heap.size 0 rfl (bs (List.replicate 16 0)) rfl (Blk.new' x8 (bs (List.replicate 16 0)) _ 23 rfl) 16 Tryd.size44 (by rw [bs_length, List.length_replicate]) (by rw [bs_length, List.length_replicate]; omega) (bs_one _) ?_; intro x9 hst9; have HX9 : Hid (Blk x9 x2.heap.size (bs P) 23 ∧ Below w.heap.size w x9) := Lib.hid ⟨hst9.other (HX8.out.1.alloc _) (by have := HX8.out.1.lt; omega), hst9.below (al HX8.out.2 _) HX8.out.2.size⟩; clear hst9)
    | (go_at_call 10; refine (HDI.out _).mono ?_; rintro e x10 ⟨bd, rfl, hbd, hge, hb10⟩; have HX10 : Hid (Blk x10 x2.heap.size (bs P) 23 ∧ Below w.heap.size w x10 ∧ Blk x10 bd (is D0) 43) := Lib.hid ⟨HX9.out.1.below hb10 HX9.out.1.lt, below_next HX9.out.2 hb10, hbd⟩; clear hb10 hge hbd))
  have HRG : Hid (∀ W, Below x10.heap.size x10 W → (W.rangeAt x2.heap.size 0 (bs P) ∧ W.cell? ⟨bd, 0, none⟩ = some (.int .i64 0) ∧ W.cell? ⟨bd, 64, none⟩ = some (.int .i64 3) ∧ W.cell? ⟨bd, 67, none⟩ = some (.int .i64 0))) := Lib.hid fun W h => ⟨blk_range (HX10.out.1.below h HX10.out.1.lt), (HX10.out.2.2.below h HX10.out.2.2.lt).cell HDC.out.1, (HX10.out.2.2.below h HX10.out.2.2.lt).cell HDC.out.2.1, (HX10.out.2.2.below h HX10.out.2.2.lt).cell HDC.out.2.2⟩
  have hun23 := Tryd.underlying23
  have hsz23 : (Tryd.prog.info? 23).map (·.size) = some (bs P).length := by rw [HPB.out]; exact Tryd.size44
  -- REGION
  refine wp_region_held_drew (S := fun w' => w'.rangeAt x2.heap.size 0 (bs P) ∧ w'.cell? ⟨bd, 0, none⟩ = some (.int .i64 0) ∧ w'.cell? ⟨bd, 64, none⟩ = some (.int .i64 3) ∧ w'.cell? ⟨bd, 67, none⟩ = some (.int .i64 0)) (by kernel_rfl) (HRG.out _ (Below.refl _ _).drew) (fun hS0 => ?_)
  refine wpAnyH_take (i := 0) (oi := { dst := some 66, op := Op.move (Operand.tmp 6), type := 3, pos := "law.go:32", after := #[], guard := none }) (v := ?_) rfl (by kernel_rfl) (by kernel_rfl) (by kernel_rfl) (fun _ _ _ h => h) (Or.inl ⟨by rfl, ?_⟩) (by assumption) ?_
  rotate_left
  · (intro w' hSw; (try dsimp only at hSw); obtain ⟨_, hc0, hc64, hc67⟩ := hSw; go_simp; try with_reducible rfl)
  try simp only [Act.put, List.setIfInBounds_toArray, List.set_cons_zero, List.set_cons_succ]
  refine wpAnyH_take (i := 1) (oi := { dst := some 67, op := Op.binOp BinOp.eql 3 (Operand.tmp 66) (Operand.const (Value.int IntKind.i64 1)) 3, type := 4, pos := "law.go:32", after := #[{ on := 0, ground := Ground.data }], guard := none }) (v := ?_) rfl (by kernel_rfl) (by kernel_rfl) (by kernel_rfl) (fun _ _ _ h => h) (Or.inl ⟨by rfl, ?_⟩) (by assumption) ?_
  rotate_left
  · (intro w' hSw; (try dsimp only at hSw); obtain ⟨_, hc0, hc64, hc67⟩ := hSw; go_simp; try with_reducible rfl)
  try simp only [Act.put, List.setIfInBounds_toArray, List.set_cons_zero, List.set_cons_succ]
  refine wpAnyH_take (i := 2) (oi := { dst := some 68, op := Op.move (Operand.tmp 67), type := 4, pos := "law.go:32", after := #[{ on := 1, ground := Ground.data }], guard := none }) (v := ?_) rfl (by kernel_rfl) (by kernel_rfl) (by kernel_rfl) (fun _ _ _ h => h) (Or.inl ⟨by rfl, ?_⟩) (by assumption) ?_
  rotate_left
  · (intro w' hSw; (try dsimp only at hSw); obtain ⟨_, hc0, hc64, hc67⟩ := hSw; go_simp; try with_reducible rfl)
  try simp only [Act.put, List.setIfInBounds_toArray, List.set_cons_zero, List.set_cons_succ]
  refine wpAnyH_take (i := 3) (oi := { dst := some 69, op := Op.move (Operand.tmp 9), type := 29, pos := "law.go:32", after := #[{ on := 2, ground := Ground.guard }], guard := some (2, true) }) (v := ?_) rfl (by kernel_rfl) (by kernel_rfl) (by kernel_rfl) (fun _ _ _ h => h) (Or.inl ⟨by rfl, ?_⟩) (by assumption) ?_
  rotate_left
  · (intro w' hSw; (try dsimp only at hSw); obtain ⟨_, hc0, hc64, hc67⟩ := hSw; go_simp; try with_reducible rfl)
  try simp only [Act.put, List.setIfInBounds_toArray, List.set_cons_zero, List.set_cons_succ]
  refine wpAnyH_take (i := 4) (oi := { dst := some 70, op := Op.binOp BinOp.eql 29 (Operand.tmp 69) (Operand.const (Value.int IntKind.i64 10)) 29, type := 4, pos := "law.go:32", after := #[{ on := 3, ground := Ground.data }, { on := 2, ground := Ground.guard }], guard := some (2, true) }) (v := ?_) rfl (by kernel_rfl) (by kernel_rfl) (by kernel_rfl) (fun _ _ _ h => h) (Or.inl ⟨by rfl, ?_⟩) (by assumption) ?_
  rotate_left
  · (intro w' hSw; (try dsimp only at hSw); obtain ⟨_, hc0, hc64, hc67⟩ := hSw; go_simp; try with_reducible rfl)
  try simp only [Act.put, List.setIfInBounds_toArray, List.set_cons_zero, List.set_cons_succ]
  refine wpAnyH_take (i := 5) (oi := { dst := some 71, op := Op.pick (Operand.tmp 68) (Operand.tmp 70) (Operand.const (Value.bool false)), type := 4, pos := "law.go:32", after := #[{ on := 2, ground := Ground.data }, { on := 4, ground := Ground.data }], guard := none }) (v := ?_) rfl (by kernel_rfl) (by kernel_rfl) (by kernel_rfl) (fun _ _ _ h => h) (Or.inl ⟨by rfl, ?_⟩) (by assumption) ?_
  rotate_left
  · (intro w' hSw; (try dsimp only at hSw); obtain ⟨_, hc0, hc64, hc67⟩ := hSw; go_simp; try with_reducible rfl)
  try simp only [Act.put, List.setIfInBounds_toArray, List.set_cons_zero, List.set_cons_succ]
  refine wpAnyH_take (i := 6) (oi := { dst := some 72, op := Op.move (Operand.tmp 71), type := 4, pos := "law.go:32", after := #[{ on := 5, ground := Ground.data }, { on := 2, ground := Ground.chain }], guard := none }) (v := ?_) rfl (by kernel_rfl) (by kernel_rfl) (by kernel_rfl) (fun _ _ _ h => h) (Or.inl ⟨by rfl, ?_⟩) (by assumption) ?_
  rotate_left
  · (intro w' hSw; (try dsimp only at hSw); obtain ⟨_, hc0, hc64, hc67⟩ := hSw; go_simp; try with_reducible rfl)
  try simp only [Act.put, List.setIfInBounds_toArray, List.set_cons_zero, List.set_cons_succ]
  refine wpAnyH_take (i := 7) (oi := { dst := some 73, op := Op.move (Operand.tmp 11), type := 29, pos := "law.go:32", after := #[{ on := 6, ground := Ground.guard }], guard := some (6, true) }) (v := ?_) rfl (by kernel_rfl) (by kernel_rfl) (by kernel_rfl) (fun _ _ _ h => h) (Or.inl ⟨by rfl, ?_⟩) (by assumption) ?_
  rotate_left
  · (intro w' hSw; (try dsimp only at hSw); obtain ⟨_, hc0, hc64, hc67⟩ := hSw; go_simp; try with_reducible rfl)
  try simp only [Act.put, List.setIfInBounds_toArray, List.set_cons_zero, List.set_cons_succ]
  refine wpAnyH_take (i := 8) (oi := { dst := some 74, op := Op.binOp BinOp.eql 29 (Operand.tmp 73) (Operand.const (Value.int IntKind.i64 23)) 29, type := 4, pos := "law.go:32", after := #[{ on := 7, ground := Ground.data }, { on := 6, ground := Ground.guard }], guard := some (6, true) }) (v := ?_) rfl (by kernel_rfl) (by kernel_rfl) (by kernel_rfl) (fun _ _ _ h => h) (Or.inl ⟨by rfl, ?_⟩) (by assumption) ?_
  rotate_left
  · (intro w' hSw; (try dsimp only at hSw); obtain ⟨_, hc0, hc64, hc67⟩ := hSw; go_simp; try with_reducible rfl)
  try simp only [Act.put, List.setIfInBounds_toArray, List.set_cons_zero, List.set_cons_succ]
  refine wpAnyH_take (i := 9) (oi := { dst := some 75, op := Op.pick (Operand.tmp 72) (Operand.tmp 74) (Operand.const (Value.bool false)), type := 4, pos := "law.go:32", after := #[{ on := 6, ground := Ground.data }, { on := 8, ground := Ground.data }], guard := none }) (v := ?_) rfl (by kernel_rfl) (by kernel_rfl) (by kernel_rfl) (fun _ _ _ h => h) (Or.inl ⟨by rfl, ?_⟩) (by assumption) ?_
  rotate_left
  · (intro w' hSw; (try dsimp only at hSw); obtain ⟨_, hc0, hc64, hc67⟩ := hSw; go_simp; try with_reducible rfl)
  try simp only [Act.put, List.setIfInBounds_toArray, List.set_cons_zero, List.set_cons_succ]
  refine wpAnyH_take (i := 10) (oi := { dst := some 76, op := Op.move (Operand.tmp 75), type := 4, pos := "law.go:32", after := #[{ on := 9, ground := Ground.data }, { on := 6, ground := Ground.chain }], guard := none }) (v := ?_) rfl (by kernel_rfl) (by kernel_rfl) (by kernel_rfl) (fun _ _ _ h => h) (Or.inl ⟨by rfl, ?_⟩) (by assumption) ?_
  rotate_left
  · (intro w' hSw; (try dsimp only at hSw); obtain ⟨_, hc0, hc64, hc67⟩ := hSw; go_simp; try with_reducible rfl)
  try simp only [Act.put, List.setIfInBounds_toArray, List.set_cons_zero, List.set_cons_succ]
  refine wpAnyH_take (i := 11) (oi := { dst := some 77, op := Op.move (Operand.tmp 13), type := 29, pos := "law.go:32", after := #[{ on := 10, ground := Ground.guard }], guard := some (10, true) }) (v := ?_) rfl (by kernel_rfl) (by kernel_rfl) (by kernel_rfl) (fun _ _ _ h => h) (Or.inl ⟨by rfl, ?_⟩) (by assumption) ?_
  rotate_left
  · (intro w' hSw; (try dsimp only at hSw); obtain ⟨_, hc0, hc64, hc67⟩ := hSw; go_simp; try with_reducible rfl)
  try simp only [Act.put, List.setIfInBounds_toArray, List.set_cons_zero, List.set_cons_succ]
  refine wpAnyH_take (i := 12) (oi := { dst := some 78, op := Op.binOp BinOp.eql 29 (Operand.tmp 77) (Operand.const (Value.int IntKind.i64 1)) 29, type := 4, pos := "law.go:32", after := #[{ on := 11, ground := Ground.data }, { on := 10, ground := Ground.guard }], guard := some (10, true) }) (v := ?_) rfl (by kernel_rfl) (by kernel_rfl) (by kernel_rfl) (fun _ _ _ h => h) (Or.inl ⟨by rfl, ?_⟩) (by assumption) ?_
  rotate_left
  · (intro w' hSw; (try dsimp only at hSw); obtain ⟨_, hc0, hc64, hc67⟩ := hSw; go_simp; try with_reducible rfl)
  try simp only [Act.put, List.setIfInBounds_toArray, List.set_cons_zero, List.set_cons_succ]
  refine wpAnyH_take (i := 13) (oi := { dst := some 79, op := Op.pick (Operand.tmp 76) (Operand.tmp 78) (Operand.const (Value.bool false)), type := 4, pos := "law.go:32", after := #[{ on := 10, ground := Ground.data }, { on := 12, ground := Ground.data }], guard := none }) (v := ?_) rfl (by kernel_rfl) (by kernel_rfl) (by kernel_rfl) (fun _ _ _ h => h) (Or.inl ⟨by rfl, ?_⟩) (by assumption) ?_
  rotate_left
  · (intro w' hSw; (try dsimp only at hSw); obtain ⟨_, hc0, hc64, hc67⟩ := hSw; go_simp; try with_reducible rfl)
  try simp only [Act.put, List.setIfInBounds_toArray, List.set_cons_zero, List.set_cons_succ]
  refine wpAnyH_take (i := 14) (oi := { dst := some 80, op := Op.move (Operand.tmp 79), type := 4, pos := "law.go:32", after := #[{ on := 13, ground := Ground.data }, { on := 10, ground := Ground.chain }], guard := none }) (v := ?_) rfl (by kernel_rfl) (by kernel_rfl) (by kernel_rfl) (fun _ _ _ h => h) (Or.inl ⟨by rfl, ?_⟩) (by assumption) ?_
  rotate_left
  · (intro w' hSw; (try dsimp only at hSw); obtain ⟨_, hc0, hc64, hc67⟩ := hSw; go_simp; try with_reducible rfl)
  try simp only [Act.put, List.setIfInBounds_toArray, List.set_cons_zero, List.set_cons_succ]
  refine wpAnyH_take (i := 15) (oi := { dst := some 81, op := Op.move (Operand.tmp 14), type := 25, pos := "law.go:32", after := #[{ on := 14, ground := Ground.guard }], guard := some (14, true) }) (v := ?_) rfl (by kernel_rfl) (by kernel_rfl) (by kernel_rfl) (fun _ _ _ h => h) (Or.inl ⟨by rfl, ?_⟩) (by assumption) ?_
  rotate_left
  · (intro w' hSw; (try dsimp only at hSw); obtain ⟨_, hc0, hc64, hc67⟩ := hSw; go_simp; try with_reducible rfl)
  try simp only [Act.put, List.setIfInBounds_toArray, List.set_cons_zero, List.set_cons_succ]
  refine wpAnyH_take (i := 16) (oi := { dst := some 82, op := Op.indexAddr 25 (Operand.tmp 81) (Operand.const (Value.int IntKind.i64 0)), type := 0, pos := "law.go:32", after := #[{ on := 15, ground := Ground.data }, { on := 14, ground := Ground.guard }], guard := some (14, true) }) (v := ?_) rfl (by kernel_rfl) (by kernel_rfl) (by kernel_rfl) (fun _ _ _ h => h) (Or.inl ⟨by rfl, ?_⟩) (by assumption) ?_
  rotate_left
  · (intro w' hSw; (try dsimp only at hSw); obtain ⟨_, hc0, hc64, hc67⟩ := hSw; go_simp; try with_reducible rfl)
  try simp only [Act.put, List.setIfInBounds_toArray, List.set_cons_zero, List.set_cons_succ]
  refine wpAnyH_take (i := 17) (oi := { dst := some 83, op := Op.load 3 (Operand.tmp 82), type := 3, pos := "law.go:32", after := #[{ on := 16, ground := Ground.data }, { on := 14, ground := Ground.guard }], guard := some (14, true) }) (v := ?_) rfl (by kernel_rfl) (by kernel_rfl) (by kernel_rfl) (fun _ _ _ h => h) (Or.inl ⟨by rfl, ?_⟩) (by assumption) ?_
  rotate_left
  · (intro w' hSw; (try dsimp only at hSw); obtain ⟨_, hc0, hc64, hc67⟩ := hSw; go_simp; try with_reducible rfl)
  try simp only [Act.put, List.setIfInBounds_toArray, List.set_cons_zero, List.set_cons_succ]
  refine wpAnyH_take (i := 18) (oi := { dst := some 84, op := Op.binOp BinOp.eql 3 (Operand.tmp 83) (Operand.const (Value.int IntKind.i64 0)) 3, type := 4, pos := "law.go:32", after := #[{ on := 17, ground := Ground.data }, { on := 14, ground := Ground.guard }], guard := some (14, true) }) (v := ?_) rfl (by kernel_rfl) (by kernel_rfl) (by kernel_rfl) (fun _ _ _ h => h) (Or.inl ⟨by rfl, ?_⟩) (by assumption) ?_
  rotate_left
  · (intro w' hSw; (try dsimp only at hSw); obtain ⟨_, hc0, hc64, hc67⟩ := hSw; go_simp; try with_reducible rfl)
  try simp only [Act.put, List.setIfInBounds_toArray, List.set_cons_zero, List.set_cons_succ]
  refine wpAnyH_take (i := 19) (oi := { dst := some 85, op := Op.pick (Operand.tmp 80) (Operand.tmp 84) (Operand.const (Value.bool false)), type := 4, pos := "law.go:32", after := #[{ on := 14, ground := Ground.data }, { on := 18, ground := Ground.data }], guard := none }) (v := ?_) rfl (by kernel_rfl) (by kernel_rfl) (by kernel_rfl) (fun _ _ _ h => h) (Or.inl ⟨by rfl, ?_⟩) (by assumption) ?_
  rotate_left
  · (intro w' hSw; (try dsimp only at hSw); obtain ⟨_, hc0, hc64, hc67⟩ := hSw; go_simp; try with_reducible rfl)
  try simp only [Act.put, List.setIfInBounds_toArray, List.set_cons_zero, List.set_cons_succ]
  refine wpAnyH_take (i := 20) (oi := { dst := some 86, op := Op.move (Operand.tmp 85), type := 4, pos := "law.go:32", after := #[{ on := 19, ground := Ground.data }, { on := 14, ground := Ground.chain }], guard := none }) (v := ?_) rfl (by kernel_rfl) (by kernel_rfl) (by kernel_rfl) (fun _ _ _ h => h) (Or.inl ⟨by rfl, ?_⟩) (by assumption) ?_
  rotate_left
  · (intro w' hSw; (try dsimp only at hSw); obtain ⟨_, hc0, hc64, hc67⟩ := hSw; go_simp; try with_reducible rfl)
  try simp only [Act.put, List.setIfInBounds_toArray, List.set_cons_zero, List.set_cons_succ]
  refine wpAnyH_take (i := 21) (oi := { dst := some 87, op := Op.move (Operand.tmp 14), type := 25, pos := "law.go:32", after := #[{ on := 20, ground := Ground.guard }], guard := some (20, true) }) (v := ?_) rfl (by kernel_rfl) (by kernel_rfl) (by kernel_rfl) (fun _ _ _ h => h) (Or.inl ⟨by rfl, ?_⟩) (by assumption) ?_
  rotate_left
  · (intro w' hSw; (try dsimp only at hSw); obtain ⟨_, hc0, hc64, hc67⟩ := hSw; go_simp; try with_reducible rfl)
  try simp only [Act.put, List.setIfInBounds_toArray, List.set_cons_zero, List.set_cons_succ]
  refine wpAnyH_take (i := 22) (oi := { dst := some 88, op := Op.indexAddr 25 (Operand.tmp 87) (Operand.const (Value.int IntKind.i64 64)), type := 0, pos := "law.go:32", after := #[{ on := 21, ground := Ground.data }, { on := 20, ground := Ground.guard }], guard := some (20, true) }) (v := ?_) rfl (by kernel_rfl) (by kernel_rfl) (by kernel_rfl) (fun _ _ _ h => h) (Or.inl ⟨by rfl, ?_⟩) (by assumption) ?_
  rotate_left
  · (intro w' hSw; (try dsimp only at hSw); obtain ⟨_, hc0, hc64, hc67⟩ := hSw; go_simp; try with_reducible rfl)
  try simp only [Act.put, List.setIfInBounds_toArray, List.set_cons_zero, List.set_cons_succ]
  refine wpAnyH_take (i := 23) (oi := { dst := some 89, op := Op.load 3 (Operand.tmp 88), type := 3, pos := "law.go:32", after := #[{ on := 22, ground := Ground.data }, { on := 20, ground := Ground.guard }], guard := some (20, true) }) (v := ?_) rfl (by kernel_rfl) (by kernel_rfl) (by kernel_rfl) (fun _ _ _ h => h) (Or.inl ⟨by rfl, ?_⟩) (by assumption) ?_
  rotate_left
  · (intro w' hSw; (try dsimp only at hSw); obtain ⟨_, hc0, hc64, hc67⟩ := hSw; go_simp; try with_reducible rfl)
  try simp only [Act.put, List.setIfInBounds_toArray, List.set_cons_zero, List.set_cons_succ]
  refine wpAnyH_take (i := 24) (oi := { dst := some 90, op := Op.binOp BinOp.eql 3 (Operand.tmp 89) (Operand.const (Value.int IntKind.i64 3)) 3, type := 4, pos := "law.go:32", after := #[{ on := 23, ground := Ground.data }, { on := 20, ground := Ground.guard }], guard := some (20, true) }) (v := ?_) rfl (by kernel_rfl) (by kernel_rfl) (by kernel_rfl) (fun _ _ _ h => h) (Or.inl ⟨by rfl, ?_⟩) (by assumption) ?_
  rotate_left
  · (intro w' hSw; (try dsimp only at hSw); obtain ⟨_, hc0, hc64, hc67⟩ := hSw; go_simp; try with_reducible rfl)
  try simp only [Act.put, List.setIfInBounds_toArray, List.set_cons_zero, List.set_cons_succ]
  refine wpAnyH_take (i := 25) (oi := { dst := some 91, op := Op.pick (Operand.tmp 86) (Operand.tmp 90) (Operand.const (Value.bool false)), type := 4, pos := "law.go:32", after := #[{ on := 20, ground := Ground.data }, { on := 24, ground := Ground.data }], guard := none }) (v := ?_) rfl (by kernel_rfl) (by kernel_rfl) (by kernel_rfl) (fun _ _ _ h => h) (Or.inl ⟨by rfl, ?_⟩) (by assumption) ?_
  rotate_left
  · (intro w' hSw; (try dsimp only at hSw); obtain ⟨_, hc0, hc64, hc67⟩ := hSw; go_simp; try with_reducible rfl)
  try simp only [Act.put, List.setIfInBounds_toArray, List.set_cons_zero, List.set_cons_succ]
  refine wpAnyH_take (i := 26) (oi := { dst := some 92, op := Op.move (Operand.tmp 91), type := 4, pos := "law.go:32", after := #[{ on := 25, ground := Ground.data }, { on := 20, ground := Ground.chain }], guard := none }) (v := ?_) rfl (by kernel_rfl) (by kernel_rfl) (by kernel_rfl) (fun _ _ _ h => h) (Or.inl ⟨by rfl, ?_⟩) (by assumption) ?_
  rotate_left
  · (intro w' hSw; (try dsimp only at hSw); obtain ⟨_, hc0, hc64, hc67⟩ := hSw; go_simp; try with_reducible rfl)
  try simp only [Act.put, List.setIfInBounds_toArray, List.set_cons_zero, List.set_cons_succ]
  refine wpAnyH_take (i := 27) (oi := { dst := some 93, op := Op.move (Operand.tmp 14), type := 25, pos := "law.go:32", after := #[{ on := 26, ground := Ground.guard }], guard := some (26, true) }) (v := ?_) rfl (by kernel_rfl) (by kernel_rfl) (by kernel_rfl) (fun _ _ _ h => h) (Or.inl ⟨by rfl, ?_⟩) (by assumption) ?_
  rotate_left
  · (intro w' hSw; (try dsimp only at hSw); obtain ⟨_, hc0, hc64, hc67⟩ := hSw; go_simp; try with_reducible rfl)
  try simp only [Act.put, List.setIfInBounds_toArray, List.set_cons_zero, List.set_cons_succ]
  refine wpAnyH_take (i := 28) (oi := { dst := some 94, op := Op.indexAddr 25 (Operand.tmp 93) (Operand.const (Value.int IntKind.i64 67)), type := 0, pos := "law.go:32", after := #[{ on := 27, ground := Ground.data }, { on := 26, ground := Ground.guard }], guard := some (26, true) }) (v := ?_) rfl (by kernel_rfl) (by kernel_rfl) (by kernel_rfl) (fun _ _ _ h => h) (Or.inl ⟨by rfl, ?_⟩) (by assumption) ?_
  rotate_left
  · (intro w' hSw; (try dsimp only at hSw); obtain ⟨_, hc0, hc64, hc67⟩ := hSw; go_simp; try with_reducible rfl)
  try simp only [Act.put, List.setIfInBounds_toArray, List.set_cons_zero, List.set_cons_succ]
  refine wpAnyH_take (i := 29) (oi := { dst := some 95, op := Op.load 3 (Operand.tmp 94), type := 3, pos := "law.go:32", after := #[{ on := 28, ground := Ground.data }, { on := 26, ground := Ground.guard }], guard := some (26, true) }) (v := ?_) rfl (by kernel_rfl) (by kernel_rfl) (by kernel_rfl) (fun _ _ _ h => h) (Or.inl ⟨by rfl, ?_⟩) (by assumption) ?_
  rotate_left
  · (intro w' hSw; (try dsimp only at hSw); obtain ⟨_, hc0, hc64, hc67⟩ := hSw; go_simp; try with_reducible rfl)
  try simp only [Act.put, List.setIfInBounds_toArray, List.set_cons_zero, List.set_cons_succ]
  refine wpAnyH_take (i := 30) (oi := { dst := some 96, op := Op.binOp BinOp.eql 3 (Operand.tmp 95) (Operand.const (Value.int IntKind.i64 0)) 3, type := 4, pos := "law.go:32", after := #[{ on := 29, ground := Ground.data }, { on := 26, ground := Ground.guard }], guard := some (26, true) }) (v := ?_) rfl (by kernel_rfl) (by kernel_rfl) (by kernel_rfl) (fun _ _ _ h => h) (Or.inl ⟨by rfl, ?_⟩) (by assumption) ?_
  rotate_left
  · (intro w' hSw; (try dsimp only at hSw); obtain ⟨_, hc0, hc64, hc67⟩ := hSw; go_simp; try with_reducible rfl)
  try simp only [Act.put, List.setIfInBounds_toArray, List.set_cons_zero, List.set_cons_succ]
  refine wpAnyH_take (i := 31) (oi := { dst := some 97, op := Op.pick (Operand.tmp 92) (Operand.tmp 96) (Operand.const (Value.bool false)), type := 4, pos := "law.go:32", after := #[{ on := 26, ground := Ground.data }, { on := 30, ground := Ground.data }], guard := none }) (v := ?_) rfl (by kernel_rfl) (by kernel_rfl) (by kernel_rfl) (fun _ _ _ h => h) (Or.inl ⟨by rfl, ?_⟩) (by assumption) ?_
  rotate_left
  · (intro w' hSw; (try dsimp only at hSw); obtain ⟨_, hc0, hc64, hc67⟩ := hSw; go_simp; try with_reducible rfl)
  try simp only [Act.put, List.setIfInBounds_toArray, List.set_cons_zero, List.set_cons_succ]
  refine wpAnyH_take (i := 32) (oi := { dst := some 98, op := Op.move (Operand.tmp 97), type := 4, pos := "law.go:32", after := #[{ on := 31, ground := Ground.data }, { on := 26, ground := Ground.chain }], guard := none }) (v := ?_) rfl (by kernel_rfl) (by kernel_rfl) (by kernel_rfl) (fun _ _ _ h => h) (Or.inl ⟨by rfl, ?_⟩) (by assumption) ?_
  rotate_left
  · (intro w' hSw; (try dsimp only at hSw); obtain ⟨_, hc0, hc64, hc67⟩ := hSw; go_simp; try with_reducible rfl)
  try simp only [Act.put, List.setIfInBounds_toArray, List.set_cons_zero, List.set_cons_succ]
  refine wpAnyH_take (i := 33) (oi := { dst := some 99, op := Op.load 23 (Operand.tmp 2), type := 23, pos := "law.go:32", after := #[{ on := 32, ground := Ground.guard }], guard := some (32, true) }) (v := _) rfl (by kernel_rfl) (by kernel_rfl) (by kernel_rfl) (fun _ _ _ h => h) (yieldsIf_load_mid (by rfl) _ _ rfl _ _ rfl _ _ (fun w h => h.1) hun23 rfl hsz23) (by assumption) ?_
  try simp only [Act.put, List.setIfInBounds_toArray, List.set_cons_zero, List.set_cons_succ]
  refine wpAnyH_take (i := 35) (oi := { dst := some 101, op := Op.load 23 (Operand.tmp 2), type := 23, pos := "law.go:32", after := #[{ on := 32, ground := Ground.guard }], guard := some (32, true) }) (v := _) rfl (by kernel_rfl) (by kernel_rfl) (by kernel_rfl) (fun _ _ _ h => h) (yieldsIf_load_mid (by rfl) _ _ rfl _ _ rfl _ _ (fun w h => h.1) hun23 rfl hsz23) (by assumption) ?_
  try simp only [Act.put, List.setIfInBounds_toArray, List.set_cons_zero, List.set_cons_succ]
  refine wpAnyH_ready (rs := [34]) (by kernel_rfl) (by simp) ?_
  refine AllReadyH.cons (o := { dst := some 100, op := Op.call { callee := Callee.value (Operand.func 16), args := #[Operand.tmp 99, Operand.const (Value.int IntKind.i64 1), Operand.const (Value.string { data := #[109] })], argTypes := #[23, 3, 9] }, type := 23, pos := "law.go:32", after := #[{ on := 33, ground := Ground.data }, { on := 32, ground := Ground.chain }, { on := 32, ground := Ground.guard }], guard := some (32, true) }) rfl (fun K hK => ?_) AllReadyH.nil
  go_simp
  go_at_call 16
  refine (HD1.out _ (HK.out.of HX10.out.2.1.drew)).mono ?_
  rintro e y1 ⟨rfl, hb1⟩
  have HY1 : Hid (Below w.heap.size w y1 ∧ Below x10.heap.size x10 y1) := Lib.hid ⟨below_next HX10.out.2.1.drew hb1, below_next (w := x10.drew) (Below.refl _ _).drew hb1⟩
  clear hb1
  refine hK _ _ (HRG.out _ HY1.out.2) (fun hS1 => ?_)
  clear hK K hS0
  try simp only [Act.put, List.setIfInBounds_toArray, List.set_cons_zero, List.set_cons_succ]
  refine wpAnyH_ready (rs := [36]) (by kernel_rfl) (by simp) ?_
  refine AllReadyH.cons (o := { dst := some 102, op := Op.call { callee := Callee.value (Operand.func 16), args := #[Operand.tmp 101, Operand.const (Value.int IntKind.i64 0), Operand.const (Value.string { data := #[109] })], argTypes := #[23, 3, 9] }, type := 23, pos := "law.go:32", after := #[{ on := 35, ground := Ground.data }, { on := 34, ground := Ground.chain }, { on := 32, ground := Ground.guard }], guard := some (32, true) }) rfl (fun K hK => ?_) AllReadyH.nil
  go_simp
  go_at_call 16
  refine (HD2.out _ (HK.out.of HY1.out.1)).mono ?_
  rintro e y2 ⟨rfl, hb2⟩
  have HY2 : Hid (Below w.heap.size w y2 ∧ Below x10.heap.size x10 y2) := Lib.hid ⟨below_next HY1.out.1 hb2, below_next HY1.out.2 hb2⟩
  clear hb2
  refine hK _ _ (HRG.out _ HY2.out.2) (fun hS2 => ?_)
  clear hK K hS1
  try simp only [Act.put, List.setIfInBounds_toArray, List.set_cons_zero, List.set_cons_succ]
  have heq := HEQ.out
  refine wpAnyH_take (i := 37) (oi := { dst := some 103, op := Op.binOp BinOp.neq 23 (Operand.tmp 100) (Operand.tmp 102) 23, type := 4, pos := "law.go:32", after := #[{ on := 34, ground := Ground.data }, { on := 36, ground := Ground.data }, { on := 32, ground := Ground.guard }], guard := some (32, true) }) (v := ?_) rfl (by kernel_rfl) (by kernel_rfl) (by kernel_rfl) (fun _ _ _ h => h) (Or.inl ⟨by rfl, ?_⟩) (by assumption) ?_
  rotate_left
  · (intro w' hSw; (try dsimp only at hSw); obtain ⟨_, hc0, hc64, hc67⟩ := hSw; go_simp; try with_reducible rfl)
  try simp only [Act.put, List.setIfInBounds_toArray, List.set_cons_zero, List.set_cons_succ]
  refine wpAnyH_take (i := 38) (oi := { dst := some 104, op := Op.pick (Operand.tmp 98) (Operand.tmp 103) (Operand.const (Value.bool false)), type := 4, pos := "law.go:32", after := #[{ on := 32, ground := Ground.data }, { on := 37, ground := Ground.data }], guard := none }) (v := ?_) rfl (by kernel_rfl) (by kernel_rfl) (by kernel_rfl) (fun _ _ _ h => h) (Or.inl ⟨by rfl, ?_⟩) (by assumption) ?_
  rotate_left
  · (intro w' hSw; (try dsimp only at hSw); obtain ⟨_, hc0, hc64, hc67⟩ := hSw; go_simp; try with_reducible rfl)
  try simp only [Act.put, List.setIfInBounds_toArray, List.set_cons_zero, List.set_cons_succ]
  refine wpAnyH_take (i := 39) (oi := { dst := some 0, op := Op.assign (Operand.tmp 104), type := 4, pos := "law.go:32", after := #[{ on := 38, ground := Ground.data }, { on := 36, ground := Ground.chain }, { on := 0, ground := Ground.phase }, { on := 1, ground := Ground.phase }, { on := 2, ground := Ground.phase }, { on := 3, ground := Ground.phase }, { on := 4, ground := Ground.phase }, { on := 5, ground := Ground.phase }, { on := 6, ground := Ground.phase }, { on := 7, ground := Ground.phase }, { on := 8, ground := Ground.phase }, { on := 9, ground := Ground.phase }, { on := 10, ground := Ground.phase }, { on := 11, ground := Ground.phase }, { on := 12, ground := Ground.phase }, { on := 13, ground := Ground.phase }, { on := 14, ground := Ground.phase }, { on := 15, ground := Ground.phase }, { on := 16, ground := Ground.phase }, { on := 17, ground := Ground.phase }, { on := 18, ground := Ground.phase }, { on := 19, ground := Ground.phase }, { on := 20, ground := Ground.phase }, { on := 21, ground := Ground.phase }, { on := 22, ground := Ground.phase }, { on := 23, ground := Ground.phase }, { on := 24, ground := Ground.phase }, { on := 25, ground := Ground.phase }, { on := 26, ground := Ground.phase }, { on := 27, ground := Ground.phase }, { on := 28, ground := Ground.phase }, { on := 29, ground := Ground.phase }, { on := 30, ground := Ground.phase }, { on := 31, ground := Ground.phase }, { on := 32, ground := Ground.phase }, { on := 33, ground := Ground.phase }, { on := 34, ground := Ground.phase }, { on := 35, ground := Ground.phase }, { on := 36, ground := Ground.phase }, { on := 37, ground := Ground.phase }, { on := 38, ground := Ground.phase }], guard := none }) (v := ?_) rfl (by kernel_rfl) (by kernel_rfl) (by kernel_rfl) (fun _ _ _ h => h) (Or.inl ⟨by rfl, ?_⟩) (by assumption) ?_
  rotate_left
  · (intro w' hSw; (try dsimp only at hSw); obtain ⟨_, hc0, hc64, hc67⟩ := hSw; go_simp; try with_reducible rfl)
  try simp only [Act.put, List.setIfInBounds_toArray, List.set_cons_zero, List.set_cons_succ]
  refine wpAnyH_done (by kernel_rfl) ?_ _
  go_wp2_with fail
  go_ret
  exact ⟨rfl, HY2.out.1⟩
theorem sanity_any (w : World) (hK : KH w) : Calls Tryd.prog 9 #[] w (San w) := sanity_aux _ _ _ _ _ _ rfl rfl rfl rfl rfl rfl w hK
end Go.Proofs.YtbgcnfikcddcpaaDoor
