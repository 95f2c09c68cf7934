/-
  The walk of sign's Sign.
-/
import Derived.Test.YtbgcnfikcddcpaaDoorSParts
namespace Go.Proofs.YtbgcnfikcddcpaaDoor
open Go.RowKit
set_option linter.unusedVariables false
open Sha Sgn
/-- The slice whose address is A reads as xs, and lies below block b. -/
def RdU (w : World) (b : Nat) (A : Option Addr) (xs : List Value) : Prop := xs = [] ∨ ∃ g o, A = some ⟨g, o, none⟩ ∧ g < b ∧ ∀ k v, xs[k]? = some v → w.cell? ⟨g, o + k, none⟩ = some v
theorem RdU.of {w : World} {b : Nat} {A : Option Addr} {xs : List Value} (h : Rd w A xs) (hb : w.heap.size ≤ b) : RdU w b A xs := by
  rcases h with h | ⟨g, o, hA, hc⟩
  · exact .inl h
  · by_cases hx : xs = []
    · exact .inl hx
    · obtain ⟨x, r, rfl⟩ : ∃ x r, xs = x :: r := by cases xs with
        | nil => exact absurd rfl hx
        | cons x r => exact ⟨x, r, rfl⟩
      exact .inr ⟨g, o, hA, Nat.lt_of_lt_of_le (World.block_lt_of_cell? w _ (hc 0 x rfl)) hb, hc⟩
theorem RdU.rd {w : World} {b : Nat} {A : Option Addr} {xs : List Value} (h : RdU w b A xs) : Rd w A xs := by
  rcases h with h | ⟨g, o, hA, _, hc⟩
  · exact .inl h
  · exact .inr ⟨g, o, hA, hc⟩
theorem RdU.below {w w' : World} {b : Nat} {A : Option Addr} {xs : List Value} (h : RdU w b A xs) (hb : Below b w w') : RdU w' b A xs := by
  rcases h with h | ⟨g, o, hA, hg, hc⟩
  · exact .inl h
  · exact .inr ⟨g, o, hA, hg, fun k v hv => (hb.cell (p := ⟨g, o + k, none⟩) hg).trans (hc k v hv)⟩
def retS2 (l : List UInt8) (er : Int) : Ending := .returned (.tuple #[.string (sb l), .int .i64 er])
set_option maxRecDepth 100000 in
set_option maxHeartbeats 1000000 in
theorem sign_arg (s m : List UInt8) (h i : Int) (hh : s.length ≠ 32 ∨ h < 0 ∨ 6 < h) (w : World) :
    Calls Tryd.prog 14 #[.string (sb s), .int .i64 h, .int .i64 i, .string (sb m)] w fun e w' => e = retS2 [] 1 ∧ Below w.heap.size w w' := by
  have hb0 := Below.refl w.heap.size w
  go_enter Tryd.func14, Tryd.ntmps14
  go_wp2_with ((with_reducible refine (vs_no s h hh _).mono ?_); rintro e w' ⟨rfl, rfl⟩)
  go_ret2
  exact ⟨rfl, hb0⟩
set_option maxRecDepth 100000 in
set_option maxHeartbeats 1000000 in
theorem sign_spent (s m : List UInt8) (h : Nat) (H i : Int) (hH : H = (h : Int)) (hs : s.length = 32) (h6 : h ≤ 6) (hi : i < 0 ∨ ((2 ^ h : Nat) : Int) ≤ i) (w : World) :
    Calls Tryd.prog 14 #[.string (sb s), .int .i64 H, .int .i64 i, .string (sb m)] w fun e w' => e = retS2 [] 23 ∧ Below w.heap.size w w' := by
  have hb0 := Below.refl w.heap.size w
  have HS := Lib.hid (fun W => vs_yes s H hs (by omega) (by omega) W)
  have HI := Lib.hid (fun W => vi_no i h H hH h6 hi W)
  clear hs h6 hi hH
  go_enter Tryd.func14, Tryd.ntmps14
  go_wp2_with (first
    | ((with_reducible refine (HS.out _).mono ?_); rintro e w' ⟨rfl, rfl⟩)
    | ((with_reducible refine (HI.out _).mono ?_); rintro e w' ⟨rfl, rfl⟩))
  go_ret2
  exact ⟨rfl, hb0⟩
set_option maxRecDepth 100000 in
set_option maxHeartbeats 1000000 in
theorem sign_limit (s m : List UInt8) (h : Nat) (H i : Int) (hH : H = (h : Int)) (hs : s.length = 32) (h6 : h ≤ 6) (i0 : 0 ≤ i) (hi : i < ((2 ^ h : Nat) : Int)) (hm : 1048576 < m.length) (w : World) :
    Calls Tryd.prog 14 #[.string (sb s), .int .i64 H, .int .i64 i, .string (sb m)] w fun e w' => e = retS2 [] 4 ∧ Below w.heap.size w w' := by
  have hb0 := Below.refl w.heap.size w
  have hsz := sb_size m
  have hd : decide ((1048576 : Int) < (m.length : Int)) = true := by simp; omega
  have HS := Lib.hid (fun W => vs_yes s H hs (by omega) (by omega) W)
  have HI := Lib.hid (fun W => vi_yes i h H hH h6 i0 hi W)
  clear hs h6 hi hH i0
  go_enter Tryd.func14, Tryd.ntmps14
  go_wp2_with (first
    | ((with_reducible refine (HS.out _).mono ?_); rintro e w' ⟨rfl, rfl⟩)
    | ((with_reducible refine (HI.out _).mono ?_); rintro e w' ⟨rfl, rfl⟩))
  go_ret2
  exact ⟨rfl, hb0⟩

theorem own_rd3 {w : World} {base : Nat} {e : TypeId} {v : Value} {l : List UInt8} (h : w.ownsRow base e 1 v l.length (bs l)) : ∃ A c, v = .slice A l.length c ∧ Rd w A (bs l) ∧ (A = none → l = []) ∧ ∀ a, A = some a → base ≤ a.block := by
  obtain ⟨A, c, hv, hrd, _, _⟩ := Rd.of_own h
  refine ⟨A, c, hv, hrd, fun hA => ?_, fun a hA => ?_⟩
  · rcases h.2 with ⟨h1, h2⟩ | ⟨g, cap, cur, h1, _⟩
    · exact List.eq_nil_of_length_eq_zero h2
    · rw [hv, hA] at h1
      simp at h1
  · rcases h.2 with ⟨h1, h2⟩ | ⟨g, cap, cur, h1, hb, _⟩
    · rw [hv, hA] at h1
      simp at h1
    · rw [hv, hA] at h1
      simp only [Value.slice.injEq, Option.some.injEq] at h1
      rw [h1.1]
      exact hb
theorem ix43 (D : List Nat) (hD : D.length = 68) (k : Nat) (hk : k < 68) (w : World) : (Instr.index 43 (.agg (is D).toArray) (.int .i64 (k : Int))).run Tryd.prog w = .ok (.int .i64 (D.getD k 0 : Nat)) w :=
  index_val Tryd.underlying43 Tryd.size3 (fun w => by kernel_rfl) _ .i64 k hk _ (by have := is_get D k (by omega); simpa using this) w
/-- What Sign has laid before its builder, at the world W1 in which the builder b is new. -/
def SX (w : World) (V : List (List UInt8)) (P : List UInt8) (A : Option Addr) (O : List Value) (b g1 g2 : Nat) (W : World) : Prop :=
  Blk W g1 (ss V) 52 ∧ Blk W g2 (bs P) 23 ∧ RdU W b A O ∧ g1 < b ∧ g2 < b ∧ w.heap.size ≤ b ∧ Below w.heap.size w W
section
variable {w W W' : World} {V : List (List UInt8)} {P : List UInt8} {A : Option Addr} {O : List Value} {b g1 g2 : Nat}
theorem SX.next (h : SX w V P A O b g1 g2 W) (hb : Below b W W') : SX w V P A O b g1 g2 W' :=
  ⟨h.1.below hb h.2.2.2.1, h.2.1.below hb h.2.2.2.2.1, h.2.2.1.below hb, h.2.2.2.1, h.2.2.2.2.1, h.2.2.2.2.2.1, h.2.2.2.2.2.2.trans (hb.mono h.2.2.2.2.2.1)⟩
theorem SX.kh (h : SX w V P A O b g1 g2 W) (hK : KH w) : KH W := hK.of h.2.2.2.2.2.2
end
set_option maxRecDepth 100000 in
set_option maxHeartbeats 4000000 in
theorem sign_ok (s m G P E : List UInt8) (V O : List (List UInt8)) (D : List Nat) (h i : Nat) (H I : Int) (hH : H = (h : Int)) (hI : I = (i : Int)) (hs : s.length = 32) (h6 : h ≤ 6) (hi : i < 2 ^ h) (hm : m.length ≤ 1048576)
    (hV : V = bots s i) (hO : O = besid s h i) (hP : P = node s h 0) (hD : D = digs (dgst P i m)) (hE : E = en i) (hG : G = E ++ (sigN s i D 68 ++ O.flatten)) (w : World) (hK : KH w) :
    Calls Tryd.prog 14 #[.string (sb s), .int .i64 H, .int .i64 I, .string (sb m)] w fun e w' => e = retS2 G 0 ∧ Below w.heap.size w w' := by
  have hi64 : i < 64 := by have : 2 ^ h ≤ 2 ^ 6 := Nat.pow_le_pow_right (by omega) h6; omega
  have hII : inI I := by unfold inI; omega
  have hIn : ((i : Nat) : Int) = I := hI.symm
  have hsz := sb_size m
  have hd : decide ((1048576 : Int) < (m.length : Int)) = false := by simp; omega
  obtain ⟨N, hN⟩ : ∃ N, N = node s 0 i := ⟨_, rfl⟩
  obtain ⟨Q, hQ⟩ : ∃ Q, Q = dgst P i m := ⟨_, rfl⟩
  have hNl : N.length = 16 := by rw [hN, node_length]
  have hPl : P.length = 16 := by rw [hP, node_length]
  have hQl : Q.length = 16 := by rw [hQ, dgst_length]
  have hDl : D.length = 68 := by rw [hD, ← hQ, digs_length Q hQl]
  have hVl : V.length = 68 := by rw [hV, bots_length]
  have hOl : O.length = h := by rw [hO, besid_length]
  have hO16 : ∀ d ∈ O, d.length = 16 := by
    intro d hd
    rw [hO, besid] at hd
    obtain ⟨l, _, rfl⟩ := List.mem_map.1 hd
    exact node_length _ _ _
  have HVS := Lib.hid (fun W => vs_yes s H hs (by omega) (by omega) W)
  have HVI := Lib.hid (fun W => vi_yes I h H hH h6 (by omega) (by omega) W)
  have HBT : Hid (∀ W, KH W → Calls Tryd.prog 27 #[.string (sb s), .int .i64 I] W fun e w' => e = .returned (.agg (ss V).toArray) ∧ Below W.heap.size W w') := Lib.hid fun W hk => by rw [hV, hIn]; exact bottom_any s I hII (by omega) W hk
  have HBS : Hid (∀ W, KH W → Calls Tryd.prog 28 #[.string (sb s), .int .i64 H, .int .i64 I] W fun e w' => ∃ A c, e = .returned (.slice A h c) ∧ Rd w' A (O.flatMap bs) ∧ Below W.heap.size W w') := Lib.hid fun W hk => by rw [hO]; exact besides_any s (by omega) h i H I hH hI h6 hi W hk
  have HLF : Hid (∀ W, KH W → Calls Tryd.prog 30 #[.int .i64 I, .agg (ss V).toArray, .agg Tryd.zeroCells43] W fun e w' => e = .returned (.agg (bs N).toArray) ∧ Below W.heap.size W w') := Lib.hid fun W hk => by
    have h1 := leaf_any I hII V Z68 hVl (by simp [Z68]) (fun c hc => by rw [hV, bots_get _ _ _ hc, bot_length]) (fun c _ => by rw [Z68_get]; omega) W hk
    have e : leafN I V Z68 = N := by rw [hN, hV, node, hIn]
    have ez : Tryd.zeroCells43 = (is Z68).toArray := by kernel_rfl
    rw [ez]
    rw [e] at h1
    exact h1
  have HRT : Hid (∀ (A : Option Addr) (c : Nat) W, Rd W A (O.flatMap bs) → KH W → Calls Tryd.prog 29 #[.agg (bs N).toArray, .int .i64 I, .slice A h c] W fun e w' => e = .returned (.agg (bs P).toArray) ∧ Below W.heap.size W w') := Lib.hid fun A c W hr hk => by
    have h1 := root_any N i I hI O A h c hOl.symm hNl hi64 hO16 (by omega) W hr hk
    have e : rootO i 0 N O = P := by rw [hN, hO, hP]; exact rootO_besid s h i hi
    rw [e] at h1
    exact h1
  have HDG : Hid (∀ W, KH W → Calls Tryd.prog 16 #[.agg (bs P).toArray, .int .i64 I, .string (sb m)] W fun e w' => e = .returned (.agg (bs Q).toArray) ∧ Below W.heap.size W w') := Lib.hid fun W hk => by rw [hQ, hIn]; exact dgst_any P m I hPl hII (by omega) W hk
  have HDO : Hid (∀ W, Calls Tryd.prog 21 #[.agg (bs Q).toArray] W fun e w' => e = .returned (.agg (is D).toArray) ∧ Below W.heap.size W w') := Lib.hid fun W => by rw [hD, ← hQ]; exact digitsOf_any Q hQl W
  have HIN : Hid (∀ W, Calls Tryd.prog 32 #[.int .i64 I] W fun e w' => ∃ v', e = .returned v' ∧ w'.ownsRow W.heap.size 5 1 v' E.length (bs E) ∧ Below W.heap.size W w') := Lib.hid fun W => by rw [hE, hIn]; exact int_any I hII W
  have HAV : Hid (∀ (c : Nat) (W : World), c < 68 → KH W → Calls Tryd.prog 34 #[.int .i64 I, .int .i64 (c : Int), .string (sb (V.getD c [])), .int .i64 0, .int .i64 (D.getD c 0 : Nat)] W fun e w' => e = .returned (.string (sb (adv i c 0 (D.getD c 0) (bot s i c)))) ∧ Below W.heap.size W w') := Lib.hid fun c W hc hk => by
    have h3 : D.getD c 0 ≤ 3 := by rw [hD, ← hQ]; exact digs_getD_le Q hQl c
    rw [hV, bots_get _ _ _ hc, hIn]
    exact advance_any I hII c 0 (D.getD c 0) c 0 _ rfl rfl (by omega) (bot s I c) (by omega) (by omega) (by rw [bot_length]; omega) W hk
  have hsl := fun k => sigN_length s i D k
  have hnx := fun k => sigN_succ s i D k
  have hax : ∀ c, (adv i c 0 (D.getD c 0) (bot s i c)).length = 16 := fun c => adv_length _ _ _ _ _ (bot_length _ _ _)
  have hE9 : E.length ≤ 9 := by rw [hE]; exact en_len9 _
  have hE1 : E ≠ [] := by rw [hE]; intro e; have := (en_length (i : Int)).1; rw [e] at this; simp at this
  have HL := Lib.hid (And.intro hDl (And.intro hVl (And.intro hOl (And.intro hO16 (And.intro hsl (And.intro hnx (And.intro hax hG)))))))
  have HPB : Hid ((bs P).length = 16) := Lib.hid (by rw [bs_length]; exact hPl)
  have HVB : Hid ((ss V).length = 68) := Lib.hid (by rw [ss_length]; exact hVl)
  have HE := Lib.hid (And.intro hE9 hE1)
  have HK := Lib.hid hK
  clear hK hV hO hP hD hE hG hN hQ hNl hPl hQl hDl hVl hOl hO16 hsl hnx hax hE9 hE1 hs hi hH hI hIn hi64 hII hm
  go_enter Tryd.func14, Tryd.ntmps14
  go_wp2_with (first
    | ((with_reducible refine (HVS.out _).mono ?_); rintro e w' ⟨rfl, rfl⟩)
    | ((with_reducible refine (HVI.out _).mono ?_); rintro e w' ⟨rfl, rfl⟩)
    | ((with_reducible refine (HBT.out _ ?_).mono ?_); exact HK.out; rintro e x1 ⟨rfl, hb1⟩; have HX1 := Lib.hid hb1; clear hb1)
    | ((with_reducible refine (HBS.out _ ?_).mono ?_); exact (HK.out.of HX1.out); rintro e x2 ⟨A, c, rfl, hrd, hb2⟩; have HX2 : Hid (Rd x2 A (O.flatMap bs) ∧ Below _ _ x2) := Lib.hid ⟨hrd, below_next HX1.out hb2⟩; clear hb2 hrd)
    | (refine wpList_store_blk rfl 52 (.tmp 10) (.tmp 34) rfl x2.heap.size 0 rfl (ss V) rfl (Blk.new' x2 (ss (List.replicate 68 [])) _ 52 Tryd.zero52) 68 Tryd.size52 HVB.out (by rw [ss_length, List.length_replicate]; omega) (ss_one _) ?_; intro x3 hst3; rw [List.take_zero, List.nil_append, List.drop_of_length_le (by rw [ss_length, List.length_replicate]; omega), List.append_nil] at hst3; have HX3 : Hid (Blk x3 x2.heap.size (ss V) 52 ∧ Rd x3 A (O.flatMap bs) ∧ Below _ _ x3 ∧ Below x2.heap.size x2 x3) := Lib.hid ⟨hst3.1, HX2.out.1.below (hst3.below (below_a1 _ _) (Nat.le_refl _)), hst3.below (al HX2.out.2 _) HX2.out.2.size, hst3.below (below_a1 _ _) (Nat.le_refl _)⟩; clear hst3)
    | (refine wpList_load_blk rfl 52 (.tmp 10) rfl x2.heap.size 0 rfl HX3.out.1 _ Tryd.underlying52 rfl 68 Tryd.size52 (by rw [HVB.out]; omega) ?_; rw [List.drop_zero, List.take_of_length_le (by rw [HVB.out]; omega)])
    | ((with_reducible refine (HLF.out _ ?_).mono ?_); exact (HK.out.of HX3.out.2.2.1); rintro e x4 ⟨rfl, hb4⟩; have HX4 : Hid (Blk x4 x2.heap.size (ss V) 52 ∧ Rd x4 A (O.flatMap bs) ∧ Below _ _ x4) := Lib.hid ⟨HX3.out.1.below hb4 HX3.out.1.lt, HX3.out.2.1.below hb4, below_next HX3.out.2.2.1 hb4⟩; clear hb4)
    | ((with_reducible refine (HRT.out _ _ _ ?_ ?_).mono ?_); exact HX4.out.2.1; exact (HK.out.of HX4.out.2.2); rintro e x5 ⟨rfl, hb5⟩; have HX5 : Hid (Blk x5 x2.heap.size (ss V) 52 ∧ Rd x5 A (O.flatMap bs) ∧ Below _ _ x5) := Lib.hid ⟨HX4.out.1.below hb5 HX4.out.1.lt, HX4.out.2.1.below hb5, below_next HX4.out.2.2 hb5⟩; clear hb5)
    | (refine wpList_store_blk rfl 23 (.tmp 12) (.tmp 45) rfl x5.heap.size 0 rfl (bs P) rfl (Blk.new' x5 (bs (List.replicate 16 0)) _ 23 rfl) 16 Tryd.size44 HPB.out (by rw [bs_length, List.length_replicate]; omega) (bs_one _) ?_; intro x6 hst6; rw [List.take_zero, List.nil_append, List.drop_of_length_le (by rw [bs_length, List.length_replicate]; omega), List.append_nil] at hst6; have HX6 : Hid (SX w V P A (O.flatMap bs) x6.heap.size x2.heap.size x5.heap.size x6 ∧ Bld (x6.alloc (.cells #[.pointer none, .slice none 0 0] 60)) x6.heap.size []) := Lib.hid ⟨⟨hst6.other (HX5.out.1.alloc _) (by have := HX5.out.1.lt; omega), hst6.1, RdU.of (HX5.out.2.1.below (hst6.below (below_a1 _ _) (Nat.le_refl _))) (Nat.le_refl _), by rw [hst6.2.2.1]; have := HX5.out.1.lt; simp; omega, by rw [hst6.2.2.1]; simp, by rw [hst6.2.2.1]; have := HX5.out.2.2.size; simp; omega, hst6.below (al HX5.out.2.2 _) HX5.out.2.2.size⟩, Bld.new x6⟩; clear hst6)
    | ((with_reducible refine (HIN.out _).mono ?_); rintro e x7 ⟨v7, rfl, hown7, hb7⟩; obtain ⟨A7, c7, rfl, hrd7, hne7, hge7⟩ := own_rd3 hown7; have HX7 : Hid (SX w V P A (O.flatMap bs) x6.heap.size x2.heap.size x5.heap.size x7 ∧ Bld x7 x6.heap.size [] ∧ Rd x7 A7 (bs E) ∧ (A7 = none → E = []) ∧ ∀ a, A7 = some a → a.block ≠ x6.heap.size) := Lib.hid ⟨(HX6.out.1.next (below_a1 _ _)).next (hb7.mono (by simp)), HX6.out.2.keep hb7, hrd7, hne7, fun a ha => by have := hge7 a ha; simp at this; omega⟩; clear hb7 hown7 hrd7 hne7 hge7)
    | ((with_reducible refine (bld_bytes _ [] E A7 _ c7 rfl _ HX7.out.2.1 ?_ HX7.out.2.2.1 HX7.out.2.2.2.1 HX7.out.2.2.2.2).mono ?_); (have := HE.out.1; simp; omega); rintro e x8 ⟨rfl, hu8, hb8⟩; have HX8 : Hid (SX w V P A (O.flatMap bs) x6.heap.size x2.heap.size x5.heap.size x8 ∧ Bld x8 x6.heap.size E) := Lib.hid ⟨HX7.out.1.next hb8, hu8.bld⟩; clear hb8 hu8)
    | (refine wpList_load_blk rfl 23 (.tmp 12) rfl x5.heap.size 0 rfl HX8.out.1.2.1 _ Tryd.underlying23 rfl 16 Tryd.size44 (by rw [HPB.out]; omega) ?_; rw [List.drop_zero, List.take_of_length_le (by rw [HPB.out]; omega)])
    | ((with_reducible refine (HDG.out _ ?_).mono ?_); exact (HX8.out.1.kh HK.out); rintro e x9 ⟨rfl, hb9⟩; have HX9 : Hid (SX w V P A (O.flatMap bs) x6.heap.size x2.heap.size x5.heap.size x9 ∧ Bld x9 x6.heap.size E) := Lib.hid ⟨HX8.out.1.next (hb9.mono (Nat.le_of_lt HX8.out.2.lt)), HX8.out.2.keep hb9⟩; clear hb9)
    | ((with_reducible refine (HDO.out _).mono ?_); rintro e x10 ⟨rfl, hb10⟩; have HX10 : Hid (SX w V P A (O.flatMap bs) x6.heap.size x2.heap.size x5.heap.size x10 ∧ Bld x10 x6.heap.size E) := Lib.hid ⟨HX9.out.1.next (hb10.mono (Nat.le_of_lt HX9.out.2.lt)), HX9.out.2.keep hb10⟩; clear hb10))
  clear HX1 HX2 HX3 HX4 HX5 HX6 HX7 HX8 HX9 HVS HVI HBT HBS HLF HRT HDG HDO HIN
  obtain ⟨b, hb⟩ : ∃ b, b = x6.heap.size := ⟨_, rfl⟩
  obtain ⟨g1, hg1⟩ : ∃ g, g = x2.heap.size := ⟨_, rfl⟩
  obtain ⟨g2, hg2⟩ : ∃ g, g = x5.heap.size := ⟨_, rfl⟩
  rw [← hb, ← hg1, ← hg2] at HX10 ⊢
  clear hb hg1 hg2
  go_loopg [54] 68 (fun g s54 wr => ∃ k : Nat, k + g = 68 ∧ s54 = .int .i64 k ∧ SX w V P A (O.flatMap bs) b g1 g2 wr ∧ Bld wr b (E ++ sigN s i D k))
  case atStart => exact ⟨0, rfl, rfl, HX10.out.1, by have := HX10.out.2; simpa [sigN] using this⟩
  case round =>
    clear HX10
    obtain ⟨k, hk, rfl, hS, hB⟩ := hrel
    obtain ⟨L, hL⟩ : ∃ L, L = E ++ sigN s i D k := ⟨_, rfl⟩
    rw [← hL] at hB
    by_cases hlt : k < 68
    · obtain ⟨g, rfl⟩ : ∃ g, gk = g + 1 := ⟨gk - 1, by omega⟩
      have hix := fun W => ix43 D HL.out.1 k hlt W
      have hcell := hS.1.cell (ss_get V k (by rw [HL.out.2.1]; exact hlt))
      have HAD := Lib.hid (fun W hk => HAV.out k W hlt hk)
      obtain ⟨dk, hdk⟩ : ∃ d, d = D.getD k 0 := ⟨_, rfl⟩
      obtain ⟨v, hv⟩ : ∃ v, v = V.getD k [] := ⟨_, rfl⟩
      obtain ⟨X, hX⟩ : ∃ X, X = adv i k 0 (D.getD k 0) (bot s i k) := ⟨_, rfl⟩
      have hX16 : X.length = 16 := by rw [hX]; exact HL.out.2.2.2.2.2.2.1 k
      have hnx : L ++ X = E ++ sigN s i D (k + 1) := by rw [HL.out.2.2.2.2.2.1 k, hL, hX, List.append_assoc]
      have hLl : L.length ≤ 9 + 16 * k := by rw [hL, List.length_append, HL.out.2.2.2.2.1 k]; have := HE.out.1; omega
      rw [← hX, ← hdk, ← hv] at HAD
      rw [← hdk] at hix
      rw [← hv] at hcell
      have HN := Lib.hid (And.intro hnx (And.intro hX16 hLl))
      have HS := Lib.hid (And.intro hS hB)
      clear hdk hv hX hX16 hnx hLl hL hS hB
      go_wp2_with (first
        | ((with_reducible refine (HAD.out _ ?_).mono ?_); exact (HS.out.1.kh HK.out); rintro e y1 ⟨rfl, hb1⟩; have HY1 : Hid (SX w V P A (O.flatMap bs) b g1 g2 y1 ∧ Bld y1 b L) := Lib.hid ⟨HS.out.1.next (hb1.mono (Nat.le_of_lt HS.out.2.lt)), HS.out.2.keep hb1⟩; clear hb1)
        | ((with_reducible refine (bld_str b L X _ HY1.out.2 ?_).mono ?_); (have := HN.out.2; omega); rintro e y2 ⟨rfl, hu2, hb2⟩; have HY2 : Hid (SX w V P A (O.flatMap bs) b g1 g2 y2 ∧ Bld y2 b (L ++ X)) := Lib.hid ⟨HY1.out.1.next hb2, hu2.bld⟩; clear hu2 hb2))
      go_roundg g
      case rel => exact ⟨k + 1, by omega, by go_num, HY2.out.1, by rw [← HN.out.1]; exact HY2.out.2⟩
      case measure => omega
    · obtain rfl : k = 68 := by omega
      have HS := Lib.hid (And.intro hS (And.intro hB hL))
      clear hS hB hL HAV
      go_wp2_with fail
      go_loopg [69] h (fun g s69 wr => ∃ j : Nat, j + g = h ∧ s69 = .int .i64 j ∧ SX w V P A (O.flatMap bs) b g1 g2 wr ∧ Bld wr b (L ++ (O.take j).flatten))
      case atStart => exact ⟨0, by omega, rfl, HS.out.1, by have := HS.out.2.1; simpa using this⟩
      case round =>
        obtain ⟨j, hj, rfl, hS, hB⟩ := hrel
        obtain ⟨M, hM⟩ : ∃ M, M = L ++ (O.take j).flatten := ⟨_, rfl⟩
        rw [← hM] at hB
        by_cases hlt : j < h
        · obtain ⟨g, rfl⟩ : ∃ g, gk = g + 1 := ⟨gk - 1, by omega⟩
          obtain ⟨b0, o, hA, hrg⟩ := flat_range HL.out.2.2.2.1 hS.2.2.1.rd j (by rw [HL.out.2.2.1]; exact hlt)
          subst hA
          obtain ⟨d, hd⟩ : ∃ d, d = O.getD j [] := ⟨_, rfl⟩
          rw [← hd] at hrg
          have hjO : j < O.length := by rw [HL.out.2.2.1]; exact hlt
          have hd16 : d.length = 16 := by rw [hd]; simp only [List.getD, List.getElem?_eq_getElem hjO, Option.getD_some]; exact HL.out.2.2.2.1 _ (List.getElem_mem hjO)
          have hnx : M ++ d = L ++ (O.take (j + 1)).flatten := by
            rw [List.take_succ_eq_append_getElem hjO, List.flatten_append, hM, hd]
            simp [List.getD, hjO]
          have hMl : M.length ≤ 2000 := by
            have hfl : ∀ l : List (List UInt8), (∀ d ∈ l, d.length = 16) → l.flatten.length = 16 * l.length := by
              intro l hl
              induction l with
              | nil => rfl
              | cons a r ih => rw [List.flatten_cons, List.length_append, ih (fun d hd => hl d (by simp [hd])), hl a (by simp), List.length_cons]; omega
            have h1 := hfl (O.take j) (fun d hd => HL.out.2.2.2.1 d (List.mem_of_mem_take hd))
            have h2 := HE.out.1
            rw [hM, List.length_append, h1, HS.out.2.2, List.length_append, HL.out.2.2.2.2.1 68, List.length_take]
            omega
          have hdb : (bs d).length = 16 := by rw [bs_length]; exact hd16
          have HDB := Lib.hid hdb
          have HN := Lib.hid (And.intro hnx (And.intro hd16 hMl))
          have HR := Lib.hid hrg
          have HT := Lib.hid (And.intro hS hB)
          clear hnx hd16 hMl hdb hrg hS hB hd hM hjO
          have hsl2 := sl44
          go_wp2_with (first
            | (refine wpList_load_mid rfl 23 (.tmp 71) rfl b0 (o + j * 16) rfl (bs d) _ HR.out Tryd.underlying23 rfl (by rw [HDB.out]; exact Tryd.size44) ?_)
            | (refine wpList_store_blk rfl 23 (.tmp 17) (.tmp 72) rfl wr.heap.size 0 rfl (bs d) rfl (Blk.new' wr (bs (List.replicate 16 0)) _ 23 rfl) 16 Tryd.size44 HDB.out (by rw [bs_length, List.length_replicate]; omega) (bs_one _) ?_; intro y1 hst1; rw [List.take_zero, List.nil_append, List.drop_of_length_le (by rw [bs_length, List.length_replicate]; omega), List.append_nil] at hst1; have HY1 : Hid (Blk y1 wr.heap.size (bs d) 23 ∧ SX w V P (some ⟨b0, o, none⟩) (O.flatMap bs) b g1 g2 y1 ∧ Bld y1 b M ∧ b < wr.heap.size) := Lib.hid ⟨hst1.1, HT.out.1.next ((hst1.below (below_a1 wr _) (Nat.le_refl _)).mono (Nat.le_of_lt HT.out.2.lt)), HT.out.2.keep (hst1.below (below_a1 wr _) (Nat.le_refl _)), HT.out.2.lt⟩; clear hst1)
            | ((with_reducible refine (bld_bytes b M d (some ⟨wr.heap.size, 0, none⟩) 16 16 HN.out.2.1.symm _ HY1.out.2.2.1 ?_ (Rd.of_blk HY1.out.1) ?_ ?_).mono ?_); (have := HN.out.2; omega); (intro h; cases h); (intro a ha; have := Option.some.inj ha; subst this; have := HY1.out.2.2.2; simp; omega); rintro e y2 ⟨rfl, hu2, hb2⟩; have HY2 : Hid (SX w V P (some ⟨b0, o, none⟩) (O.flatMap bs) b g1 g2 y2 ∧ Bld y2 b (M ++ d)) := Lib.hid ⟨HY1.out.2.1.next hb2, hu2.bld⟩; clear hu2 hb2))
          go_roundg g
          case rel => exact ⟨j + 1, by omega, by go_num, HY2.out.1, by rw [← HN.out.1]; exact HY2.out.2⟩
          case measure => omega
        · obtain rfl : j = h := by omega
          have hMG : M = G := by
            rw [hM, HS.out.2.2, ← HL.out.2.2.1, List.take_length, HL.out.2.2.2.2.2.2.2, List.append_assoc]
          have hM0 : M ≠ [] := by
            rw [hM, HS.out.2.2]
            intro e
            have := List.append_eq_nil_iff.1 (List.append_eq_nil_iff.1 e).1
            exact HE.out.2 this.1
          subst hMG
          have HT := Lib.hid (And.intro hS (And.intro hB hM0))
          clear hS hB hM hM0 HS HL
          go_wp2_with (refine (bld_string b M _ HT.out.2.1 HT.out.2.2).mono ?_; rintro e y1 ⟨rfl, hb1⟩; have HY1 : Hid (Below w.heap.size w y1) := Lib.hid (HT.out.1.next hb1).2.2.2.2.2.2; clear hb1)
          go_ret2
          exact ⟨rfl, HY1.out⟩
theorem sign_any (s m : List UInt8) (h i : Nat) (H I : Int) (hH : H = (h : Int)) (hI : I = (i : Int)) (hs : s.length = 32) (h6 : h ≤ 6) (hi : i < 2 ^ h) (hm : m.length ≤ 1048576) (w : World) (hK : KH w) :
    Calls Tryd.prog 14 #[.string (sb s), .int .i64 H, .int .i64 I, .string (sb m)] w fun e w' => e = retS2 (sgn s h i m) 0 ∧ Below w.heap.size w w' :=
  sign_ok s m _ _ _ _ _ _ h i H I hH hI hs h6 hi hm rfl rfl rfl rfl rfl rfl w hK
end Go.Proofs.YtbgcnfikcddcpaaDoor
