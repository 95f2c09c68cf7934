/-
  calendar.Print: the text of a span.
-/
import Derived.Test.YtkaaejfochdjcaaDoorCMid
namespace Go.Proofs.YtkaaejfochdjcaaDoor
open Go.RowKit
open Cal
set_option linter.unusedVariables false
set_option linter.unusedSimpArgs false

theorem shortest_some (n : Int) (h1 : 1 ≤ n) (h2 : n ≤ 1022679) (F B : Nat) (a b : Int) (f : R → Bool) (hf : Wants F B a b f) (p : List Int) (hQ : shP n f = some p) (w : World) (hM : MD w) (hB : Blk w B (iv [a, b]) 30) :
    Calls Tryd.prog 48 #[.int .i64 n, .func (.func F) #[] #[.pointer (some ⟨B, 0, none⟩)]] w fun e w' => ∃ (A : Option Addr) (n c : Nat), e = .returned (.tuple #[.slice A n c, .bool true]) ∧ n = p.length ∧ Rd w' A (iv p) ∧ n ≤ c ∧ c ≤ maxLen ∧ Below w.heap.size w w' :=
  (shortest_aux n h1 h2 F B a b f hf _ hQ.symm w hM hB).mono fun e w' h => by
    rcases h with ⟨p', A, n, c, hq, he, hn, hr, hc, hm, hb⟩ | ⟨hq, _⟩
    · obtain rfl := Option.some.inj hq
      exact ⟨A, n, c, he, hn, hr, hc, hm, hb⟩
    · cases hq
theorem shortest_none (n : Int) (h1 : 1 ≤ n) (h2 : n ≤ 1022679) (F B : Nat) (a b : Int) (f : R → Bool) (hf : Wants F B a b f) (hQ : shP n f = none) (w : World) (hM : MD w) (hB : Blk w B (iv [a, b]) 30) :
    Calls Tryd.prog 48 #[.int .i64 n, .func (.func F) #[] #[.pointer (some ⟨B, 0, none⟩)]] w fun e w' => e = .returned (.tuple #[.slice none 0 0, .bool false]) ∧ Below w.heap.size w w' :=
  (shortest_aux n h1 h2 F B a b f hf _ hQ.symm w hM hB).mono fun e w' h => by
    rcases h with ⟨p', A, n, c, hq, _⟩ | ⟨_, he, hb⟩
    · cases hq
    · exact ⟨he, hb⟩
theorem wantsP (B : Nat) (a b : Int) : Wants 49 B a b (isP a b) := ⟨wantP_enter, fun x z W h => wantP_any a b x z B W h⟩
theorem wantsF (B : Nat) (a b : Int) : Wants 52 B a b (isF a) := ⟨wantF_enter, fun x z W h => wantF_any a b x z B W h⟩
theorem wantsL (B : Nat) (a b : Int) : Wants 53 B a b (isL b) := ⟨wantL_enter, fun x z W h => wantL_any a b x z B W h⟩
theorem middle_some (a b : Int) (a1 : 1 ≤ a) (a2 : a ≤ 1022679) (b1 : 1 ≤ b) (b2 : b ≤ 1022679) (y : Int) (h : midP a b = some y) (w : World) (hM : MD w) : Calls Tryd.prog 51 #[.agg #[.int .i64 a, .int .i64 b]] w fun e w' => e = .returned (.tuple #[.int .i64 y, .bool true]) ∧ Below w.heap.size w w' :=
  (middle_any a b a1 a2 b1 b2 w hM).mono fun e w' hp => by
    rcases hp with ⟨z, hz, he, hb⟩ | ⟨hz, _⟩
    · rw [h] at hz
      obtain rfl := Option.some.inj hz
      exact ⟨he, hb⟩
    · rw [h] at hz; cases hz
theorem middle_none (a b : Int) (a1 : 1 ≤ a) (a2 : a ≤ 1022679) (b1 : 1 ≤ b) (b2 : b ≤ 1022679) (h : midP a b = none) (w : World) (hM : MD w) : Calls Tryd.prog 51 #[.agg #[.int .i64 a, .int .i64 b]] w fun e w' => e = .returned (.tuple #[.int .i64 0, .bool false]) ∧ Below w.heap.size w w' :=
  (middle_any a b a1 a2 b1 b2 w hM).mono fun e w' hp => by
    rcases hp with ⟨z, hz, _⟩ | ⟨hz, he, hb⟩
    · rw [h] at hz; cases hz
    · exact ⟨he, hb⟩

set_option maxRecDepth 100000 in
set_option maxHeartbeats 4000000 in
theorem print_aux (a b : Int) (X : List UInt8) (hX : X = prt a b) (w : World) (hK : KC w) : Calls Tryd.prog 28 #[.agg #[.int .i64 a, .int .i64 b]] w fun e w' => e = .returned (.string (tb X)) ∧ Below w.heap.size w w' := by
  cases hv : vaB a b
  · have HV : Hid (∀ W, Calls Tryd.prog 21 #[.agg #[.int .i64 a, .int .i64 b]] W fun e w' => e = .returned (.bool false) ∧ Below W.heap.size W w') := Lib.hid fun W => valid_no _ _ hv W
    obtain rfl : X = [] := by rw [hX]; unfold prt; rw [if_neg (by rw [hv]; decide)]
    clear hX hv hK
    go_enter Tryd.func28, Tryd.ntmps28
    go_wp2_with ((with_reducible refine (HV.out _).mono ?_); rintro e w1 ⟨rfl, hb1⟩; have HX1 : Hid (Below w.heap.size w w1) := Lib.hid (below_next (below_a1 _ _) hb1); clear hb1)
    go_ret
    exact ⟨rfl, HX1.out⟩
  · have HV : Hid (∀ W, Calls Tryd.prog 21 #[.agg #[.int .i64 a, .int .i64 b]] W fun e w' => e = .returned (.bool true) ∧ Below W.heap.size W w') := Lib.hid fun W => valid_yes _ _ hv W
    have hok : okS a b := of_decide_eq_true (by unfold vaB at hv; exact hv)
    obtain ⟨a1, ab, b2⟩ := hok
    have a2 : a ≤ 1022679 := by omega
    have b1 : 1 ≤ b := by omega
    rw [prt_valid hv] at hX
    have HK := Lib.hid hK
    clear hK hv
    cases hs : shP a (isP a b) with
    | some p =>
      rw [hs] at hX
      simp only at hX
      have HS1 : Hid (∀ W, Blk W w.heap.size (iv [a, b]) 30 → Below w.heap.size w W → Calls Tryd.prog 48 #[.int .i64 a, .func (.func 49) #[] #[.pointer (some ⟨w.heap.size, 0, none⟩)]] W fun e w' => ∃ (A : Option Addr) (n c : Nat), e = .returned (.tuple #[.slice A n c, .bool true]) ∧ n = p.length ∧ Rd w' A (iv p) ∧ n ≤ c ∧ c ≤ maxLen ∧ Below W.heap.size W w') := Lib.hid fun W hB hb => shortest_some a a1 a2 _ _ a b _ (wantsP _ a b) p hs W (HK.out.below hb).1 hB
      have HP : Hid (Part p) := Lib.hid (shP_spec a1 a2 hs).1.part
      have HX := Lib.hid hX
      clear hX hs
      go_enter Tryd.func28, Tryd.ntmps28
      go_wp2_with (first
        | ((with_reducible refine (HV.out _).mono ?_); rintro e w1 ⟨rfl, hb1⟩; have HX1 : Hid (Blk w1 w.heap.size (iv [a, b]) 30 ∧ Below w.heap.size w w1) := Lib.hid ⟨(Blk.at w (iv [a, b]) _ 30 _ rfl rfl).below hb1 (by simp), below_next (below_a1 _ _) hb1⟩; have hca1 : w1.cell? ⟨w.heap.size, 0, none⟩ = some (.int .i64 a) := HX1.out.1.cell rfl; have hcb1 : w1.cell? ⟨w.heap.size, 1, none⟩ = some (.int .i64 b) := HX1.out.1.cell rfl; have hlt1 : w.heap.size < w1.heap.size := HX1.out.1.lt; clear hb1)
        | ((with_reducible refine (HS1.out _ HX1.out.1 HX1.out.2).mono ?_); rintro e w2 ⟨A2, n2, c2, rfl, hn2, hr2, hc2, hm2, hb2⟩; have HN2 := Lib.hid hn2; have HR2 := Lib.hid hr2; have HC2 : Hid (n2 ≤ c2 ∧ c2 ≤ maxLen) := Lib.hid ⟨hc2, hm2⟩; clear hn2 hr2 hc2 hm2; clear hca1 hcb1 hlt1; have HX2 : Hid (Blk w2 w.heap.size (iv [a, b]) 30 ∧ Below w.heap.size w w2) := Lib.hid ⟨HX1.out.1.below hb2 HX1.out.1.lt, below_next HX1.out.2 hb2⟩; have hca2 : w2.cell? ⟨w.heap.size, 0, none⟩ = some (.int .i64 a) := HX2.out.1.cell rfl; have hcb2 : w2.cell? ⟨w.heap.size, 1, none⟩ = some (.int .i64 b) := HX2.out.1.cell rfl; have hlt2 : w.heap.size < w2.heap.size := HX2.out.1.lt; clear hb2)
        | ((with_reducible refine (dateText_any p HP.out A2 n2 c2 HN2.out HC2.out.1 HC2.out.2 w2 HR2.out (HK.out.below HX2.out.2)).mono ?_); rintro e w3 ⟨rfl, hb3⟩; have HX3 : Hid (Below w.heap.size w w3) := Lib.hid (below_next HX2.out.2 hb3); clear hb3))
      go_ret
      exact ⟨by rw [HX.out]; rfl, HX3.out⟩
    | none =>
      rw [hs] at hX
      simp only at hX
      have HS1 : Hid (∀ W, Blk W w.heap.size (iv [a, b]) 30 → Below w.heap.size w W → Calls Tryd.prog 48 #[.int .i64 a, .func (.func 49) #[] #[.pointer (some ⟨w.heap.size, 0, none⟩)]] W fun e w' => e = .returned (.tuple #[.slice none 0 0, .bool false]) ∧ Below W.heap.size W w') := Lib.hid fun W hB hb => shortest_none a a1 a2 _ _ a b _ (wantsP _ a b) hs W (HK.out.below hb).1 hB
      clear hs
      cases hm : midP a b with
      | some y =>
        rw [hm] at hX
        simp only at hX
        have hy := aro_ok (midP_ok hm)
        have HMd : Hid (∀ W, Blk W w.heap.size (iv [a, b]) 30 → Below w.heap.size w W → Calls Tryd.prog 51 #[.agg #[.int .i64 a, .int .i64 b]] W fun e w' => e = .returned (.tuple #[.int .i64 y, .bool true]) ∧ Below W.heap.size W w') := Lib.hid fun W hB hb => middle_some a b a1 a2 b1 b2 y hm W (HK.out.below hb).1
        have HD : Hid (∀ W, Below w.heap.size w W → Calls Tryd.prog 50 #[.slice (some ⟨W.heap.size, 0, none⟩) 1 1] (W.alloc (.cells #[.int .i64 y] 3)) fun e w' => e = .returned (.string (tb (pad4 y))) ∧ Below w.heap.size w w') := Lib.hid fun W hb => by
          have := dateText_any [y] ⟨by omega, by omega⟩ (some ⟨W.heap.size, 0, none⟩) 1 1 rfl (by omega) (by unfold maxLen; omega) (W.alloc (.cells #[.int .i64 y] 3)) (rd_blk (Blk.at W (iv [y]) _ 3 _ rfl rfl)) (HK.out.below (below_al hb _))
          rw [show txt [y] = pad4 y by simp [txt]] at this
          exact this.mono fun e w' ⟨h, h'⟩ => ⟨h, below_next (below_al hb _) h'⟩
        have hcat : ∀ W, (Op.stringOp .add ⟨#[99]⟩ (tb (pad4 y))).run Tryd.prog W = .ok (.string (tb X)) W := fun W => cat_tb (a := [99]) (by rw [hX]; rfl) (by rw [hX]; simp [pad4_length]) W
        clear hX hm hy
        go_enter Tryd.func28, Tryd.ntmps28
        go_wp2_with (first
          | ((with_reducible refine (HV.out _).mono ?_); rintro e w1 ⟨rfl, hb1⟩; have HX1 : Hid (Blk w1 w.heap.size (iv [a, b]) 30 ∧ Below w.heap.size w w1) := Lib.hid ⟨(Blk.at w (iv [a, b]) _ 30 _ rfl rfl).below hb1 (by simp), below_next (below_a1 _ _) hb1⟩; have hca1 : w1.cell? ⟨w.heap.size, 0, none⟩ = some (.int .i64 a) := HX1.out.1.cell rfl; have hcb1 : w1.cell? ⟨w.heap.size, 1, none⟩ = some (.int .i64 b) := HX1.out.1.cell rfl; have hlt1 : w.heap.size < w1.heap.size := HX1.out.1.lt; clear hb1)
          | ((with_reducible refine (HS1.out _ HX1.out.1 HX1.out.2).mono ?_); rintro e w2 ⟨rfl, hb2⟩; clear hca1 hcb1 hlt1; have HX2 : Hid (Blk w2 w.heap.size (iv [a, b]) 30 ∧ Below w.heap.size w w2) := Lib.hid ⟨HX1.out.1.below hb2 HX1.out.1.lt, below_next HX1.out.2 hb2⟩; have hca2 : w2.cell? ⟨w.heap.size, 0, none⟩ = some (.int .i64 a) := HX2.out.1.cell rfl; have hcb2 : w2.cell? ⟨w.heap.size, 1, none⟩ = some (.int .i64 b) := HX2.out.1.cell rfl; have hlt2 : w.heap.size < w2.heap.size := HX2.out.1.lt; clear hb2)
          | (refine wpList_load_span rfl (.tmp 1) rfl w.heap.size rfl a b HX2.out.1 ?_)
          | ((with_reducible refine (HMd.out _ HX2.out.1 HX2.out.2).mono ?_); rintro e w3 ⟨rfl, hb3⟩; clear hca2 hcb2 hlt2; have HX3 : Hid (Blk w3 w.heap.size (iv [a, b]) 30 ∧ Below w.heap.size w w3) := Lib.hid ⟨HX2.out.1.below hb3 HX2.out.1.lt, below_next HX2.out.2 hb3⟩; have hca3 : w3.cell? ⟨w.heap.size, 0, none⟩ = some (.int .i64 a) := HX3.out.1.cell rfl; have hcb3 : w3.cell? ⟨w.heap.size, 1, none⟩ = some (.int .i64 b) := HX3.out.1.cell rfl; have hlt3 : w.heap.size < w3.heap.size := HX3.out.1.lt; clear hb3)
          | ((with_reducible refine (HD.out _ HX3.out.2).mono ?_); rintro e w4 ⟨rfl, hb4⟩; have HX4 : Hid (Below w.heap.size w w4) := Lib.hid hb4; clear hb4))
        go_ret
        exact ⟨rfl, HX4.out⟩
      | none =>
        rw [hm] at hX
        simp only at hX
        have HMd : Hid (∀ W, Blk W w.heap.size (iv [a, b]) 30 → Below w.heap.size w W → Calls Tryd.prog 51 #[.agg #[.int .i64 a, .int .i64 b]] W fun e w' => e = .returned (.tuple #[.int .i64 0, .bool false]) ∧ Below W.heap.size W w') := Lib.hid fun W hB hb => middle_none a b a1 a2 b1 b2 hm W (HK.out.below hb).1
        obtain ⟨r, hr, hrx, _⟩ := shF a1 a2
        obtain ⟨q, hq, hqx, _⟩ := shL b1 b2
        rw [hr, hq] at hX
        simp only [Option.getD_some] at hX
        have HS4 : Hid (∀ W, Blk W w.heap.size (iv [a, b]) 30 → Below w.heap.size w W → Calls Tryd.prog 48 #[.int .i64 a, .func (.func 52) #[] #[.pointer (some ⟨w.heap.size, 0, none⟩)]] W fun e w' => ∃ (A : Option Addr) (n c : Nat), e = .returned (.tuple #[.slice A n c, .bool true]) ∧ n = r.length ∧ Rd w' A (iv r) ∧ n ≤ c ∧ c ≤ maxLen ∧ Below W.heap.size W w') := Lib.hid fun W hB hb => shortest_some a a1 a2 _ _ a b _ (wantsF _ a b) r hr W (HK.out.below hb).1 hB
        have HS5 : Hid (∀ W, Blk W w.heap.size (iv [a, b]) 30 → Below w.heap.size w W → Calls Tryd.prog 48 #[.int .i64 b, .func (.func 53) #[] #[.pointer (some ⟨w.heap.size, 0, none⟩)]] W fun e w' => ∃ (A : Option Addr) (n c : Nat), e = .returned (.tuple #[.slice A n c, .bool true]) ∧ n = q.length ∧ Rd w' A (iv q) ∧ n ≤ c ∧ c ≤ maxLen ∧ Below W.heap.size W w') := Lib.hid fun W hB hb => shortest_some b b1 b2 _ _ a b _ (wantsL _ a b) q hq W (HK.out.below hb).1 hB
        have HPr : Hid (Part r) := Lib.hid hrx.part
        have HPq : Hid (Part q) := Lib.hid hqx.part
        have hlr : (txt r).length ≤ 10 := by rw [txt_length hrx.part]; have := hrx.len; omega
        have hlq : (txt q).length ≤ 10 := by rw [txt_length hqx.part]; have := hqx.len; omega
        have hcat1 : ∀ W, (Op.stringOp .add (tb (txt r)) ⟨#[47]⟩).run Tryd.prog W = .ok (.string (tb (txt r ++ [47]))) W := fun W => cat_tb (b := [47]) rfl (by simp; omega) W
        have hcat2 : ∀ W, (Op.stringOp .add (tb (txt r ++ [47])) (tb (txt q))).run Tryd.prog W = .ok (.string (tb X)) W := fun W => cat_tb (by rw [hX]; simp) (by rw [hX]; simp; omega) W
        clear hX hm hr hq hrx hqx hlr hlq
        go_enter Tryd.func28, Tryd.ntmps28
        go_wp2_with (first
          | ((with_reducible refine (HV.out _).mono ?_); rintro e w1 ⟨rfl, hb1⟩; have HX1 : Hid (Blk w1 w.heap.size (iv [a, b]) 30 ∧ Below w.heap.size w w1) := Lib.hid ⟨(Blk.at w (iv [a, b]) _ 30 _ rfl rfl).below hb1 (by simp), below_next (below_a1 _ _) hb1⟩; have hca1 : w1.cell? ⟨w.heap.size, 0, none⟩ = some (.int .i64 a) := HX1.out.1.cell rfl; have hcb1 : w1.cell? ⟨w.heap.size, 1, none⟩ = some (.int .i64 b) := HX1.out.1.cell rfl; have hlt1 : w.heap.size < w1.heap.size := HX1.out.1.lt; clear hb1)
          | ((with_reducible refine (HS1.out _ HX1.out.1 HX1.out.2).mono ?_); rintro e w2 ⟨rfl, hb2⟩; clear hca1 hcb1 hlt1; have HX2 : Hid (Blk w2 w.heap.size (iv [a, b]) 30 ∧ Below w.heap.size w w2) := Lib.hid ⟨HX1.out.1.below hb2 HX1.out.1.lt, below_next HX1.out.2 hb2⟩; have hca2 : w2.cell? ⟨w.heap.size, 0, none⟩ = some (.int .i64 a) := HX2.out.1.cell rfl; have hcb2 : w2.cell? ⟨w.heap.size, 1, none⟩ = some (.int .i64 b) := HX2.out.1.cell rfl; have hlt2 : w.heap.size < w2.heap.size := HX2.out.1.lt; clear hb2)
          | (refine wpList_load_span rfl (.tmp 1) rfl w.heap.size rfl a b HX2.out.1 ?_)
          | ((with_reducible refine (HMd.out _ HX2.out.1 HX2.out.2).mono ?_); rintro e w3 ⟨rfl, hb3⟩; clear hca2 hcb2 hlt2; have HX3 : Hid (Blk w3 w.heap.size (iv [a, b]) 30 ∧ Below w.heap.size w w3) := Lib.hid ⟨HX2.out.1.below hb3 HX2.out.1.lt, below_next HX2.out.2 hb3⟩; have hca3 : w3.cell? ⟨w.heap.size, 0, none⟩ = some (.int .i64 a) := HX3.out.1.cell rfl; have hcb3 : w3.cell? ⟨w.heap.size, 1, none⟩ = some (.int .i64 b) := HX3.out.1.cell rfl; have hlt3 : w.heap.size < w3.heap.size := HX3.out.1.lt; clear hb3)
          | ((with_reducible refine (HS4.out _ HX3.out.1 HX3.out.2).mono ?_); rintro e w4 ⟨A4, n4, c4, rfl, hn4, hr4, hc4, hm4, hb4⟩; have HN4 := Lib.hid hn4; have HR4 := Lib.hid hr4; have HC4 : Hid (n4 ≤ c4 ∧ c4 ≤ maxLen) := Lib.hid ⟨hc4, hm4⟩; clear hn4 hr4 hc4 hm4; clear hca3 hcb3 hlt3; have HX4 : Hid (Blk w4 w.heap.size (iv [a, b]) 30 ∧ Below w.heap.size w w4) := Lib.hid ⟨HX3.out.1.below hb4 HX3.out.1.lt, below_next HX3.out.2 hb4⟩; have hca4 : w4.cell? ⟨w.heap.size, 0, none⟩ = some (.int .i64 a) := HX4.out.1.cell rfl; have hcb4 : w4.cell? ⟨w.heap.size, 1, none⟩ = some (.int .i64 b) := HX4.out.1.cell rfl; have hlt4 : w.heap.size < w4.heap.size := HX4.out.1.lt; clear hb4)
          | ((with_reducible refine (HS5.out _ HX4.out.1 HX4.out.2).mono ?_); rintro e w5 ⟨A5, n5, c5, rfl, hn5, hr5, hc5, hm5, hb5⟩; have HN5 := Lib.hid hn5; have HR5 := Lib.hid hr5; have HC5 : Hid (n5 ≤ c5 ∧ c5 ≤ maxLen) := Lib.hid ⟨hc5, hm5⟩; clear hn5 hr5 hc5 hm5; clear hca4 hcb4 hlt4; have HRD5_4 : Hid (Rd w5 A4 (iv r)) := Lib.hid (HR4.out.below hb5); have HX5 : Hid (Blk w5 w.heap.size (iv [a, b]) 30 ∧ Below w.heap.size w w5) := Lib.hid ⟨HX4.out.1.below hb5 HX4.out.1.lt, below_next HX4.out.2 hb5⟩; have hca5 : w5.cell? ⟨w.heap.size, 0, none⟩ = some (.int .i64 a) := HX5.out.1.cell rfl; have hcb5 : w5.cell? ⟨w.heap.size, 1, none⟩ = some (.int .i64 b) := HX5.out.1.cell rfl; have hlt5 : w.heap.size < w5.heap.size := HX5.out.1.lt; clear hb5)
          | ((with_reducible refine (dateText_any r HPr.out A4 n4 c4 HN4.out HC4.out.1 HC4.out.2 w5 HRD5_4.out (HK.out.below HX5.out.2)).mono ?_); rintro e w6 ⟨rfl, hb6⟩; have HX6 : Hid (Below w.heap.size w w6) := Lib.hid (below_next HX5.out.2 hb6); have HRD6_5 : Hid (Rd w6 A5 (iv q)) := Lib.hid (HR5.out.below hb6); clear hb6)
          | ((with_reducible refine (dateText_any q HPq.out A5 n5 c5 HN5.out HC5.out.1 HC5.out.2 w6 HRD6_5.out (HK.out.below HX6.out)).mono ?_); rintro e w7 ⟨rfl, hb7⟩; have HX7 : Hid (Below w.heap.size w w7) := Lib.hid (below_next HX6.out hb7); clear hb7))
        go_ret
        exact ⟨rfl, HX7.out⟩
theorem print_any (a b : Int) (w : World) (hK : KC w) : Calls Tryd.prog 28 #[.agg #[.int .i64 a, .int .i64 b]] w fun e w' => e = .returned (.string (tb (prt a b))) ∧ Below w.heap.size w w' := print_aux a b _ rfl w hK
end Go.Proofs.YtkaaejfochdjcaaDoor
