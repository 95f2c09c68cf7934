/-
  alphabet.Read.
-/
import Derived.Test.YtalladdmedmfeaaANums
namespace Go.Proofs.Ytalladdmedmfeaa
open Go.RowKit
open Alp
set_option linter.unusedVariables false
set_option linter.unusedSimpArgs false

theorem tb_sub (l : List UInt8) (a b : Nat) : (tb l).extract a b = tb ((l.drop a).take (b - a)) := by
  apply ByteArray.ext
  apply Array.ext'
  simp [tb, ByteArray.data_extract]
/-- A list of numbers and a number. -/
def RPost (w : World) (R : List Int × Int) (e : Ending) (w' : World) : Prop := ∃ (A : Option Addr) (c n : Nat), e = .returned (.tuple #[.slice A n c, .int .i64 R.2]) ∧ n = R.1.length ∧ Rd w' A (iv R.1) ∧ n ≤ c ∧ c ≤ maxLen ∧ Below w.heap.size w w'
theorem r_out {w w' : World} {R : List Int × Int} {e : Ending} (h : RPost w R e w') : ∃ (A : Option Addr) (c n : Nat), e = .returned (.tuple #[.slice A n c, .int .i64 R.2]) ∧ n = R.1.length ∧ Rd w' A (iv R.1) ∧ n ≤ c ∧ c ≤ maxLen ∧ Below w.heap.size w w' := h
set_option maxRecDepth 100000 in
theorem read_no (L : List Lt) (s : B) (A : Option Addr) (n c : Nat) (hn : n = L.length) (hc : n ≤ c) (hm : c ≤ maxLen) (hs : ∀ l ∈ L, l.text.length ≤ maxLen) (hV : valP L = false) (w : World) (hr : Rd w A (lv L)) :
    Calls Try.prog 34 #[.slice A n c, .string (tb s)] w (RPost w ([], 0)) := by
  have HC := Lib.hid (validNumbers_any L A n c hn hc hm hs false hV.symm w hr)
  clear hn hr hs hV
  go_enter Try.func34, Try.ntmps34
  go_wp2_with fail
  go_step3
  go_wp2_with ((with_reducible refine HC.out.mono ?_); rintro e w1 hb1; obtain ⟨m, rfl, hb2⟩ := vn_no hb1; have HB := Lib.hid hb2; clear hb1 hb2)
  try rw [Exit.noGoto_ret]
  go_ret2
  exact ⟨none, 0, 0, rfl, rfl, .inl rfl, Nat.le_refl _, Nat.zero_le _, HB.out⟩
/-- What Read keeps in its loops. -/
def RdI (w1 : World) (m : Nat) (L : List Lt) (s : B) (R : List Int × Int) (g p : Nat) (v : Value) (D : List Int) (wr : World) : Prop :=
  wr.ownsRow w1.heap.size 3 1 v D.length (iv D) ∧ MapIs wr m L ∧ Below w1.heap.size w1 wr ∧ D.length ≤ p ∧ R = (D ++ (readG (g + 1) L (s.drop p) p).1, (readG (g + 1) L (s.drop p) p).2)
set_option maxRecDepth 100000 in
set_option maxHeartbeats 2000000 in
theorem read_yes (L : List Lt) (s : B) (q : Nat) (hq : q = s.length) (hq2 : q ≤ 1000000) (R : List Int × Int) (hR : R = readG (q + 1) L s 0) (A : Option Addr) (n c : Nat) (hn : n = L.length) (hc : n ≤ c) (hm : c ≤ maxLen) (hs : ∀ l ∈ L, l.text.length ≤ maxLen) (hV : valP L = true) (w : World) (hr : Rd w A (lv L)) :
    Calls Try.prog 34 #[.slice A n c, .string (tb s)] w (RPost w R) := by
  have HC := Lib.hid (validNumbers_any L A n c hn hc hm hs true hV.symm w hr)
  have hsz : (tb s).size = q := by rw [tb_size, hq]
  obtain ⟨i0, hi0, hz0, hz1, hz2⟩ := info_parts Try.infoInt
  have HQ := Lib.hid hq
  have HR := Lib.hid hR
  have HV := Lib.hid hV
  clear hn hr hs hV hq hR
  go_enter Try.func34, Try.ntmps34
  go_wp2_with fail
  go_step3
  go_wp2_with ((with_reducible refine HC.out.mono ?_); rintro e w1 hb1; obtain ⟨m, rfl, hm1, hb2⟩ := vn_yes hb1; have HB := Lib.hid (And.intro hm1 hb2); clear hb1 hb2 hm1)
  go_step3
  go_wp2_with fail
  go_loopg [8, 9, 10, 11, 12] q (fun g s8 s9 s10 s11 s12 wr => ∃ (p : Nat) (D : List Int), p ≤ q ∧ q ≤ p + g ∧ s9 = .int .i64 (p : Int) ∧ Hid (RdI w1 m L s R g p s8 D wr))
  case atStart => exact ⟨0, [], by omega, by omega, rfl, Lib.hid ⟨⟨rfl, .inl ⟨rfl, rfl⟩⟩, HB.out.1, Below.refl _ _, Nat.le_refl _, HR.out⟩⟩
  case round =>
    obtain ⟨p, D, hp, hpg, rfl, HI⟩ := hrel
    obtain ⟨A2, c2, hv, hrd, hmc, hcm⟩ := Rd.of_own HI.out.1
    subst hv
    have HRD := Lib.hid hrd
    clear hrd
    by_cases hlt : p < q
    · obtain ⟨g, rfl⟩ : ∃ g, gk = g + 1 := ⟨gk - 1, by omega⟩
      have HS2 : Hid ((s.drop p).length = q - p ∧ s.drop p ≠ []) := Lib.hid ⟨by rw [List.length_drop, ← HQ.out], fun e => by have := congrArg List.length e; rw [List.length_drop, ← HQ.out, List.length_nil] at this; omega⟩
      obtain ⟨M, hM⟩ : ∃ M, M = min 4 (q - p) := ⟨_, rfl⟩
      have hMi : min 4 ((q : Int) - (p : Int)) = (M : Int) := by omega
      have HST : Hid (stepP L (s.drop p) = tr L (s.drop p) M) := Lib.hid (by unfold stepP; rw [HS2.out.1, hM])
      have hM4 : M ≤ 4 ∧ M ≤ q - p := by omega
      clear hM
      go_wp2_with fail
      go_loopg [8, 9, 10, 11, 12] M (fun j s8 s9 s10 s11 s12 wx => s8 = .slice A2 D.length c2 ∧ s9 = .int .i64 (p : Int) ∧ s10 = .int .i64 (j : Int) ∧ j ≤ M ∧ Hid (stepP L (s.drop p) = tr L (s.drop p) j) ∧ wx = wr)
      case atStart => exact ⟨rfl, rfl, rfl, Nat.le_refl _, HST, rfl⟩
      case round =>
        clear HST hMi
        obtain ⟨rfl, rfl, rfl, hjM, HST, rfl⟩ := hrel
        rcases Nat.eq_zero_or_pos gk with h0 | h0
        · subst h0
          have hst : stepP L (s.drop p) = none := HST.out.trans rfl
          have hRE : R = (D, (p : Int)) := by
            have := HI.out.2.2.2.2
            rw [readG_none HS2.out.2 hst] at this
            simpa using this
          have HE : Hid (RPost w R (.returned (.tuple #[.slice A2 D.length c2, .int .i64 (p : Int)])) wr) := Lib.hid ⟨A2, c2, D.length, by rw [hRE], by rw [hRE], by rw [hRE]; exact HRD.out, hmc, hcm, below_next HB.out.2 HI.out.2.2.1⟩
          clear hRE hst HST
          go_wp2_with fail
          try rw [Exit.noGoto_ret]
          go_ret2
          exact HE.out
        · obtain ⟨j, rfl⟩ : ∃ j, gk = j + 1 := ⟨gk - 1, by omega⟩
          obtain ⟨t, ht⟩ : ∃ t, t = (s.drop p).take (j + 1) := ⟨_, rfl⟩
          have HSB : Hid ((tb s).extract p (p + (j + 1)) = tb t) := Lib.hid (by rw [tb_sub, show p + (j + 1) - p = j + 1 by omega, ht])
          have HT : Hid (t.length ≤ maxLen) := Lib.hid (by rw [ht, List.length_take, List.length_drop]; unfold maxLen; omega)
          have HTE := Lib.hid ht
          have hDp : D.length ≤ p := HI.out.2.2.2.1
          clear ht
          cases hi : idx L t with
          | none =>
            have HT2 : Hid (stepP L (s.drop p) = tr L (s.drop p) j) := Lib.hid (by
              have := HST.out
              rw [tr, ← HTE.out, hi] at this
              exact this)
            have HI2 := Lib.hid hi
            clear hi HST hDp
            go_wp2_with (refine wpList_look rfl (.tmp 34) (.tmp 40) rfl m rfl HI.out.2.1 t HT.out (congrArg Value.string HSB.out) 0 false (by rw [HI2.out]; rfl) (by rw [HI2.out]; rfl) ?_)
            go_roundg j
            case rel => exact ⟨rfl, rfl, by go_num, by omega, HT2, rfl⟩
            case measure => omega
          | some i =>
            have HT2 : Hid (stepP L (s.drop p) = some (i, j + 1)) := Lib.hid (by
              have := HST.out
              rw [tr, ← HTE.out, hi] at this
              exact this)
            have HI2 := Lib.hid hi
            have hs1 : D.length + 1 ≤ maxLen := by unfold maxLen; omega
            have hs2 : (D.length + 1) * 8 ≤ 140737488355328 := by omega
            clear hi HST hDp
            go_wp2_with (first
              | (refine wpList_look rfl (.tmp 34) (.tmp 40) rfl m rfl HI.out.2.1 t HT.out (congrArg Value.string HSB.out) (i : Int) true (by rw [HI2.out]; rfl) (by rw [HI2.out]; rfl) ?_)
              | (at_builtin; refine wpList_own_src rfl (.tmp 45) (.tmp 47) 22 22 rfl w1.heap.size 3 i0 _ 1 8 Try.underlying22 hi0 hz0 hz1 hz2 rfl _ _ _ rfl (own_alc HI.out.1 _) _ 1 [.int .i64 (i : Int)] rfl (src_one Try.underlying22 hz1 _ _ _ rfl) hs1 hs2 (below_al HI.out.2.2.1 _).size ?_; intro v4 w4 hown4 hg4 hat4; have HX4 : Hid (w4.ownsRow w1.heap.size 3 1 v4 (D.length + 1) (iv D ++ [.int .i64 (i : Int)]) ∧ Below w1.heap.size w1 w4) := Lib.hid ⟨hown4, below_own (below_al HI.out.2.2.1 _) hg4 (fun g hg => (HI.out.1.lt _ hg).1)⟩; clear hown4 hg4 hat4))
            go_roundg g
            case rel =>
              refine ⟨p + (j + 1), D ++ [(i : Int)], by omega, by omega, by go_num, Lib.hid ⟨by rw [iv_snoc, List.length_append]; exact HX4.out.1, ?_, HX4.out.2, by rw [List.length_append]; have := HI.out.2.2.2.1; simp; omega, ?_⟩⟩
              · exact HB.out.1.below HX4.out.2
              · have := HI.out.2.2.2.2
                rw [readG_some HS2.out.2 HT2.out, List.drop_drop] at this
                rw [this, List.append_assoc]
                rfl
            case measure => omega
    · obtain rfl : p = q := by omega
      have hRE : R = (D, -1) := by
        have := HI.out.2.2.2.2
        rw [List.drop_of_length_le (by rw [← HQ.out]; exact Nat.le_refl _), readG_nil] at this
        simpa using this
      have HE : Hid (RPost w R (.returned (.tuple #[.slice A2 D.length c2, .int .i64 (-1)])) wr) := Lib.hid ⟨A2, c2, D.length, by rw [hRE], by rw [hRE], by rw [hRE]; exact HRD.out, hmc, hcm, below_next HB.out.2 HI.out.2.2.1⟩
      clear hRE
      go_wp2_with fail
      try rw [Exit.noGoto_ret]
      go_ret2
      exact HE.out
theorem read_any (L : List Lt) (s : B) (hq2 : s.length ≤ 1000000) (A : Option Addr) (n c : Nat) (hn : n = L.length) (hc : n ≤ c) (hm : c ≤ maxLen) (hs : ∀ l ∈ L, l.text.length ≤ maxLen) (R : List Int × Int) (hR : R = readP L s) (w : World) (hr : Rd w A (lv L)) :
    Calls Try.prog 34 #[.slice A n c, .string (tb s)] w (RPost w R) := by
  cases hV : valP L
  · have e : R = ([], 0) := by rw [hR]; unfold readP; rw [hV]; rfl
    rw [e]
    exact read_no L s A n c hn hc hm hs hV w hr
  · exact read_yes L s _ rfl hq2 R (by rw [hR, readP_val hV]) A n c hn hc hm hs hV w hr
end Go.Proofs.Ytalladdmedmfeaa
