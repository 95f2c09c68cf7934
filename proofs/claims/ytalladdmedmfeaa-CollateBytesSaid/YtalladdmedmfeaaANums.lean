/-
  alphabet.validNumbers, Valid.
-/
import Derived.Test.YtalladdmedmfeaaAValid
namespace Go.Proofs.Ytalladdmedmfeaa
open Go.RowKit
open Alp
set_option linter.unusedVariables false
set_option linter.unusedSimpArgs false

theorem wpList_mlen {w : World} {ops : Array Oper} {rest : List Oper} {o : Oper} {a : Act} {Q : Exit → Act → World → Prop} (hgd : o.guard = none) (m : Operand) (hop : o.op = Op.call { callee := Callee.builtin Builtin.len, args := #[m], argTypes := #[72] })
    (mb : Nat) (hm : a.eval m = .map (some mb)) {L : List Lt} (hM : MapIs w mb L)
    (h : ∀ s : Nat, s ≤ L.length → (s = L.length ↔ (texts L).Nodup) → wpList Try.prog ops Q rest (a.put o.dst (.int .i64 (s : Int))) w) : wpList Try.prog ops Q (o :: rest) a w := by
  obtain ⟨D, n, h1, _, _, _, h5, h6⟩ := hM
  exact wpList_len_own w hgd m 72 hop 9 3 Try.underlying72 _ mb n D hm h1 (h _ h5 h6)
theorem valP_size {L : List Lt} (h : L.length < 1 ∨ 60 < L.length) : valP L = false := by
  rw [Bool.eq_false_iff]
  intro e
  have := (valP_iff L).1 e
  omega
theorem valP_bad {L : List Lt} {k : Nat} (hk : k < L.length) (h : lOK L k = false) : valP L = false := by
  rw [Bool.eq_false_iff]
  intro e
  have := ((valP_iff L).1 e).2.2.1 k hk
  rw [h] at this
  cases this
theorem valP_twice {L : List Lt} (h : ¬ (texts L).Nodup) : valP L = false := by
  rw [Bool.eq_false_iff]
  intro e
  exact h ((valP_iff L).1 e).2.2.2
/-- What validNumbers answers. -/
def VnPost (w : World) (L : List Lt) (b : Bool) (e : Ending) (w' : World) : Prop := ∃ m, e = .returned (.tuple #[.map m, .bool b]) ∧ Below w.heap.size w w' ∧ (b = true → ∃ g, m = some g ∧ MapIs w' g L)
theorem vn_no {w w' : World} {L : List Lt} {e : Ending} (h : VnPost w L false e w') : ∃ m, e = .returned (.tuple #[.map m, .bool false]) ∧ Below w.heap.size w w' := by
  obtain ⟨m, h1, h2, _⟩ := h
  exact ⟨m, h1, h2⟩
theorem vn_yes {w w' : World} {L : List Lt} {e : Ending} (h : VnPost w L true e w') : ∃ m, e = .returned (.tuple #[.map (some m), .bool true]) ∧ MapIs w' m L ∧ Below w.heap.size w w' := by
  obtain ⟨_, h1, h2, h3⟩ := h
  obtain ⟨g, rfl, h4⟩ := h3 rfl
  exact ⟨g, h1, h4, h2⟩
set_option maxRecDepth 100000 in
theorem validNumbers_size (L : List Lt) (A : Option Addr) (n c : Nat) (hn : n < 1 ∨ 60 < n) (hc : n ≤ c) (hm : c ≤ maxLen) (w : World) :
    Calls Try.prog 54 #[.slice A n c] w (VnPost w L false) := by
  have hm' : c ≤ 9223372036854775807 := by unfold maxLen at hm; omega
  rcases hn with h | h
  · go_enter Try.func54, Try.ntmps54
    go_wp2_with fail
    go_ret2
    exact ⟨none, rfl, Below.refl _ _, fun h => by cases h⟩
  · go_enter Try.func54, Try.ntmps54
    go_wp2_with fail
    go_ret2
    exact ⟨none, rfl, Below.refl _ _, fun h => by cases h⟩
set_option maxRecDepth 100000 in
set_option maxHeartbeats 1000000 in
theorem validNumbers_aux (L : List Lt) (n b o c : Nat) (hn : n = L.length) (h1 : 1 ≤ n) (h2 : n ≤ 60) (hc : n ≤ c) (hm : c ≤ maxLen) (hs : ∀ l ∈ L, l.text.length ≤ maxLen) (V : Bool) (hV : V = valP L) (w : World) (hr : RL w b o L) :
    Calls Try.prog 54 #[.slice (some ⟨b, o, none⟩) n c] w (VnPost w L V) := by
  have hm' : c ≤ 9223372036854775807 := by unfold maxLen at hm; omega
  have HL : Hid (∀ k, k < n → ∀ W, Below w.heap.size w W → Calls Try.prog 66 #[.slice (some ⟨b, o, none⟩) n c, .int .i64 (k : Int)] W (BoolB W (lOK L k))) := Lib.hid fun k hk W hb => validLetter_any L n c b o k hn hk hc hm hs W (hr.below hb)
  have HM : Hid (∀ W, Below w.heap.size w W → Calls Try.prog 67 #[.slice (some ⟨b, o, none⟩) n c] W (MapPost W L)) := Lib.hid fun W hb => numbers_aux L n hn b o c hc hm hs W (hr.below hb)
  have HN := Lib.hid hn
  have HV := Lib.hid hV
  clear hn hV hr hs
  go_enter Try.func54, Try.ntmps54
  go_wp2_with fail
  go_loopg [4, 16] n (fun g s4 s16 wr => ∃ (k : Nat), k + g = n ∧ s16 = .int .i64 (k : Int) ∧ Hid ((∀ j, j < k → lOK L j = true) ∧ Below w.heap.size w wr))
  case atStart => exact ⟨0, by omega, rfl, Lib.hid ⟨fun j h => by omega, Below.refl _ _⟩⟩
  case round =>
    obtain ⟨k, hk, rfl, HI⟩ := hrel
    by_cases hlt : k < n
    · obtain ⟨g, rfl⟩ : ∃ g, gk = g + 1 := ⟨gk - 1, by omega⟩
      have HC := Lib.hid (HL.out k hlt wr HI.out.2)
      cases hl : lOK L k
      · rw [hl] at HC
        have HE : Hid (V = false) := Lib.hid (by rw [HV.out]; exact valP_bad (by rw [← HN.out]; exact hlt) hl)
        clear hl
        go_wp2_with ((with_reducible refine HC.out.mono ?_); rintro e w1 hb1; obtain ⟨rfl, hb2⟩ := boolb_out hb1; have HB : Hid (Below w.heap.size w w1) := Lib.hid (below_next HI.out.2 hb2); clear hb1 hb2)
        go_ret2
        rw [HE.out]
        exact ⟨none, rfl, HB.out, fun h => by cases h⟩
      · rw [hl] at HC
        have HE := Lib.hid hl
        clear hl
        go_wp2_with ((with_reducible refine HC.out.mono ?_); rintro e w1 hb1; obtain ⟨rfl, hb2⟩ := boolb_out hb1; have HB : Hid (Below w.heap.size w w1) := Lib.hid (below_next HI.out.2 hb2); clear hb1 hb2)
        go_roundg g
        case rel => exact ⟨k + 1, by omega, by go_num, Lib.hid ⟨fun j hj => by
          rcases Nat.lt_or_ge j k with h | h
          · exact HI.out.1 j h
          · obtain rfl : j = k := by omega
            exact HE.out, HB.out⟩⟩
        case measure => omega
    · obtain rfl : k = n := by omega
      have HC := Lib.hid (HM.out wr HI.out.2)
      go_wp2_with (first
        | ((with_reducible refine HC.out.mono ?_); rintro e w1 hb1; obtain ⟨m, rfl, hm1, hm2, hb2⟩ := map_out hb1; have HB : Hid (MapIs w1 m L ∧ Below w.heap.size w w1) := Lib.hid ⟨hm2, below_next HI.out.2 hb2⟩; clear hb1 hb2 hm1 hm2)
        | (at_len; refine wpList_mlen rfl (.tmp 27) rfl m rfl HB.out.1 ?_; intro s hs1 hs2; have HS := Lib.hid (And.intro hs1 hs2); clear hs1 hs2))
      go_ret2
      have hv : V = decide ((s : Int) = (k : Int)) := by
        rw [HV.out]
        by_cases hd : (texts L).Nodup
        · rw [(valP_iff L).2 ⟨by rw [← HN.out]; exact h1, by rw [← HN.out]; exact h2, fun j hj => HI.out.1 j (by rw [HN.out]; exact hj), hd⟩, decide_eq_true]
          have := HS.out.2.2 hd
          have := HN.out
          omega
        · rw [valP_twice hd, decide_eq_false]
          intro e
          exact hd (HS.out.2.1 (by have := HN.out; omega))
      refine ⟨some m, ?_, HB.out.2, fun _ => ⟨m, rfl, HB.out.1⟩⟩
      rw [hv]
      rfl
theorem validNumbers_any (L : List Lt) (A : Option Addr) (n c : Nat) (hn : n = L.length) (hc : n ≤ c) (hm : c ≤ maxLen) (hs : ∀ l ∈ L, l.text.length ≤ maxLen) (V : Bool) (hV : V = valP L) (w : World) (hr : Rd w A (lv L)) :
    Calls Try.prog 54 #[.slice A n c] w (VnPost w L V) := by
  by_cases h0 : n < 1 ∨ 60 < n
  · rw [hV, valP_size (by rw [← hn]; exact h0)]
    exact validNumbers_size L A n c h0 hc hm w
  · obtain ⟨b, o, rfl, h⟩ := rl_open hr (by intro e; subst e; simp at hn; omega)
    exact validNumbers_aux L n b o c hn (by omega) (by omega) hc hm hs V hV w h
set_option maxRecDepth 100000 in
theorem valid_any (L : List Lt) (A : Option Addr) (n c : Nat) (hn : n = L.length) (hc : n ≤ c) (hm : c ≤ maxLen) (hs : ∀ l ∈ L, l.text.length ≤ maxLen) (V : Bool) (hV : V = valP L) (w : World) (hr : Rd w A (lv L)) :
    Calls Try.prog 43 #[.slice A n c] w (BoolB w V) := by
  have HC := Lib.hid (validNumbers_any L A n c hn hc hm hs V hV w hr)
  clear hn hr hs
  cases V
  · clear hV
    go_enter Try.func43, Try.ntmps43
    go_wp2_with ((with_reducible refine HC.out.mono ?_); rintro e w1 hb1; obtain ⟨m, rfl, hb2⟩ := vn_no hb1; have HB := Lib.hid hb2; clear hb1 hb2)
    go_ret
    exact ⟨rfl, HB.out⟩
  · clear hV
    go_enter Try.func43, Try.ntmps43
    go_wp2_with ((with_reducible refine HC.out.mono ?_); rintro e w1 hb1; obtain ⟨m, rfl, _, hb2⟩ := vn_yes hb1; have HB := Lib.hid hb2; clear hb1 hb2)
    go_ret
    exact ⟨rfl, HB.out⟩
end Go.Proofs.Ytalladdmedmfeaa
