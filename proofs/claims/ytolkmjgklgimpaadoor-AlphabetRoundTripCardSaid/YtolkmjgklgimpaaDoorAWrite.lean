/-
  alphabet.Write, Safe, Fold; slices.Equal.
-/
import Derived.Test.YtolkmjgklgimpaaDoorARead
namespace Go.Proofs.YtolkmjgklgimpaaDoor
open Go.RowKit
open Alp
set_option linter.unusedVariables false
set_option linter.unusedSimpArgs false

/-- The cells of a list of numbers that lies from b, o on. -/
def IL (w : World) (b o : Nat) (l : List Int) : Prop := ∀ k, k < l.length → w.cell? ⟨b, o + k, none⟩ = some (.int .i64 (l.getD k 0))
theorem il_open {w : World} {A : Option Addr} {l : List Int} (h : Rd w A (iv l)) (hn : l ≠ []) : ∃ b o, A = some ⟨b, o, none⟩ ∧ IL w b o l := by
  obtain ⟨b, o, hA, hc⟩ := h.open (iv_ne hn)
  exact ⟨b, o, hA, fun k hk => hc k _ (iv_get hk)⟩
theorem IL.below {w w' : World} {b o : Nat} {l : List Int} (h : IL w b o l) (hb : Below w.heap.size w w') : IL w' b o l := fun k hk => by
  have h1 := h k hk
  exact (hb.cell (p := ⟨b, o + k, none⟩) (World.block_lt_of_cell? w _ h1)).trans h1
theorem IL.at {w w' : World} {b o : Nat} {l : List Int} (h : IL w b o l) (hb : Below w.heap.size w w') {k : Nat} (hk : k < l.length) {x : Int} (hx : x = l.getD k 0) : w'.cell? ⟨b, o + k, none⟩ = some (.int .i64 x) := by subst hx; exact h.below hb k hk
theorem drop_getD {l : List Int} {k : Nat} (hk : k < l.length) {x : Int} (hx : x = l.getD k 0) : l.drop k = x :: l.drop (k + 1) := by
  rw [List.drop_eq_getElem_cons hk, hx]
  simp [List.getD, hk]
def WPost (w : World) (R : B × Int) (e : Ending) (w' : World) : Prop := e = .returned (.tuple #[.string (tb R.1), .int .i64 R.2]) ∧ Below w.heap.size w w'
theorem w_out {w w' : World} {R : B × Int} {e : Ending} (h : WPost w R e w') : e = .returned (.tuple #[.string (tb R.1), .int .i64 R.2]) ∧ Below w.heap.size w w' := h
theorem wrG_cons (L : List Lt) (x : Int) (t : List Int) : wrG L (x :: t) = if 0 ≤ x ∧ x < L.length then (wrG L t).map ((L.getD x.toNat z).text ++ ·) else none := rfl
def wrR (r : Option B) : B × Int := match r with | some s => (s, 0) | none => ([], 5)
theorem writeP_no {L : List Lt} (h : valP L = false) (w : List Int) : writeP L w = ([], 1) := by unfold writeP; rw [h]; rfl
theorem writeP_yes {L : List Lt} (h : valP L = true) (w : List Int) : writeP L w = wrR (wrG L w) := by rw [writeP_val h]; rfl
set_option maxRecDepth 100000 in
theorem write_no (L : List Lt) (x : Value) (A : Option Addr) (n c : Nat) (hn : n = L.length) (hc : n ≤ c) (hm : c ≤ maxLen) (hs : ∀ l ∈ L, l.text.length ≤ maxLen) (hV : valP L = false) (w : World) (hr : Rd w A (lv L)) :
    Calls Tryd.prog 17 #[.slice A n c, x] w (WPost w ([], 1)) := by
  have HC := Lib.hid (valid_any L A n c hn hc hm hs false hV.symm w hr)
  clear hn hr hs hV
  go_enter Tryd.func17, Tryd.ntmps17
  go_wp2_with ((with_reducible refine HC.out.mono ?_); rintro e w1 hb1; obtain ⟨rfl, hb2⟩ := boolb_out hb1; have HB := Lib.hid hb2; clear hb1 hb2)
  go_ret2
  exact ⟨rfl, HB.out⟩
/-- What Write keeps in its loop. -/
def WrI (w1 : World) (L : List Lt) (ws : List Int) (R : Option B) (k : Nat) (v : Value) (D : B) (wr : World) : Prop :=
  wr.ownsRow w1.heap.size 5 1 v D.length (bs D) ∧ Below w1.heap.size w1 wr ∧ D.length ≤ 4 * k ∧ R = (wrG L (ws.drop k)).map (D ++ ·)
set_option maxRecDepth 100000 in
set_option maxHeartbeats 2000000 in
theorem write_aux (L : List Lt) (ws : List Int) (m : Nat) (hq : m = ws.length) (hq2 : m ≤ 1000000) (R : Option B) (hR : R = wrG L ws) (b o : Nat) (n c : Nat) (hn : n = L.length) (hc : n ≤ c) (hm : c ≤ maxLen) (hs : ∀ l ∈ L, l.text.length ≤ maxLen) (hV : valP L = true)
    (Aw : Option Addr) (cw : Nat) (hcw : m ≤ cw) (hmw : cw ≤ maxLen) (w : World) (hr : Rd w (some ⟨b, o, none⟩) (lv L)) (hl : RL w b o L) (bw ow : Nat) (hA : m = 0 ∨ Aw = some ⟨bw, ow, none⟩ ∧ IL w bw ow ws) :
    Calls Tryd.prog 17 #[.slice (some ⟨b, o, none⟩) n c, .slice Aw m cw] w (WPost w (wrR R)) := by
  have HC := Lib.hid (valid_any L (some ⟨b, o, none⟩) n c hn hc hm hs true hV.symm w hr)
  obtain ⟨i0, hi0, hz0, hz1, hz2⟩ := info_parts Tryd.infoByte
  have hm' : c ≤ 9223372036854775807 := by unfold maxLen at hm; omega
  have hmw' : cw ≤ 9223372036854775807 := by unfold maxLen at hmw; omega
  have HN := Lib.hid hn
  have HQ := Lib.hid hq
  have HR := Lib.hid hR
  have HV := Lib.hid hV
  have HL := Lib.hid hl
  have HA := Lib.hid hA
  clear hn hr hs hV hq hR hl hA
  go_enter Tryd.func17, Tryd.ntmps17
  go_wp2_with ((with_reducible refine HC.out.mono ?_); rintro e w1 hb1; obtain ⟨rfl, hb2⟩ := boolb_out hb1; have HB := Lib.hid hb2; clear hb1 hb2)
  go_loopg [6, 8, 14] m (fun g s6 s8 s14 wr => ∃ (k : Nat) (D : B), k + g = m ∧ s14 = .int .i64 (k : Int) ∧ Hid (WrI w1 L ws R k s6 D wr))
  case atStart => exact ⟨0, [], by omega, rfl, Lib.hid ⟨⟨rfl, .inl ⟨rfl, rfl⟩⟩, Below.refl _ _, Nat.le_refl _, by rw [HR.out]; simp⟩⟩
  case round =>
    obtain ⟨k, D, hk, rfl, HI⟩ := hrel
    obtain ⟨A2, c2, hv, hrd, hmc, hcm⟩ := Rd.of_own HI.out.1
    subst hv
    have HRD := Lib.hid hrd
    clear hrd
    by_cases hlt : k < m
    · obtain ⟨g, rfl⟩ : ∃ g, gk = g + 1 := ⟨gk - 1, by omega⟩
      obtain ⟨x, hx⟩ : ∃ x, x = ws.getD k 0 := ⟨_, rfl⟩
      have hkw : k < ws.length := by rw [← HQ.out]; exact hlt
      obtain ⟨rfl, hil⟩ : Aw = some ⟨bw, ow, none⟩ ∧ IL w bw ow ws := by
        rcases HA.out with h | h
        · omega
        · exact h
      have hcx : wr.cell? ⟨bw, ow + k, none⟩ = some (.int .i64 x) := hil.at (below_next HB.out HI.out.2.1) hkw hx
      have HD : Hid (ws.drop k = x :: ws.drop (k + 1)) := Lib.hid (drop_getD hkw hx)
      clear hx hil
      by_cases h0 : 0 ≤ x ∧ x < n
      · have HH : Hid (∀ W, Calls Tryd.prog 37 #[.slice (some ⟨b, o, none⟩) n c, .int .i64 x] W fun e w' => e = .returned (.bool true) ∧ W = w') := Lib.hid fun W => has_any _ n c x W true (by rw [decide_eq_true h0])
        obtain ⟨i, rfl⟩ : ∃ i : Nat, x = i := ⟨x.toNat, by omega⟩
        have hin : i < n := by omega
        obtain ⟨l, hle⟩ : ∃ l, l = L.getD i z := ⟨_, rfl⟩
        have hct : wr.cell? ⟨b, o + i * 5, none⟩ = some (.string (tb l.text)) := (HL.out.below (below_next HB.out HI.out.2.1)).c0 (by rw [← HN.out]; exact hin) hle
        have hlen : l.text.length ≤ 4 := by rw [hle]; exact (val_plain HV.out (getD_mem (by rw [← HN.out]; exact hin))).2.1
        have HW : Hid (R = (wrG L (ws.drop (k + 1))).map ((D ++ l.text) ++ ·)) := Lib.hid (by
          rw [HI.out.2.2.2, HD.out, wrG_cons, if_pos ⟨by omega, by rw [← HN.out]; omega⟩, Int.toNat_natCast, ← hle, Option.map_map]
          congr 1
          funext s
          simp)
        have hDk := HI.out.2.2.1
        have hs1 : D.length + l.text.length ≤ maxLen := by unfold maxLen; omega
        have hs2 : (D.length + l.text.length) * 1 ≤ 140737488355328 := by omega
        clear h0 hle
        go_wp2_with (first
          | ((with_reducible refine (HH.out _).mono ?_); rintro e w2 ⟨rfl, rfl⟩)
          | (at_builtin; refine wpList_own_src rfl (.tmp 22) (.tmp 27) 46 9 rfl w1.heap.size 5 i0 _ 1 1 Tryd.underlying46 hi0 hz0 hz1 hz2 rfl _ _ _ rfl HI.out.1 _ l.text.length (bs l.text) rfl ?_ hs1 hs2 HI.out.2.1.size ?_; (rw [hz1]; have := Src.ofString (w := wr) Tryd.underlying9 (tb l.text); rwa [tb_size] at this); intro v4 w4 hown4 hg4 hat4; have HX4 : Hid (w4.ownsRow w1.heap.size 5 1 v4 (D.length + l.text.length) (bs D ++ bs l.text) ∧ Below w1.heap.size w1 w4) := Lib.hid ⟨hown4, below_own HI.out.2.1 hg4 (fun g hg => (HI.out.1.lt _ hg).1)⟩; clear hown4 hg4 hat4))
        go_roundg g
        case rel => exact ⟨k + 1, D ++ l.text, by omega, by go_num, Lib.hid ⟨by rw [bs_append, List.length_append]; exact HX4.out.1, HX4.out.2, by rw [List.length_append]; omega, HW.out⟩⟩
        case measure => omega
      · have HH : Hid (∀ W, Calls Tryd.prog 37 #[.slice (some ⟨b, o, none⟩) n c, .int .i64 x] W fun e w' => e = .returned (.bool false) ∧ W = w') := Lib.hid fun W => has_any _ n c x W false (by rw [decide_eq_false h0])
        have HRE : Hid (R = none) := Lib.hid (by rw [HI.out.2.2.2, HD.out, wrG_cons, if_neg (by rw [← HN.out]; exact h0)]; rfl)
        clear h0
        go_wp2_with ((with_reducible refine (HH.out _).mono ?_); rintro e w2 ⟨rfl, rfl⟩)
        go_ret2
        rw [HRE.out]
        exact ⟨rfl, below_next HB.out HI.out.2.1⟩
    · obtain rfl : k = m := by omega
      have HRE : Hid (R = some D) := Lib.hid (by rw [HI.out.2.2.2, List.drop_of_length_le (by rw [← HQ.out]; exact Nat.le_refl _)]; simp [wrG])
      have hcv := conv_rd (P := Tryd.prog) Tryd.underlying46 Tryd.underlying5 Tryd.underlying9 HRD.out c2
      go_wp2_with fail
      go_ret2
      rw [HRE.out]
      exact ⟨rfl, below_next HB.out HI.out.2.1⟩
theorem write_any (L : List Lt) (ws : List Int) (hq2 : ws.length ≤ 1000000) (A : Option Addr) (n c : Nat) (hn : n = L.length) (hc : n ≤ c) (hm : c ≤ maxLen) (hs : ∀ l ∈ L, l.text.length ≤ maxLen)
    (Aw : Option Addr) (m cw : Nat) (hmn : m = ws.length) (hcw : m ≤ cw) (hmw : cw ≤ maxLen) (R : B × Int) (hR : R = writeP L ws) (w : World) (hr : Rd w A (lv L)) (hrw : Rd w Aw (iv ws)) :
    Calls Tryd.prog 17 #[.slice A n c, .slice Aw m cw] w (WPost w R) := by
  cases hV : valP L
  · rw [hR, writeP_no hV]
    exact write_no L _ A n c hn hc hm hs hV w hr
  · rw [hR, writeP_yes hV]
    obtain ⟨b, o, rfl, hl⟩ := rl_open hr (by intro e; subst e; simp [valP] at hV)
    by_cases h0 : ws = []
    · exact write_aux L ws m hmn (by omega) _ rfl b o n c hn hc hm hs hV Aw cw hcw hmw w hr hl 0 0 (.inl (by rw [hmn, h0]; rfl))
    · obtain ⟨bw, ow, hA, hil⟩ := il_open hrw h0
      exact write_aux L ws m hmn (by omega) _ rfl b o n c hn hc hm hs hV Aw cw hcw hmw w hr hl bw ow (.inr ⟨hA, hil⟩)
end Go.Proofs.YtolkmjgklgimpaaDoor
