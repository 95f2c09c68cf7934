/-
  The reference's Word and Text.
-/
import Derived.Test.YtalladdmedmfeaaAGen
namespace Go.Proofs.Ytalladdmedmfeaa
open Go.RowKit
open Alp
set_option linter.unusedVariables false
set_option linter.unusedSimpArgs false

theorem word_step {L : List Lt} {l : List Int} {k : Nat} (hk : k < l.length) (h12 : k < 12) {x : Int} (hx : x = l.getD k 0) : wordP L (l.take (k + 1)) = wordP L (l.take k) ++ [arP x (L.length : Int)] := by
  unfold wordP
  rw [List.take_take, List.take_take, show min 12 (k + 1) = k + 1 by omega, show min 12 k = k by omega, List.take_succ_eq_append_getElem hk, List.map_append]
  simp [hx, List.getD, hk]
theorem word_all {L : List Lt} {l : List Int} {k : Nat} (h : k = l.length ∨ k = 12) : wordP L (l.take k) = wordP L l := by
  unfold wordP
  rw [List.take_take]
  rcases h with h | h
  · subst h
    rcases Nat.le_total 12 l.length with h | h
    · rw [show min 12 l.length = 12 by omega]
    · rw [show min 12 l.length = l.length by omega, List.take_length, List.take_of_length_le h]
  · subst h
    rw [show min 12 12 = 12 by omega]
theorem text_step {L : List Lt} {l : List Int} {k : Nat} (hk : k < l.length) (h40 : k < 40) {x : Int} (hx : x = l.getD k 0) : textP L (l.take (k + 1)) = textP L (l.take k) ++ pieceP L x := by
  unfold textP
  rw [List.take_take, List.take_take, show min 40 (k + 1) = k + 1 by omega, show min 40 k = k by omega, List.take_succ_eq_append_getElem hk, List.flatMap_append]
  simp [hx, List.getD, hk]
theorem text_all {L : List Lt} {l : List Int} {k : Nat} (h : k = l.length ∨ k = 40) : textP L (l.take k) = textP L l := by
  unfold textP
  rw [List.take_take]
  rcases h with h | h
  · subst h
    rcases Nat.le_total 40 l.length with h | h
    · rw [show min 40 l.length = 40 by omega]
    · rw [show min 40 l.length = l.length by omega, List.take_length, List.take_of_length_le h]
  · subst h
    rw [show min 40 40 = 40 by omega]
theorem extra_cell (w : World) (e : Nat) (he : e < 8) : (w.alloc (.cells #[.string ⟨#[32]⟩, .string ⟨#[45]⟩, .string ⟨#[49]⟩, .string ⟨#[122]⟩, .string ⟨#[115, 115]⟩, .string ⟨#[99]⟩, .string ⟨#[195]⟩, .string ⟨#[10]⟩] 9)).cell? ⟨w.heap.size, e, none⟩ = some (.string (tb (extraT e))) :=
  (Blk.at w (tv extras) _ 9 _ rfl rfl).cell (tv_get extras e he)
def TxPost (w : World) (s : B) (e : Ending) (w' : World) : Prop := e = .returned (.string (tb s)) ∧ Below w.heap.size w w'
theorem tx_out {w w' : World} {s : B} {e : Ending} (h : TxPost w s e w') : e = .returned (.string (tb s)) ∧ Below w.heap.size w w' := h
set_option maxRecDepth 100000 in
set_option maxHeartbeats 4000000 in
theorem text_aux (L : List Lt) (hv : valP L = true) (bl ol : Nat) (q cq : Nat) (hq : q = L.length) (hcq : q ≤ cq) (hcq2 : cq ≤ maxLen) (l : List Int) (A : Option Addr) (n c : Nat) (hn : n = l.length) (hc : n ≤ c) (hcm : c ≤ maxLen) (hi : ∀ x ∈ l, inI x) (w : World) (hrl : RL w bl ol L) (b o : Nat) (hA : n = 0 ∨ (A = some ⟨b, o, none⟩ ∧ IL w b o l)) :
    Calls Try.prog 35 #[.slice (some ⟨bl, ol, none⟩) q cq, .slice A n c] w (TxPost w (textP L l)) := by
  have hm' : c ≤ 9223372036854775807 := by unfold maxLen at hcm; omega
  have hq' : cq ≤ 9223372036854775807 := by unfold maxLen at hcq2; omega
  have hq1 : 1 ≤ q ∧ q ≤ 60 := by rw [hq]; exact ⟨((valP_iff L).1 hv).1, ((valP_iff L).1 hv).2.1⟩
  obtain ⟨hq1, hq60⟩ := hq1
  have HN := Lib.hid hn
  have HQ := Lib.hid hq
  have HA := Lib.hid hA
  have HIN := Lib.hid hi
  have HRL := Lib.hid hrl
  have HV := Lib.hid hv
  clear hn hq hA hi hrl hv
  go_enter Try.func35, Try.ntmps35
  go_wp2_with fail
  go_loopg [5, 6, 7] 41 (fun g s5 s6 s7 wr => ∃ (k : Nat) (D : B), k + g = 41 ∧ k ≤ n ∧ k ≤ 40 ∧ s6 = .int .i64 (k : Int) ∧ s5 = .string (tb D) ∧ Hid (D = textP L (l.take k) ∧ Below w.heap.size w wr))
  case atStart => exact ⟨0, [], by omega, by omega, by omega, rfl, rfl, Lib.hid ⟨by simp [textP], Below.refl _ _⟩⟩
  case round =>
    obtain ⟨k, D, hk, hkn, hk40, rfl, rfl, HI⟩ := hrel
    have HBW : Hid (Below w.heap.size w wr) := Lib.hid HI.out.2
    have HDL : Hid (D.length ≤ 160) := Lib.hid (by rw [HI.out.1]; exact textP_len HV.out _)
    by_cases hlt : k < n
    · by_cases h40 : k < 40
      · obtain ⟨g, rfl⟩ : ∃ g, gk = g + 1 := ⟨gk - 1, by omega⟩
        obtain ⟨x, hx⟩ : ∃ x, x = l.getD k 0 := ⟨_, rfl⟩
        have hkl : k < l.length := by rw [← HN.out]; exact hlt
        obtain ⟨rfl, hil⟩ : A = some ⟨b, o, none⟩ ∧ IL w b o l := by
          rcases HA.out with h | h
          · omega
          · exact h
        have hcx : wr.cell? ⟨b, o + k, none⟩ = some (.int .i64 x) := hil.at HI.out.2 hkl hx
        have hxi : inI x := by rw [hx]; exact HIN.out _ (by simp [List.getD, hkl])
        obtain ⟨y, hy⟩ : ∃ y, y = arP x ((q : Int) + 14) := ⟨_, rfl⟩
        have hyb : 0 ≤ y ∧ y < (q : Int) + 14 := by rw [hy]; exact arP_bd x (by omega)
        have HR : Hid (∀ W, Calls Try.prog 27 #[.int .i64 x, .int .i64 ((q : Int) + 14)] W fun e w' => e = .returned (.int .i64 y) ∧ W = w') := Lib.hid fun W => by rw [hy]; exact raround_any x _ hxi.1 hxi.2 (by omega) (by omega) W
        have HW : Hid (textP L (l.take (k + 1)) = D ++ pieceP L x) := Lib.hid (by rw [text_step hkl h40 hx, ← HI.out.1])
        have HPN : Hid (pieceN L x = if (q : Int) + 2 ≤ y then (y - q - 2) % (q : Int) else y) := Lib.hid (by unfold pieceN; rw [← HQ.out, ← hy])
        have hd40 : decide ((k : Int) < 40) = true := decide_eq_true (by omega)
        have hxd : inI (x.tdiv 64) := by
          have h1 := Int.mul_tdiv_add_tmod x 64
          have h2 := Int.tmod_lt_of_pos x (b := 64) (by omega)
          have h3 : -64 < x.tmod 64 := by
            have := Int.tmod_lt_of_pos (-x) (b := 64) (by omega)
            rw [Int.neg_tmod] at this
            omega
          obtain ⟨h4, h5⟩ := hxi
          unfold inI
          omega
        have hwr : wrap64 (x.tdiv 64) = x.tdiv 64 := by
          obtain ⟨h1, h2⟩ := hxd
          unfold wrap64
          omega
        obtain ⟨e8, he8⟩ : ∃ e : Nat, arP (x.tdiv 64) 8 = e := ⟨_, (Int.toNat_of_nonneg (arP_bd _ (by omega)).1).symm⟩
        have he8b : e8 < 8 := by have := (arP_bd (x.tdiv 64) (m := 8) (by omega)).2; omega
        have HR8 : Hid (∀ W, Calls Try.prog 27 #[.int .i64 (x.tdiv 64), .int .i64 8] W fun e w' => e = .returned (.int .i64 (e8 : Int)) ∧ W = w') := Lib.hid fun W => by rw [← he8]; exact raround_any _ 8 hxd.1 hxd.2 (by omega) (by omega) W
        have HPP : Hid (pieceP L x = if pieceN L x < (q : Int) then (L.getD (pieceN L x).toNat z).text else extraT e8) := Lib.hid (by unfold pieceP; rw [← HQ.out, he8, Int.toNat_natCast])
        clear hx hil hxd hy he8
        by_cases hge : (q : Int) + 2 ≤ y
        · obtain ⟨m, hm⟩ : ∃ m : Nat, (y - q - 2) % (q : Int) = m := ⟨_, (Int.toNat_of_nonneg (Int.emod_nonneg _ (by omega))).symm⟩
          have hmq : m < q := by have := Int.emod_lt_of_pos (y - q - 2) (show (0 : Int) < q by omega); omega
          have htm : (y - (q : Int) - 2).tmod (q : Int) = (m : Int) := by rw [Int.tmod_eq_emod_of_nonneg (by omega), hm]
          obtain ⟨t, ht⟩ : ∃ t, t = L.getD m z := ⟨_, rfl⟩
          have hct : wr.cell? ⟨bl, ol + m * 5, none⟩ = some (.string (tb t.text)) := (HRL.out.below HI.out.2).c0 (by rw [← HQ.out]; exact hmq) ht
          have htl : t.text.length ≤ 4 := by rw [ht]; exact (val_plain HV.out (getD_mem (by rw [← HQ.out]; exact hmq))).2.1
          have HT : Hid (pieceP L x = t.text) := Lib.hid (by rw [HPP.out, HPN.out, if_pos hge, hm, if_pos (by omega), Int.toNat_natCast, ht])
          have hcat := fun W => cat_tb (P := Try.prog) (a := D) (b := t.text) rfl (by rw [List.length_append]; have := HDL.out; omega) W
          clear hm ht htl
          go_wp2_with ((with_reducible refine (HR.out _).mono ?_); rintro e w0 ⟨rfl, rfl⟩)
          go_roundg g
          case rel => exact ⟨k + 1, _, by omega, by omega, by omega, by go_num, rfl, Lib.hid ⟨by rw [HW.out, HT.out], HI.out.2⟩⟩
          case measure => omega
        · by_cases hlq : y < (q : Int)
          · obtain ⟨m, rfl⟩ : ∃ m : Nat, y = m := ⟨y.toNat, by omega⟩
            have hmq : m < q := by omega
            obtain ⟨t, ht⟩ : ∃ t, t = L.getD m z := ⟨_, rfl⟩
            have hct : wr.cell? ⟨bl, ol + m * 5, none⟩ = some (.string (tb t.text)) := (HRL.out.below HI.out.2).c0 (by rw [← HQ.out]; exact hmq) ht
            have htl : t.text.length ≤ 4 := by rw [ht]; exact (val_plain HV.out (getD_mem (by rw [← HQ.out]; exact hmq))).2.1
            have HT : Hid (pieceP L x = t.text) := Lib.hid (by rw [HPP.out, HPN.out, if_neg hge, if_pos hlq, Int.toNat_natCast, ht])
            have hcat := fun W => cat_tb (P := Try.prog) (a := D) (b := t.text) rfl (by rw [List.length_append]; have := HDL.out; omega) W
            have hge2 : decide ((q : Int) + 2 ≤ (m : Int)) = false := decide_eq_false hge
            clear ht htl
            go_wp2_with ((with_reducible refine (HR.out _).mono ?_); rintro e w0 ⟨rfl, rfl⟩)
            go_roundg g
            case rel => exact ⟨k + 1, _, by omega, by omega, by omega, by go_num, rfl, Lib.hid ⟨by rw [HW.out, HT.out], HI.out.2⟩⟩
            case measure => omega
          · have HT : Hid (pieceP L x = extraT e8) := Lib.hid (by rw [HPP.out, HPN.out, if_neg hge, if_neg hlq])
            have hce := extra_cell wr e8 he8b
            have hcx2 : (wr.alloc (.cells #[.string ⟨#[32]⟩, .string ⟨#[45]⟩, .string ⟨#[49]⟩, .string ⟨#[122]⟩, .string ⟨#[115, 115]⟩, .string ⟨#[99]⟩, .string ⟨#[195]⟩, .string ⟨#[10]⟩] 9)).cell? ⟨b, o + k, none⟩ = some (.int .i64 x) := (World.cell?_alloc_lt wr _ ⟨b, o + k, none⟩ (World.block_lt_of_cell? wr _ hcx)).trans hcx
            have hcat := fun W => cat_tb (P := Try.prog) (a := D) (b := extraT e8) rfl (by rw [List.length_append]; have := HDL.out; have := extraT_len e8; omega) W
            have hge2 : decide ((q : Int) + 2 ≤ y) = false := decide_eq_false hge
            have hlq2 : decide (y < (q : Int)) = false := decide_eq_false hlq
            go_wp2_with (first
              | ((with_reducible refine (HR.out _).mono ?_); rintro e w0 ⟨rfl, rfl⟩)
              | ((with_reducible refine (HR8.out _).mono ?_); rintro e w0 ⟨rfl, rfl⟩))
            go_roundg g
            case rel => exact ⟨k + 1, _, by omega, by omega, by omega, by go_num, rfl, Lib.hid ⟨by rw [HW.out, HT.out], below_al HI.out.2 _⟩⟩
            case measure => omega
      · obtain rfl : k = 40 := by omega
        have HE : Hid (D = textP L l) := Lib.hid (HI.out.1.trans (text_all (.inr rfl)))
        have hn12 : (40 : Int) < (n : Int) := by omega
        go_wp2_with fail
        go_ret
        exact ⟨by rw [HE.out]; rfl, HI.out.2⟩
    · obtain rfl : k = n := by omega
      have HE : Hid (D = textP L l) := Lib.hid (HI.out.1.trans (text_all (.inl HN.out)))
      go_wp2_with fail
      go_ret
      exact ⟨by rw [HE.out]; rfl, HI.out.2⟩
theorem text_any (L : List Lt) (hv : valP L = true) (AL : Option Addr) (q cq : Nat) (hq : q = L.length) (hcq : q ≤ cq) (hcq2 : cq ≤ maxLen) (l : List Int) (A : Option Addr) (n c : Nat) (hn : n = l.length) (hc : n ≤ c) (hcm : c ≤ maxLen) (hi : ∀ x ∈ l, inI x) (w : World) (hrl : Rd w AL (lv L)) (hr : Rd w A (iv l)) :
    Calls Try.prog 35 #[.slice AL q cq, .slice A n c] w (TxPost w (textP L l)) := by
  obtain ⟨bl, ol, rfl, hl⟩ := rl_open hrl (by intro e; subst e; simp [valP] at hv)
  by_cases h0 : n = 0
  · exact text_aux L hv bl ol q cq hq hcq hcq2 l A n c hn hc hcm hi w hl 0 0 (.inl h0)
  · obtain ⟨b, o, e, h⟩ := il_open hr (by intro e; subst e; exact h0 hn)
    exact text_aux L hv bl ol q cq hq hcq hcq2 l A n c hn hc hcm hi w hl b o (.inr ⟨e, h⟩)
end Go.Proofs.Ytalladdmedmfeaa
