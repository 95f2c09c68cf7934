/-
  The reference's Number, Print, Many.
-/
import Derived.Test.YtolkmjgklgimpaaDoorARSame
import Derived.Test.YtolkmjgklgimpaaDoorARValid
import Derived.Test.YtolkmjgklgimpaaDoorAWT
namespace Go.Proofs.YtolkmjgklgimpaaDoor
open Go.RowKit
open Alp
set_option linter.unusedVariables false
set_option linter.unusedSimpArgs false

namespace Alp
def ch (q : Int) : UInt8 := UInt8.ofNat (48 + q.toNat)
def numG : Nat → Int → B → B
  | 0, q, x => ch q :: x
  | g + 1, q, x => if 9 < q then numG g (q / 10) (ch (q % 10) :: x) else ch q :: x
def numP (n : Int) : B := numG 3 n []
theorem numG_len (g : Nat) : ∀ (q : Int) (x : B), (numG g q x).length ≤ x.length + g + 1 := by
  induction g with
  | zero => intro q x; simp [numG]
  | succ g ih =>
    intro q x
    unfold numG
    split
    · have := ih (q / 10) (ch (q % 10) :: x)
      rw [List.length_cons] at this
      omega
    · simp
theorem numG_end {g : Nat} {q : Int} {x : B} (h : ¬ 9 < q) : numG g q x = ch q :: x := by
  cases g with
  | zero => rfl
  | succ g => rw [numG, if_neg h]
theorem numP_len (n : Int) : (numP n).length ≤ 4 := by
  have := numG_len 3 n []
  unfold numP
  simpa using this
theorem ch_nat {q : Int} (h0 : 0 ≤ q) (h9 : q ≤ 9) : ((ch q).toNat : Int) = 48 + q := by
  have : (ch q).toNat = (48 + q.toNat) % 256 := by unfold ch; rw [UInt8.toNat_ofNat']
  omega
def plineT (L : List Lt) (l : Lt) : B := l.text ++ [32] ++ (L.getD l.base.toNat z).text ++ [32] ++ numP l.mark ++ [32] ++ numP l.cas ++ [32] ++ numP l.width ++ [10]
def printT (L : List Lt) : B := L.flatMap (plineT L)
def manyP (n : Nat) : List Lt := (List.range n).map fun i => ⟨[UInt8.ofNat (97 + i / 20), UInt8.ofNat (97 + i % 20)], i, 0, 0, 1⟩
theorem manyP_snoc (n : Nat) : manyP (n + 1) = manyP n ++ [⟨[UInt8.ofNat (97 + n / 20), UInt8.ofNat (97 + n % 20)], n, 0, 0, 1⟩] := by unfold manyP; rw [List.range_succ, List.map_append]; rfl
theorem manyP_len (n : Nat) : (manyP n).length = n := by simp [manyP]
end Alp
theorem ch_conv (q : Int) (h0 : 0 ≤ q) (h9 : q ≤ 9) (W : World) : (convert 46 9 (.slice (some ⟨W.heap.size, 0, none⟩) 1 1)).run Tryd.prog (W.alloc (.cells #[.int .u8 (48 + q)] 5)) = .ok (.string (tb [ch q])) (W.alloc (.cells #[.int .u8 (48 + q)] 5)) := by
  have e : (#[Value.int .u8 (48 + q)] : Array Value) = (bs [ch q]).toArray := by
    rw [← ch_nat h0 h9]
    rfl
  have hr : Rd (W.alloc (.cells #[.int .u8 (48 + q)] 5)) (some ⟨W.heap.size, 0, none⟩) (bs [ch q]) := .inr ⟨W.heap.size, 0, rfl, fun k v hv => by rw [Nat.zero_add]; exact (Blk.at W (bs [ch q]) _ 5 _ e rfl).cell hv⟩
  exact conv_rd (l := [ch q]) Tryd.underlying46 Tryd.underlying5 Tryd.underlying9 hr 1
set_option maxRecDepth 100000 in
set_option maxHeartbeats 2000000 in
theorem rnumber_any (n : Int) (h0 : 0 ≤ n) (h1 : n ≤ 1000) (w : World) : Calls Tryd.prog 39 #[.int .i64 n] w fun e w' => e = .returned (.string (tb (numP n))) ∧ Below w.heap.size w w' := by
  have e0 : (⟨#[]⟩ : ByteArray) = tb [] := rfl
  go_enter Tryd.func39, Tryd.ntmps39
  go_wp2_with fail
  go_loopg [0, 3] 3 (fun g s0 s3 wr => ∃ (q : Int) (T : B), s0 = .int .i64 q ∧ s3 = .string (tb T) ∧ 0 ≤ q ∧ (q ≤ 9 ∨ (1 ≤ g ∧ q ≤ 99) ∨ (2 ≤ g ∧ q ≤ 999) ∨ (3 ≤ g ∧ q ≤ 1000)) ∧ T.length ≤ 3 - g ∧ g ≤ 3 ∧ Hid (numP n = numG g q T ∧ Below w.heap.size w wr))
  case atStart => exact ⟨n, [], rfl, rfl, h0, by omega, by simp, by omega, Lib.hid ⟨rfl, Below.refl _ _⟩⟩
  case round =>
    obtain ⟨q, T, rfl, rfl, q0, q1, ht, hg3, HQ⟩ := hrel
    by_cases hlt : 9 < q
    · obtain ⟨g, rfl⟩ : ∃ g, gk = g + 1 := ⟨gk - 1, by omega⟩
      have hq1 : q ≤ 1000 := by omega
      have HG : Hid ((q / 10 ≤ 9 ∨ (1 ≤ g ∧ q / 10 ≤ 99) ∨ (2 ≤ g ∧ q / 10 ≤ 999) ∨ (3 ≤ g ∧ q / 10 ≤ 1000)) ∧ numP n = numG g (q / 10) (ch (q % 10) :: T)) := Lib.hid ⟨by omega, by rw [HQ.out.1, numG, if_pos hlt]⟩
      clear q1
      have hcv := ch_conv (q % 10) (by omega) (by omega) wr
      have hct : ∀ W, (Op.stringOp .add (tb [ch (q % 10)]) (tb T)).run Tryd.prog W = .ok (.string (tb (ch (q % 10) :: T))) W := fun W => cat_tb rfl (by simp; omega) W
      go_wp2_with fail
      go_roundg g
      case rel => exact ⟨q / 10, ch (q % 10) :: T, rfl, rfl, by omega, HG.out.1, by rw [List.length_cons]; omega, by omega, Lib.hid ⟨HG.out.2, below_al HQ.out.2 _⟩⟩
      case measure => omega
    · have hq9 : q ≤ 9 := by omega
      clear q1
      have HE : Hid (ch q :: T = numP n) := Lib.hid (by rw [HQ.out.1, numG_end hlt])
      have hcv := ch_conv q q0 hq9 wr
      have hct : ∀ W, (Op.stringOp .add (tb [ch q]) (tb T)).run Tryd.prog W = .ok (.string (tb (ch q :: T))) W := fun W => cat_tb rfl (by simp; omega) W
      go_wp2_with fail
      go_ret
      exact ⟨by rw [← HE.out]; rfl, below_al HQ.out.2 _⟩
theorem val_nums {L : List Lt} (h : valP L = true) {k : Nat} (hk : k < L.length) : (0 ≤ (L.getD k z).base ∧ (L.getD k z).base < L.length) ∧ (0 ≤ (L.getD k z).mark ∧ (L.getD k z).mark ≤ 15) ∧ (0 ≤ (L.getD k z).cas ∧ (L.getD k z).cas ≤ 1) ∧ (1 ≤ (L.getD k z).width ∧ (L.getD k z).width ≤ 1000) := by
  have := (lok_iff _ _ _).1 (((valP_iff L).1 h).2.2.1 k hk)
  exact ⟨this.2.1, this.2.2.2.1, this.2.2.2.2.1, this.2.2.2.2.2.1⟩
theorem plineT_len {L : List Lt} (h : valP L = true) {l : Lt} (hl : l ∈ L) (hb : l.base.toNat < L.length) : (plineT L l).length ≤ 25 := by
  have h1 := (val_plain h hl).2.1
  have h2 := (val_plain h (getD_mem hb)).2.1
  have h3 := numP_len l.mark
  have h4 := numP_len l.cas
  have h5 := numP_len l.width
  unfold plineT
  simp only [List.length_append, List.length_cons, List.length_nil]
  omega
theorem printK_len {L : List Lt} (h : valP L = true) (k : Nat) (hk : k ≤ L.length) : ((L.take k).flatMap (plineT L)).length ≤ 25 * k := by
  induction k with
  | zero => simp
  | succ k ih =>
    rw [List.take_succ_eq_append_getElem (by omega), List.flatMap_append, List.length_append]
    have := ih (by omega)
    have h2 := plineT_len h (l := L[k]) (List.getElem_mem _) (by have := (val_nums h (k := k) (by omega)).1; rw [getD_get (by omega)] at this; omega)
    simp only [List.flatMap_cons, List.flatMap_nil, List.append_nil]
    omega
set_option maxRecDepth 100000 in
set_option maxHeartbeats 4000000 in
theorem rprint_any (L : List Lt) (hv : valP L = true) (A : Option Addr) (n c : Nat) (hn : n = L.length) (hc : n ≤ c) (hm : c ≤ maxLen) (w : World) (hr : Rd w A (lv L)) : Calls Tryd.prog 23 #[.slice A n c] w (TxPost w (printT L)) := by
  have hn60 : 1 ≤ n ∧ n ≤ 60 := by have := (valP_iff L).1 hv; omega
  obtain ⟨b, o, rfl, hl⟩ := rl_open hr (by intro e; subst e; simp [valP] at hv)
  have HV : Hid (Calls Tryd.prog 34 #[.slice (some ⟨b, o, none⟩) n c] w (BoolB w true)) := Lib.hid (rvalid_any L _ n c hn hc hm (fun l hl => by have := (val_plain hv hl).2.1; unfold maxLen; omega) true hv.symm w hr)
  have HNU : Hid (∀ n, 0 ≤ n → n ≤ 1000 → ∀ W, Calls Tryd.prog 39 #[.int .i64 n] W fun e w' => e = .returned (.string (tb (numP n))) ∧ Below W.heap.size W w') := Lib.hid fun n h1 h2 W => rnumber_any n h1 h2 W
  have HL := Lib.hid hl
  have HVA := Lib.hid hv
  have HN := Lib.hid hn
  have hc2 : c ≤ 9223372036854775807 := by unfold maxLen at hm; omega
  have e0 : (⟨#[]⟩ : ByteArray) = tb [] := rfl
  have e32 : (⟨#[32]⟩ : ByteArray) = tb [32] := rfl
  have e10 : (⟨#[10]⟩ : ByteArray) = tb [10] := rfl
  clear hl hr hv hn
  go_enter Tryd.func23, Tryd.ntmps23
  go_wp2_with ((with_reducible refine HV.out.mono ?_); rintro e w1 hp; obtain ⟨rfl, hb1⟩ := boolb_out hp; have HX1 := Lib.hid hb1; clear hp hb1)
  go_loopg [3, 4] n (fun g s3 s4 wr => ∃ (k : Nat) (T : B), k + g = n ∧ s4 = .int .i64 (k : Int) ∧ s3 = .string (tb T) ∧ Hid (T = (L.take k).flatMap (plineT L) ∧ Below w.heap.size w wr))
  case atStart => exact ⟨0, [], by omega, rfl, rfl, Lib.hid ⟨rfl, HX1.out⟩⟩
  case round =>
    obtain ⟨k, c0, hk, rfl, rfl, HI⟩ := hrel
    by_cases hlt : k < n
    · obtain ⟨g, rfl⟩ : ∃ g, gk = g + 1 := ⟨gk - 1, by omega⟩
      have hkl : k < L.length := by rw [← HN.out]; exact hlt
      obtain ⟨l, hl⟩ : ∃ l, l = L.getD k z := ⟨_, rfl⟩
      obtain ⟨⟨hb1, hb2⟩, hm1, hm2, hm3⟩ := val_nums HVA.out hkl
      rw [← hl] at hb1 hb2 hm1 hm2 hm3
      obtain ⟨bn, hbn⟩ : ∃ bn : Nat, l.base = bn := ⟨l.base.toNat, by omega⟩
      have hbl : bn < L.length := by omega
      have hbn2 : bn < n := by rw [HN.out]; exact hbl
      obtain ⟨bt, hbt0⟩ : ∃ bt, bt = (L.getD bn z).text := ⟨_, rfl⟩
      have hbt : bt = (L.getD l.base.toNat z).text := by rw [hbt0, hbn, Int.toNat_natCast]
      obtain ⟨x1, hx1⟩ : ∃ x, x = l.mark := ⟨_, rfl⟩
      obtain ⟨x2, hx2⟩ : ∃ x, x = l.cas := ⟨_, rfl⟩
      obtain ⟨x3, hx3⟩ : ∃ x, x = l.width := ⟨_, rfl⟩
      have HS : Hid (∀ W, Below w.heap.size w W → (fun w' => w'.cell? ⟨b, o + k * 5, none⟩ = some (.string (tb l.text)) ∧ w'.cell? ⟨b, o + k * 5 + 1, none⟩ = some (.int .i64 (bn : Int)) ∧ w'.cell? ⟨b, o + bn * 5, none⟩ = some (.string (tb bt)) ∧ w'.cell? ⟨b, o + k * 5 + 2, none⟩ = some (.int .i64 x1) ∧ w'.cell? ⟨b, o + k * 5 + 3, none⟩ = some (.int .i64 x2) ∧ w'.cell? ⟨b, o + k * 5 + 4, none⟩ = some (.int .i64 x3)) W) := Lib.hid fun W hb => by
        have h := HL.out.below hb
        refine ⟨h.c0 hkl hl, ?_, ?_, ?_, ?_, ?_⟩
        · rw [← hbn]; exact h.c1 hkl hl
        · rw [hbt0]; exact h.c0 hbl rfl
        · rw [hx1]; exact h.c2 hkl hl
        · rw [hx2]; exact h.c3 hkl hl
        · rw [hx3]; exact h.c4 hkl hl
      obtain ⟨n1, hn1⟩ : ∃ x, x = numP l.mark := ⟨_, rfl⟩
      obtain ⟨n2, hn2⟩ : ∃ x, x = numP l.cas := ⟨_, rfl⟩
      obtain ⟨n3, hn3⟩ : ∃ x, x = numP l.width := ⟨_, rfl⟩
      have k1 : l.text.length ≤ 4 := by rw [hl]; exact (val_plain HVA.out (getD_mem hkl)).2.1
      have k2 : bt.length ≤ 4 := by rw [hbt0]; exact (val_plain HVA.out (getD_mem hbl)).2.1
      have k3 : n1.length ≤ 4 := by rw [hn1]; exact numP_len _
      have k4 : n2.length ≤ 4 := by rw [hn2]; exact numP_len _
      have k5 : n3.length ≤ 4 := by rw [hn3]; exact numP_len _
      have k0 : c0.length ≤ 25 * 60 := by have := printK_len HVA.out k (by omega); rw [← HI.out.1] at this; omega
      have HN1 : Hid (∀ W, Calls Tryd.prog 39 #[.int .i64 x1] W fun e w' => e = .returned (.string (tb n1)) ∧ Below W.heap.size W w') := Lib.hid fun W => by rw [hn1, hx1]; exact HNU.out _ (by omega) (by omega) W
      have HN2 : Hid (∀ W, Calls Tryd.prog 39 #[.int .i64 x2] W fun e w' => e = .returned (.string (tb n2)) ∧ Below W.heap.size W w') := Lib.hid fun W => by rw [hn2, hx2]; exact HNU.out _ (by omega) (by omega) W
      have HN3 : Hid (∀ W, Calls Tryd.prog 39 #[.int .i64 x3] W fun e w' => e = .returned (.string (tb n3)) ∧ Below W.heap.size W w') := Lib.hid fun W => by rw [hn3, hx3]; exact HNU.out _ (by omega) (by omega) W
      obtain ⟨c1, h1⟩ : ∃ c, c = c0 ++ l.text := ⟨_, rfl⟩
      have q1 : c1.length ≤ 1500 + 4 := by rw [h1, List.length_append]; (try simp only [List.length_cons, List.length_nil]); omega
      have f1 : tb c0 ++ tb l.text = tb c1 := by rw [h1]; exact tb_append _ _
      have g1 : ¬ 9223372036854775807 < (tb c0).size + (tb l.text : ByteArray).size := by
        have e : (tb l.text : ByteArray).size = (l.text : B).length := tb_size _
        rw [tb_size, e]; (try simp only [List.length_cons, List.length_nil]); omega
      obtain ⟨c2, h2⟩ : ∃ c, c = c1 ++ [32] := ⟨_, rfl⟩
      have q2 : c2.length ≤ 1500 + 8 := by rw [h2, List.length_append]; (try simp only [List.length_cons, List.length_nil]); omega
      have f2 : tb c1 ++ tb [32] = tb c2 := by rw [h2]; exact tb_append _ _
      have g2 : ¬ 9223372036854775807 < (tb c1).size + (tb [32] : ByteArray).size := by
        have e : (tb [32] : ByteArray).size = ([32] : B).length := tb_size _
        rw [tb_size, e]; (try simp only [List.length_cons, List.length_nil]); omega
      obtain ⟨c3, h3⟩ : ∃ c, c = c2 ++ bt := ⟨_, rfl⟩
      have q3 : c3.length ≤ 1500 + 12 := by rw [h3, List.length_append]; (try simp only [List.length_cons, List.length_nil]); omega
      have f3 : tb c2 ++ tb bt = tb c3 := by rw [h3]; exact tb_append _ _
      have g3 : ¬ 9223372036854775807 < (tb c2).size + (tb bt : ByteArray).size := by
        have e : (tb bt : ByteArray).size = (bt : B).length := tb_size _
        rw [tb_size, e]; (try simp only [List.length_cons, List.length_nil]); omega
      obtain ⟨c4, h4⟩ : ∃ c, c = c3 ++ [32] := ⟨_, rfl⟩
      have q4 : c4.length ≤ 1500 + 16 := by rw [h4, List.length_append]; (try simp only [List.length_cons, List.length_nil]); omega
      have f4 : tb c3 ++ tb [32] = tb c4 := by rw [h4]; exact tb_append _ _
      have g4 : ¬ 9223372036854775807 < (tb c3).size + (tb [32] : ByteArray).size := by
        have e : (tb [32] : ByteArray).size = ([32] : B).length := tb_size _
        rw [tb_size, e]; (try simp only [List.length_cons, List.length_nil]); omega
      obtain ⟨c5, h5⟩ : ∃ c, c = c4 ++ n1 := ⟨_, rfl⟩
      have q5 : c5.length ≤ 1500 + 20 := by rw [h5, List.length_append]; (try simp only [List.length_cons, List.length_nil]); omega
      have f5 : tb c4 ++ tb n1 = tb c5 := by rw [h5]; exact tb_append _ _
      have g5 : ¬ 9223372036854775807 < (tb c4).size + (tb n1 : ByteArray).size := by
        have e : (tb n1 : ByteArray).size = (n1 : B).length := tb_size _
        rw [tb_size, e]; (try simp only [List.length_cons, List.length_nil]); omega
      obtain ⟨c6, h6⟩ : ∃ c, c = c5 ++ [32] := ⟨_, rfl⟩
      have q6 : c6.length ≤ 1500 + 24 := by rw [h6, List.length_append]; (try simp only [List.length_cons, List.length_nil]); omega
      have f6 : tb c5 ++ tb [32] = tb c6 := by rw [h6]; exact tb_append _ _
      have g6 : ¬ 9223372036854775807 < (tb c5).size + (tb [32] : ByteArray).size := by
        have e : (tb [32] : ByteArray).size = ([32] : B).length := tb_size _
        rw [tb_size, e]; (try simp only [List.length_cons, List.length_nil]); omega
      obtain ⟨c7, h7⟩ : ∃ c, c = c6 ++ n2 := ⟨_, rfl⟩
      have q7 : c7.length ≤ 1500 + 28 := by rw [h7, List.length_append]; (try simp only [List.length_cons, List.length_nil]); omega
      have f7 : tb c6 ++ tb n2 = tb c7 := by rw [h7]; exact tb_append _ _
      have g7 : ¬ 9223372036854775807 < (tb c6).size + (tb n2 : ByteArray).size := by
        have e : (tb n2 : ByteArray).size = (n2 : B).length := tb_size _
        rw [tb_size, e]; (try simp only [List.length_cons, List.length_nil]); omega
      obtain ⟨c8, h8⟩ : ∃ c, c = c7 ++ [32] := ⟨_, rfl⟩
      have q8 : c8.length ≤ 1500 + 32 := by rw [h8, List.length_append]; (try simp only [List.length_cons, List.length_nil]); omega
      have f8 : tb c7 ++ tb [32] = tb c8 := by rw [h8]; exact tb_append _ _
      have g8 : ¬ 9223372036854775807 < (tb c7).size + (tb [32] : ByteArray).size := by
        have e : (tb [32] : ByteArray).size = ([32] : B).length := tb_size _
        rw [tb_size, e]; (try simp only [List.length_cons, List.length_nil]); omega
      obtain ⟨c9, h9⟩ : ∃ c, c = c8 ++ n3 := ⟨_, rfl⟩
      have q9 : c9.length ≤ 1500 + 36 := by rw [h9, List.length_append]; (try simp only [List.length_cons, List.length_nil]); omega
      have f9 : tb c8 ++ tb n3 = tb c9 := by rw [h9]; exact tb_append _ _
      have g9 : ¬ 9223372036854775807 < (tb c8).size + (tb n3 : ByteArray).size := by
        have e : (tb n3 : ByteArray).size = (n3 : B).length := tb_size _
        rw [tb_size, e]; (try simp only [List.length_cons, List.length_nil]); omega
      obtain ⟨c10, h10⟩ : ∃ c, c = c9 ++ [10] := ⟨_, rfl⟩
      have q10 : c10.length ≤ 1500 + 40 := by rw [h10, List.length_append]; (try simp only [List.length_cons, List.length_nil]); omega
      have f10 : tb c9 ++ tb [10] = tb c10 := by rw [h10]; exact tb_append _ _
      have g10 : ¬ 9223372036854775807 < (tb c9).size + (tb [10] : ByteArray).size := by
        have e : (tb [10] : ByteArray).size = ([10] : B).length := tb_size _
        rw [tb_size, e]; (try simp only [List.length_cons, List.length_nil]); omega
      have HC10 : Hid (c10 = c0 ++ plineT L l) := Lib.hid (by rw [h10, h9, h8, h7, h6, h5, h4, h3, h2, h1]; unfold plineT; rw [← hbt, ← hn1, ← hn2, ← hn3]; simp)
      clear h1 q1 h2 q2 h3 q3 h4 q4 h5 q5 h6 q6 h7 q7 h8 q8 h9 q9 h10 q10 hbt hn1 hn2 hn3
      have HST : Hid ((L.take (k + 1)).flatMap (plineT L) = (L.take k).flatMap (plineT L) ++ plineT L l) := Lib.hid (by rw [List.take_succ_eq_append_getElem hkl, List.flatMap_append, hl, getD_get hkl]; simp)
      clear hl hb1 hb2 hm1 hm2 hm3 hbn hbl hbt0 hx1 hx2 hx3 k0 k1 k2 k3 k4 k5 hkl
      go_wp2_with fail
      refine wp_region_held_drew (S := fun w' => w'.cell? ⟨b, o + k * 5, none⟩ = some (.string (tb l.text)) ∧ w'.cell? ⟨b, o + k * 5 + 1, none⟩ = some (.int .i64 (bn : Int)) ∧ w'.cell? ⟨b, o + bn * 5, none⟩ = some (.string (tb bt)) ∧ w'.cell? ⟨b, o + k * 5 + 2, none⟩ = some (.int .i64 x1) ∧ w'.cell? ⟨b, o + k * 5 + 3, none⟩ = some (.int .i64 x2) ∧ w'.cell? ⟨b, o + k * 5 + 4, none⟩ = some (.int .i64 x3)) (by kernel_rfl) (HS.out _ HI.out.2.drew) (fun hS0 => ?_)
      refine wpAnyH_take (i := 0) (oi := { dst := some 14, op := Op.move (Operand.tmp 3), type := 9, pos := "ref.go:212", after := #[], guard := none }) (v := ?_) rfl (by kernel_rfl) (by kernel_rfl) (by kernel_rfl) (fun _ _ _ h => h) (Or.inl ⟨by rfl, ?_⟩) (by assumption) ?_
      rotate_left
      · (intro w' hSw; (try dsimp only at hSw); obtain ⟨hS1, hS2, hS3, hS4, hS5, hS6⟩ := hSw; go_simp; try with_reducible rfl)
      try simp only [Act.put, List.setIfInBounds_toArray, List.set_cons_zero, List.set_cons_succ]
      refine wpAnyH_take (i := 1) (oi := { dst := some 15, op := Op.move (Operand.tmp 0), type := 23, pos := "ref.go:212", after := #[], guard := none }) (v := ?_) rfl (by kernel_rfl) (by kernel_rfl) (by kernel_rfl) (fun _ _ _ h => h) (Or.inl ⟨by rfl, ?_⟩) (by assumption) ?_
      rotate_left
      · (intro w' hSw; (try dsimp only at hSw); obtain ⟨hS1, hS2, hS3, hS4, hS5, hS6⟩ := hSw; go_simp; try with_reducible rfl)
      try simp only [Act.put, List.setIfInBounds_toArray, List.set_cons_zero, List.set_cons_succ]
      refine wpAnyH_take (i := 2) (oi := { dst := some 16, op := Op.move (Operand.tmp 4), type := 3, pos := "ref.go:212", after := #[], guard := none }) (v := ?_) rfl (by kernel_rfl) (by kernel_rfl) (by kernel_rfl) (fun _ _ _ h => h) (Or.inl ⟨by rfl, ?_⟩) (by assumption) ?_
      rotate_left
      · (intro w' hSw; (try dsimp only at hSw); obtain ⟨hS1, hS2, hS3, hS4, hS5, hS6⟩ := hSw; go_simp; try with_reducible rfl)
      try simp only [Act.put, List.setIfInBounds_toArray, List.set_cons_zero, List.set_cons_succ]
      refine wpAnyH_take (i := 3) (oi := { dst := some 17, op := Op.indexAddr 23 (Operand.tmp 15) (Operand.tmp 16), type := 0, pos := "ref.go:212", after := #[{ on := 1, ground := Ground.data }, { on := 2, ground := Ground.data }], guard := none }) (v := ?_) rfl (by kernel_rfl) (by kernel_rfl) (by kernel_rfl) (fun _ _ _ h => h) (Or.inl ⟨by rfl, ?_⟩) (by assumption) ?_
      rotate_left
      · (intro w' hSw; (try dsimp only at hSw); obtain ⟨hS1, hS2, hS3, hS4, hS5, hS6⟩ := hSw; go_simp; try with_reducible rfl)
      try simp only [Act.put, List.setIfInBounds_toArray, List.set_cons_zero, List.set_cons_succ]
      refine wpAnyH_take (i := 4) (oi := { dst := some 18, op := Op.fieldAddr 50 (Operand.tmp 17) 0, type := 0, pos := "ref.go:212", after := #[{ on := 3, ground := Ground.data }], guard := none }) (v := ?_) rfl (by kernel_rfl) (by kernel_rfl) (by kernel_rfl) (fun _ _ _ h => h) (Or.inl ⟨by rfl, ?_⟩) (by assumption) ?_
      rotate_left
      · (intro w' hSw; (try dsimp only at hSw); obtain ⟨hS1, hS2, hS3, hS4, hS5, hS6⟩ := hSw; go_simp; try with_reducible rfl)
      try simp only [Act.put, List.setIfInBounds_toArray, List.set_cons_zero, List.set_cons_succ]
      refine wpAnyH_take (i := 5) (oi := { dst := some 19, op := Op.load 9 (Operand.tmp 18), type := 9, pos := "ref.go:212", after := #[{ on := 4, ground := Ground.data }], guard := none }) (v := ?_) rfl (by kernel_rfl) (by kernel_rfl) (by kernel_rfl) (fun _ _ _ h => h) (Or.inl ⟨by rfl, ?_⟩) (by assumption) ?_
      rotate_left
      · (intro w' hSw; (try dsimp only at hSw); obtain ⟨hS1, hS2, hS3, hS4, hS5, hS6⟩ := hSw; go_simp; try with_reducible rfl)
      try simp only [Act.put, List.setIfInBounds_toArray, List.set_cons_zero, List.set_cons_succ]
      refine wpAnyH_take (i := 6) (oi := { dst := some 20, op := Op.binOp BinOp.add 9 (Operand.tmp 14) (Operand.tmp 19) 9, type := 9, pos := "ref.go:212", after := #[{ on := 0, ground := Ground.data }, { on := 5, ground := Ground.data }], guard := none }) (v := ?_) rfl (by kernel_rfl) (by kernel_rfl) (by kernel_rfl) (fun _ _ _ h => h) (Or.inl ⟨by rfl, ?_⟩) (by assumption) ?_
      rotate_left
      · (intro w' hSw; (try dsimp only at hSw); obtain ⟨hS1, hS2, hS3, hS4, hS5, hS6⟩ := hSw; go_simp; try with_reducible rfl)
      try simp only [Act.put, List.setIfInBounds_toArray, List.set_cons_zero, List.set_cons_succ]
      refine wpAnyH_take (i := 7) (oi := { dst := some 21, op := Op.binOp BinOp.add 9 (Operand.tmp 20) (Operand.const (Value.string { data := #[32] })) 9, type := 9, pos := "ref.go:212", after := #[{ on := 6, ground := Ground.data }], guard := none }) (v := ?_) rfl (by kernel_rfl) (by kernel_rfl) (by kernel_rfl) (fun _ _ _ h => h) (Or.inl ⟨by rfl, ?_⟩) (by assumption) ?_
      rotate_left
      · (intro w' hSw; (try dsimp only at hSw); obtain ⟨hS1, hS2, hS3, hS4, hS5, hS6⟩ := hSw; go_simp; try with_reducible rfl)
      try simp only [Act.put, List.setIfInBounds_toArray, List.set_cons_zero, List.set_cons_succ]
      refine wpAnyH_take (i := 8) (oi := { dst := some 22, op := Op.move (Operand.tmp 0), type := 23, pos := "ref.go:212", after := #[], guard := none }) (v := ?_) rfl (by kernel_rfl) (by kernel_rfl) (by kernel_rfl) (fun _ _ _ h => h) (Or.inl ⟨by rfl, ?_⟩) (by assumption) ?_
      rotate_left
      · (intro w' hSw; (try dsimp only at hSw); obtain ⟨hS1, hS2, hS3, hS4, hS5, hS6⟩ := hSw; go_simp; try with_reducible rfl)
      try simp only [Act.put, List.setIfInBounds_toArray, List.set_cons_zero, List.set_cons_succ]
      refine wpAnyH_take (i := 9) (oi := { dst := some 23, op := Op.move (Operand.tmp 0), type := 23, pos := "ref.go:212", after := #[], guard := none }) (v := ?_) rfl (by kernel_rfl) (by kernel_rfl) (by kernel_rfl) (fun _ _ _ h => h) (Or.inl ⟨by rfl, ?_⟩) (by assumption) ?_
      rotate_left
      · (intro w' hSw; (try dsimp only at hSw); obtain ⟨hS1, hS2, hS3, hS4, hS5, hS6⟩ := hSw; go_simp; try with_reducible rfl)
      try simp only [Act.put, List.setIfInBounds_toArray, List.set_cons_zero, List.set_cons_succ]
      refine wpAnyH_take (i := 10) (oi := { dst := some 24, op := Op.move (Operand.tmp 4), type := 3, pos := "ref.go:212", after := #[], guard := none }) (v := ?_) rfl (by kernel_rfl) (by kernel_rfl) (by kernel_rfl) (fun _ _ _ h => h) (Or.inl ⟨by rfl, ?_⟩) (by assumption) ?_
      rotate_left
      · (intro w' hSw; (try dsimp only at hSw); obtain ⟨hS1, hS2, hS3, hS4, hS5, hS6⟩ := hSw; go_simp; try with_reducible rfl)
      try simp only [Act.put, List.setIfInBounds_toArray, List.set_cons_zero, List.set_cons_succ]
      refine wpAnyH_take (i := 11) (oi := { dst := some 25, op := Op.indexAddr 23 (Operand.tmp 23) (Operand.tmp 24), type := 0, pos := "ref.go:212", after := #[{ on := 9, ground := Ground.data }, { on := 10, ground := Ground.data }], guard := none }) (v := ?_) rfl (by kernel_rfl) (by kernel_rfl) (by kernel_rfl) (fun _ _ _ h => h) (Or.inl ⟨by rfl, ?_⟩) (by assumption) ?_
      rotate_left
      · (intro w' hSw; (try dsimp only at hSw); obtain ⟨hS1, hS2, hS3, hS4, hS5, hS6⟩ := hSw; go_simp; try with_reducible rfl)
      try simp only [Act.put, List.setIfInBounds_toArray, List.set_cons_zero, List.set_cons_succ]
      refine wpAnyH_take (i := 12) (oi := { dst := some 26, op := Op.fieldAddr 50 (Operand.tmp 25) 1, type := 0, pos := "ref.go:212", after := #[{ on := 11, ground := Ground.data }], guard := none }) (v := ?_) rfl (by kernel_rfl) (by kernel_rfl) (by kernel_rfl) (fun _ _ _ h => h) (Or.inl ⟨by rfl, ?_⟩) (by assumption) ?_
      rotate_left
      · (intro w' hSw; (try dsimp only at hSw); obtain ⟨hS1, hS2, hS3, hS4, hS5, hS6⟩ := hSw; go_simp; try with_reducible rfl)
      try simp only [Act.put, List.setIfInBounds_toArray, List.set_cons_zero, List.set_cons_succ]
      refine wpAnyH_take (i := 13) (oi := { dst := some 27, op := Op.load 3 (Operand.tmp 26), type := 3, pos := "ref.go:212", after := #[{ on := 12, ground := Ground.data }], guard := none }) (v := ?_) rfl (by kernel_rfl) (by kernel_rfl) (by kernel_rfl) (fun _ _ _ h => h) (Or.inl ⟨by rfl, ?_⟩) (by assumption) ?_
      rotate_left
      · (intro w' hSw; (try dsimp only at hSw); obtain ⟨hS1, hS2, hS3, hS4, hS5, hS6⟩ := hSw; go_simp; try with_reducible rfl)
      try simp only [Act.put, List.setIfInBounds_toArray, List.set_cons_zero, List.set_cons_succ]
      refine wpAnyH_take (i := 14) (oi := { dst := some 28, op := Op.indexAddr 23 (Operand.tmp 22) (Operand.tmp 27), type := 0, pos := "ref.go:212", after := #[{ on := 8, ground := Ground.data }, { on := 13, ground := Ground.data }], guard := none }) (v := ?_) rfl (by kernel_rfl) (by kernel_rfl) (by kernel_rfl) (fun _ _ _ h => h) (Or.inl ⟨by rfl, ?_⟩) (by assumption) ?_
      rotate_left
      · (intro w' hSw; (try dsimp only at hSw); obtain ⟨hS1, hS2, hS3, hS4, hS5, hS6⟩ := hSw; go_simp; try with_reducible rfl)
      try simp only [Act.put, List.setIfInBounds_toArray, List.set_cons_zero, List.set_cons_succ]
      refine wpAnyH_take (i := 15) (oi := { dst := some 29, op := Op.fieldAddr 50 (Operand.tmp 28) 0, type := 0, pos := "ref.go:212", after := #[{ on := 14, ground := Ground.data }], guard := none }) (v := ?_) rfl (by kernel_rfl) (by kernel_rfl) (by kernel_rfl) (fun _ _ _ h => h) (Or.inl ⟨by rfl, ?_⟩) (by assumption) ?_
      rotate_left
      · (intro w' hSw; (try dsimp only at hSw); obtain ⟨hS1, hS2, hS3, hS4, hS5, hS6⟩ := hSw; go_simp; try with_reducible rfl)
      try simp only [Act.put, List.setIfInBounds_toArray, List.set_cons_zero, List.set_cons_succ]
      refine wpAnyH_take (i := 16) (oi := { dst := some 30, op := Op.load 9 (Operand.tmp 29), type := 9, pos := "ref.go:212", after := #[{ on := 15, ground := Ground.data }], guard := none }) (v := ?_) rfl (by kernel_rfl) (by kernel_rfl) (by kernel_rfl) (fun _ _ _ h => h) (Or.inl ⟨by rfl, ?_⟩) (by assumption) ?_
      rotate_left
      · (intro w' hSw; (try dsimp only at hSw); obtain ⟨hS1, hS2, hS3, hS4, hS5, hS6⟩ := hSw; go_simp; try with_reducible rfl)
      try simp only [Act.put, List.setIfInBounds_toArray, List.set_cons_zero, List.set_cons_succ]
      refine wpAnyH_take (i := 17) (oi := { dst := some 31, op := Op.binOp BinOp.add 9 (Operand.tmp 21) (Operand.tmp 30) 9, type := 9, pos := "ref.go:212", after := #[{ on := 7, ground := Ground.data }, { on := 16, ground := Ground.data }], guard := none }) (v := ?_) rfl (by kernel_rfl) (by kernel_rfl) (by kernel_rfl) (fun _ _ _ h => h) (Or.inl ⟨by rfl, ?_⟩) (by assumption) ?_
      rotate_left
      · (intro w' hSw; (try dsimp only at hSw); obtain ⟨hS1, hS2, hS3, hS4, hS5, hS6⟩ := hSw; go_simp; try with_reducible rfl)
      try simp only [Act.put, List.setIfInBounds_toArray, List.set_cons_zero, List.set_cons_succ]
      refine wpAnyH_take (i := 18) (oi := { dst := some 32, op := Op.binOp BinOp.add 9 (Operand.tmp 31) (Operand.const (Value.string { data := #[32] })) 9, type := 9, pos := "ref.go:212", after := #[{ on := 17, ground := Ground.data }], guard := none }) (v := ?_) rfl (by kernel_rfl) (by kernel_rfl) (by kernel_rfl) (fun _ _ _ h => h) (Or.inl ⟨by rfl, ?_⟩) (by assumption) ?_
      rotate_left
      · (intro w' hSw; (try dsimp only at hSw); obtain ⟨hS1, hS2, hS3, hS4, hS5, hS6⟩ := hSw; go_simp; try with_reducible rfl)
      try simp only [Act.put, List.setIfInBounds_toArray, List.set_cons_zero, List.set_cons_succ]
      refine wpAnyH_take (i := 19) (oi := { dst := some 33, op := Op.move (Operand.tmp 0), type := 23, pos := "ref.go:212", after := #[], guard := none }) (v := ?_) rfl (by kernel_rfl) (by kernel_rfl) (by kernel_rfl) (fun _ _ _ h => h) (Or.inl ⟨by rfl, ?_⟩) (by assumption) ?_
      rotate_left
      · (intro w' hSw; (try dsimp only at hSw); obtain ⟨hS1, hS2, hS3, hS4, hS5, hS6⟩ := hSw; go_simp; try with_reducible rfl)
      try simp only [Act.put, List.setIfInBounds_toArray, List.set_cons_zero, List.set_cons_succ]
      refine wpAnyH_take (i := 20) (oi := { dst := some 34, op := Op.move (Operand.tmp 4), type := 3, pos := "ref.go:212", after := #[], guard := none }) (v := ?_) rfl (by kernel_rfl) (by kernel_rfl) (by kernel_rfl) (fun _ _ _ h => h) (Or.inl ⟨by rfl, ?_⟩) (by assumption) ?_
      rotate_left
      · (intro w' hSw; (try dsimp only at hSw); obtain ⟨hS1, hS2, hS3, hS4, hS5, hS6⟩ := hSw; go_simp; try with_reducible rfl)
      try simp only [Act.put, List.setIfInBounds_toArray, List.set_cons_zero, List.set_cons_succ]
      refine wpAnyH_take (i := 21) (oi := { dst := some 35, op := Op.indexAddr 23 (Operand.tmp 33) (Operand.tmp 34), type := 0, pos := "ref.go:212", after := #[{ on := 19, ground := Ground.data }, { on := 20, ground := Ground.data }], guard := none }) (v := ?_) rfl (by kernel_rfl) (by kernel_rfl) (by kernel_rfl) (fun _ _ _ h => h) (Or.inl ⟨by rfl, ?_⟩) (by assumption) ?_
      rotate_left
      · (intro w' hSw; (try dsimp only at hSw); obtain ⟨hS1, hS2, hS3, hS4, hS5, hS6⟩ := hSw; go_simp; try with_reducible rfl)
      try simp only [Act.put, List.setIfInBounds_toArray, List.set_cons_zero, List.set_cons_succ]
      refine wpAnyH_take (i := 22) (oi := { dst := some 36, op := Op.fieldAddr 50 (Operand.tmp 35) 2, type := 0, pos := "ref.go:212", after := #[{ on := 21, ground := Ground.data }], guard := none }) (v := ?_) rfl (by kernel_rfl) (by kernel_rfl) (by kernel_rfl) (fun _ _ _ h => h) (Or.inl ⟨by rfl, ?_⟩) (by assumption) ?_
      rotate_left
      · (intro w' hSw; (try dsimp only at hSw); obtain ⟨hS1, hS2, hS3, hS4, hS5, hS6⟩ := hSw; go_simp; try with_reducible rfl)
      try simp only [Act.put, List.setIfInBounds_toArray, List.set_cons_zero, List.set_cons_succ]
      refine wpAnyH_take (i := 23) (oi := { dst := some 37, op := Op.load 3 (Operand.tmp 36), type := 3, pos := "ref.go:212", after := #[{ on := 22, ground := Ground.data }], guard := none }) (v := ?_) rfl (by kernel_rfl) (by kernel_rfl) (by kernel_rfl) (fun _ _ _ h => h) (Or.inl ⟨by rfl, ?_⟩) (by assumption) ?_
      rotate_left
      · (intro w' hSw; (try dsimp only at hSw); obtain ⟨hS1, hS2, hS3, hS4, hS5, hS6⟩ := hSw; go_simp; try with_reducible rfl)
      try simp only [Act.put, List.setIfInBounds_toArray, List.set_cons_zero, List.set_cons_succ]
      refine wpAnyH_take (i := 27) (oi := { dst := some 41, op := Op.move (Operand.tmp 0), type := 23, pos := "ref.go:212", after := #[], guard := none }) (v := ?_) rfl (by kernel_rfl) (by kernel_rfl) (by kernel_rfl) (fun _ _ _ h => h) (Or.inl ⟨by rfl, ?_⟩) (by assumption) ?_
      rotate_left
      · (intro w' hSw; (try dsimp only at hSw); obtain ⟨hS1, hS2, hS3, hS4, hS5, hS6⟩ := hSw; go_simp; try with_reducible rfl)
      try simp only [Act.put, List.setIfInBounds_toArray, List.set_cons_zero, List.set_cons_succ]
      refine wpAnyH_take (i := 28) (oi := { dst := some 42, op := Op.move (Operand.tmp 4), type := 3, pos := "ref.go:212", after := #[], guard := none }) (v := ?_) rfl (by kernel_rfl) (by kernel_rfl) (by kernel_rfl) (fun _ _ _ h => h) (Or.inl ⟨by rfl, ?_⟩) (by assumption) ?_
      rotate_left
      · (intro w' hSw; (try dsimp only at hSw); obtain ⟨hS1, hS2, hS3, hS4, hS5, hS6⟩ := hSw; go_simp; try with_reducible rfl)
      try simp only [Act.put, List.setIfInBounds_toArray, List.set_cons_zero, List.set_cons_succ]
      refine wpAnyH_take (i := 29) (oi := { dst := some 43, op := Op.indexAddr 23 (Operand.tmp 41) (Operand.tmp 42), type := 0, pos := "ref.go:212", after := #[{ on := 27, ground := Ground.data }, { on := 28, ground := Ground.data }], guard := none }) (v := ?_) rfl (by kernel_rfl) (by kernel_rfl) (by kernel_rfl) (fun _ _ _ h => h) (Or.inl ⟨by rfl, ?_⟩) (by assumption) ?_
      rotate_left
      · (intro w' hSw; (try dsimp only at hSw); obtain ⟨hS1, hS2, hS3, hS4, hS5, hS6⟩ := hSw; go_simp; try with_reducible rfl)
      try simp only [Act.put, List.setIfInBounds_toArray, List.set_cons_zero, List.set_cons_succ]
      refine wpAnyH_take (i := 30) (oi := { dst := some 44, op := Op.fieldAddr 50 (Operand.tmp 43) 3, type := 0, pos := "ref.go:212", after := #[{ on := 29, ground := Ground.data }], guard := none }) (v := ?_) rfl (by kernel_rfl) (by kernel_rfl) (by kernel_rfl) (fun _ _ _ h => h) (Or.inl ⟨by rfl, ?_⟩) (by assumption) ?_
      rotate_left
      · (intro w' hSw; (try dsimp only at hSw); obtain ⟨hS1, hS2, hS3, hS4, hS5, hS6⟩ := hSw; go_simp; try with_reducible rfl)
      try simp only [Act.put, List.setIfInBounds_toArray, List.set_cons_zero, List.set_cons_succ]
      refine wpAnyH_take (i := 31) (oi := { dst := some 45, op := Op.load 3 (Operand.tmp 44), type := 3, pos := "ref.go:212", after := #[{ on := 30, ground := Ground.data }], guard := none }) (v := ?_) rfl (by kernel_rfl) (by kernel_rfl) (by kernel_rfl) (fun _ _ _ h => h) (Or.inl ⟨by rfl, ?_⟩) (by assumption) ?_
      rotate_left
      · (intro w' hSw; (try dsimp only at hSw); obtain ⟨hS1, hS2, hS3, hS4, hS5, hS6⟩ := hSw; go_simp; try with_reducible rfl)
      try simp only [Act.put, List.setIfInBounds_toArray, List.set_cons_zero, List.set_cons_succ]
      refine wpAnyH_take (i := 35) (oi := { dst := some 49, op := Op.move (Operand.tmp 0), type := 23, pos := "ref.go:212", after := #[], guard := none }) (v := ?_) rfl (by kernel_rfl) (by kernel_rfl) (by kernel_rfl) (fun _ _ _ h => h) (Or.inl ⟨by rfl, ?_⟩) (by assumption) ?_
      rotate_left
      · (intro w' hSw; (try dsimp only at hSw); obtain ⟨hS1, hS2, hS3, hS4, hS5, hS6⟩ := hSw; go_simp; try with_reducible rfl)
      try simp only [Act.put, List.setIfInBounds_toArray, List.set_cons_zero, List.set_cons_succ]
      refine wpAnyH_take (i := 36) (oi := { dst := some 50, op := Op.move (Operand.tmp 4), type := 3, pos := "ref.go:212", after := #[], guard := none }) (v := ?_) rfl (by kernel_rfl) (by kernel_rfl) (by kernel_rfl) (fun _ _ _ h => h) (Or.inl ⟨by rfl, ?_⟩) (by assumption) ?_
      rotate_left
      · (intro w' hSw; (try dsimp only at hSw); obtain ⟨hS1, hS2, hS3, hS4, hS5, hS6⟩ := hSw; go_simp; try with_reducible rfl)
      try simp only [Act.put, List.setIfInBounds_toArray, List.set_cons_zero, List.set_cons_succ]
      refine wpAnyH_take (i := 37) (oi := { dst := some 51, op := Op.indexAddr 23 (Operand.tmp 49) (Operand.tmp 50), type := 0, pos := "ref.go:212", after := #[{ on := 35, ground := Ground.data }, { on := 36, ground := Ground.data }], guard := none }) (v := ?_) rfl (by kernel_rfl) (by kernel_rfl) (by kernel_rfl) (fun _ _ _ h => h) (Or.inl ⟨by rfl, ?_⟩) (by assumption) ?_
      rotate_left
      · (intro w' hSw; (try dsimp only at hSw); obtain ⟨hS1, hS2, hS3, hS4, hS5, hS6⟩ := hSw; go_simp; try with_reducible rfl)
      try simp only [Act.put, List.setIfInBounds_toArray, List.set_cons_zero, List.set_cons_succ]
      refine wpAnyH_take (i := 38) (oi := { dst := some 52, op := Op.fieldAddr 50 (Operand.tmp 51) 4, type := 0, pos := "ref.go:212", after := #[{ on := 37, ground := Ground.data }], guard := none }) (v := ?_) rfl (by kernel_rfl) (by kernel_rfl) (by kernel_rfl) (fun _ _ _ h => h) (Or.inl ⟨by rfl, ?_⟩) (by assumption) ?_
      rotate_left
      · (intro w' hSw; (try dsimp only at hSw); obtain ⟨hS1, hS2, hS3, hS4, hS5, hS6⟩ := hSw; go_simp; try with_reducible rfl)
      try simp only [Act.put, List.setIfInBounds_toArray, List.set_cons_zero, List.set_cons_succ]
      refine wpAnyH_take (i := 39) (oi := { dst := some 53, op := Op.load 3 (Operand.tmp 52), type := 3, pos := "ref.go:212", after := #[{ on := 38, ground := Ground.data }], guard := none }) (v := ?_) rfl (by kernel_rfl) (by kernel_rfl) (by kernel_rfl) (fun _ _ _ h => h) (Or.inl ⟨by rfl, ?_⟩) (by assumption) ?_
      rotate_left
      · (intro w' hSw; (try dsimp only at hSw); obtain ⟨hS1, hS2, hS3, hS4, hS5, hS6⟩ := hSw; go_simp; try with_reducible rfl)
      try simp only [Act.put, List.setIfInBounds_toArray, List.set_cons_zero, List.set_cons_succ]
      refine wpAnyH_ready (rs := [24]) (by kernel_rfl) (by simp) ?_
      refine AllReadyH.cons (o := { dst := some 38, op := Op.call { callee := Callee.value (Operand.func 39), args := #[Operand.tmp 37], argTypes := #[3] }, type := 9, pos := "ref.go:212", after := #[{ on := 23, ground := Ground.data }], guard := none }) rfl (fun K hK => ?_) AllReadyH.nil
      go_simp
      go_at_call 39
      refine (HN1.out _).mono ?_
      rintro e w2 ⟨rfl, hb⟩
      have HB1 : Hid (Below w.heap.size w w2) := Lib.hid (below_next HI.out.2.drew hb)
      clear hb
      refine hK.out _ _ (HS.out _ HB1.out) (fun hS24 => ?_)
      clear hK K hS0
      try simp only [Act.put, List.setIfInBounds_toArray, List.set_cons_zero, List.set_cons_succ]
      refine wpAnyH_take (i := 25) (oi := { dst := some 39, op := Op.binOp BinOp.add 9 (Operand.tmp 32) (Operand.tmp 38) 9, type := 9, pos := "ref.go:212", after := #[{ on := 18, ground := Ground.data }, { on := 24, ground := Ground.data }], guard := none }) (v := ?_) rfl (by kernel_rfl) (by kernel_rfl) (by kernel_rfl) (fun _ _ _ h => h) (Or.inl ⟨by rfl, ?_⟩) (by assumption) ?_
      rotate_left
      · (intro w' hSw; (try dsimp only at hSw); obtain ⟨hS1, hS2, hS3, hS4, hS5, hS6⟩ := hSw; go_simp; try with_reducible rfl)
      try simp only [Act.put, List.setIfInBounds_toArray, List.set_cons_zero, List.set_cons_succ]
      refine wpAnyH_take (i := 26) (oi := { dst := some 40, op := Op.binOp BinOp.add 9 (Operand.tmp 39) (Operand.const (Value.string { data := #[32] })) 9, type := 9, pos := "ref.go:212", after := #[{ on := 25, ground := Ground.data }], guard := none }) (v := ?_) rfl (by kernel_rfl) (by kernel_rfl) (by kernel_rfl) (fun _ _ _ h => h) (Or.inl ⟨by rfl, ?_⟩) (by assumption) ?_
      rotate_left
      · (intro w' hSw; (try dsimp only at hSw); obtain ⟨hS1, hS2, hS3, hS4, hS5, hS6⟩ := hSw; go_simp; try with_reducible rfl)
      try simp only [Act.put, List.setIfInBounds_toArray, List.set_cons_zero, List.set_cons_succ]
      refine wpAnyH_ready (rs := [32]) (by kernel_rfl) (by simp) ?_
      refine AllReadyH.cons (o := { dst := some 46, op := Op.call { callee := Callee.value (Operand.func 39), args := #[Operand.tmp 45], argTypes := #[3] }, type := 9, pos := "ref.go:212", after := #[{ on := 31, ground := Ground.data }, { on := 24, ground := Ground.chain }], guard := none }) rfl (fun K hK => ?_) AllReadyH.nil
      go_simp
      go_at_call 39
      refine (HN2.out _).mono ?_
      rintro e w3 ⟨rfl, hb⟩
      have HB2 : Hid (Below w.heap.size w w3) := Lib.hid (below_next HB1.out hb)
      clear hb
      refine hK.out _ _ (HS.out _ HB2.out) (fun hS32 => ?_)
      clear hK K hS24
      try simp only [Act.put, List.setIfInBounds_toArray, List.set_cons_zero, List.set_cons_succ]
      refine wpAnyH_take (i := 33) (oi := { dst := some 47, op := Op.binOp BinOp.add 9 (Operand.tmp 40) (Operand.tmp 46) 9, type := 9, pos := "ref.go:212", after := #[{ on := 26, ground := Ground.data }, { on := 32, ground := Ground.data }], guard := none }) (v := ?_) rfl (by kernel_rfl) (by kernel_rfl) (by kernel_rfl) (fun _ _ _ h => h) (Or.inl ⟨by rfl, ?_⟩) (by assumption) ?_
      rotate_left
      · (intro w' hSw; (try dsimp only at hSw); obtain ⟨hS1, hS2, hS3, hS4, hS5, hS6⟩ := hSw; go_simp; try with_reducible rfl)
      try simp only [Act.put, List.setIfInBounds_toArray, List.set_cons_zero, List.set_cons_succ]
      refine wpAnyH_take (i := 34) (oi := { dst := some 48, op := Op.binOp BinOp.add 9 (Operand.tmp 47) (Operand.const (Value.string { data := #[32] })) 9, type := 9, pos := "ref.go:212", after := #[{ on := 33, ground := Ground.data }], guard := none }) (v := ?_) rfl (by kernel_rfl) (by kernel_rfl) (by kernel_rfl) (fun _ _ _ h => h) (Or.inl ⟨by rfl, ?_⟩) (by assumption) ?_
      rotate_left
      · (intro w' hSw; (try dsimp only at hSw); obtain ⟨hS1, hS2, hS3, hS4, hS5, hS6⟩ := hSw; go_simp; try with_reducible rfl)
      try simp only [Act.put, List.setIfInBounds_toArray, List.set_cons_zero, List.set_cons_succ]
      refine wpAnyH_ready (rs := [40]) (by kernel_rfl) (by simp) ?_
      refine AllReadyH.cons (o := { dst := some 54, op := Op.call { callee := Callee.value (Operand.func 39), args := #[Operand.tmp 53], argTypes := #[3] }, type := 9, pos := "ref.go:212", after := #[{ on := 39, ground := Ground.data }, { on := 32, ground := Ground.chain }], guard := none }) rfl (fun K hK => ?_) AllReadyH.nil
      go_simp
      go_at_call 39
      refine (HN3.out _).mono ?_
      rintro e w4 ⟨rfl, hb⟩
      have HB3 : Hid (Below w.heap.size w w4) := Lib.hid (below_next HB2.out hb)
      clear hb
      refine hK.out _ _ (HS.out _ HB3.out) (fun hS40 => ?_)
      clear hK K hS32
      try simp only [Act.put, List.setIfInBounds_toArray, List.set_cons_zero, List.set_cons_succ]
      refine wpAnyH_take (i := 41) (oi := { dst := some 55, op := Op.binOp BinOp.add 9 (Operand.tmp 48) (Operand.tmp 54) 9, type := 9, pos := "ref.go:212", after := #[{ on := 34, ground := Ground.data }, { on := 40, ground := Ground.data }], guard := none }) (v := ?_) rfl (by kernel_rfl) (by kernel_rfl) (by kernel_rfl) (fun _ _ _ h => h) (Or.inl ⟨by rfl, ?_⟩) (by assumption) ?_
      rotate_left
      · (intro w' hSw; (try dsimp only at hSw); obtain ⟨hS1, hS2, hS3, hS4, hS5, hS6⟩ := hSw; go_simp; try with_reducible rfl)
      try simp only [Act.put, List.setIfInBounds_toArray, List.set_cons_zero, List.set_cons_succ]
      refine wpAnyH_take (i := 42) (oi := { dst := some 56, op := Op.binOp BinOp.add 9 (Operand.tmp 55) (Operand.const (Value.string { data := #[10] })) 9, type := 9, pos := "ref.go:212", after := #[{ on := 41, ground := Ground.data }], guard := none }) (v := ?_) rfl (by kernel_rfl) (by kernel_rfl) (by kernel_rfl) (fun _ _ _ h => h) (Or.inl ⟨by rfl, ?_⟩) (by assumption) ?_
      rotate_left
      · (intro w' hSw; (try dsimp only at hSw); obtain ⟨hS1, hS2, hS3, hS4, hS5, hS6⟩ := hSw; go_simp; try with_reducible rfl)
      try simp only [Act.put, List.setIfInBounds_toArray, List.set_cons_zero, List.set_cons_succ]
      refine wpAnyH_take (i := 43) (oi := { dst := some 3, op := Op.assign (Operand.tmp 56), type := 9, pos := "ref.go:212", after := #[{ on := 42, ground := Ground.data }, { on := 40, ground := Ground.chain }, { on := 0, ground := Ground.phase }, { on := 1, ground := Ground.phase }, { on := 2, ground := Ground.phase }, { on := 3, ground := Ground.phase }, { on := 4, ground := Ground.phase }, { on := 5, ground := Ground.phase }, { on := 6, ground := Ground.phase }, { on := 7, ground := Ground.phase }, { on := 8, ground := Ground.phase }, { on := 9, ground := Ground.phase }, { on := 10, ground := Ground.phase }, { on := 11, ground := Ground.phase }, { on := 12, ground := Ground.phase }, { on := 13, ground := Ground.phase }, { on := 14, ground := Ground.phase }, { on := 15, ground := Ground.phase }, { on := 16, ground := Ground.phase }, { on := 17, ground := Ground.phase }, { on := 18, ground := Ground.phase }, { on := 19, ground := Ground.phase }, { on := 20, ground := Ground.phase }, { on := 21, ground := Ground.phase }, { on := 22, ground := Ground.phase }, { on := 23, ground := Ground.phase }, { on := 24, ground := Ground.phase }, { on := 25, ground := Ground.phase }, { on := 26, ground := Ground.phase }, { on := 27, ground := Ground.phase }, { on := 28, ground := Ground.phase }, { on := 29, ground := Ground.phase }, { on := 30, ground := Ground.phase }, { on := 31, ground := Ground.phase }, { on := 32, ground := Ground.phase }, { on := 33, ground := Ground.phase }, { on := 34, ground := Ground.phase }, { on := 35, ground := Ground.phase }, { on := 36, ground := Ground.phase }, { on := 37, ground := Ground.phase }, { on := 38, ground := Ground.phase }, { on := 39, ground := Ground.phase }, { on := 40, ground := Ground.phase }, { on := 41, ground := Ground.phase }, { on := 42, ground := Ground.phase }], guard := none }) (v := ?_) rfl (by kernel_rfl) (by kernel_rfl) (by kernel_rfl) (fun _ _ _ h => h) (Or.inl ⟨by rfl, ?_⟩) (by assumption) ?_
      rotate_left
      · (intro w' hSw; (try dsimp only at hSw); obtain ⟨hS1, hS2, hS3, hS4, hS5, hS6⟩ := hSw; go_simp; try with_reducible rfl)
      try simp only [Act.put, List.setIfInBounds_toArray, List.set_cons_zero, List.set_cons_succ]
      refine wpAnyH_done (by kernel_rfl) ?_ _

      go_wp2_with fail
      go_roundg g
      case rel => exact ⟨k + 1, c10, by omega, by go_num, rfl, Lib.hid ⟨by rw [HST.out, HC10.out, HI.out.1], HB3.out⟩⟩
      case measure => omega
    · obtain rfl : k = n := by omega
      have HE : Hid (c0 = printT L) := Lib.hid (by rw [HI.out.1, HN.out, List.take_length]; rfl)
      go_wp2_with fail
      go_ret
      exact ⟨by rw [HE.out]; rfl, HI.out.2⟩
end Go.Proofs.YtolkmjgklgimpaaDoor
