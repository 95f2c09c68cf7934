/-
  The reference's Many and Spoilt.
-/
import Derived.Test.YtalladdmedmfeaaKProg
import Derived.Test.YtalladdmedmfeaaAGen
import Derived.Laws.OwnMore
namespace Go.Proofs.Ytalladdmedmfeaa
open Go.RowKit
open Alp
open Col
set_option linter.unusedVariables false
set_option linter.unusedSimpArgs false

namespace Col
def manyL (n : Nat) : List Lt := (List.range n).map fun i => ⟨[UInt8.ofNat (97 + i / 20), UInt8.ofNat (97 + i % 20)], i, 0, 0, 1⟩
theorem manyL_snoc (n : Nat) : manyL (n + 1) = manyL n ++ [⟨[UInt8.ofNat (97 + n / 20), UInt8.ofNat (97 + n % 20)], n, 0, 0, 1⟩] := by unfold manyL; rw [List.range_succ, List.map_append]; rfl
theorem manyL_len (n : Nat) : (manyL n).length = n := by simp [manyL]
end Col
theorem two_convL (q : Int) (k : Nat) (hq : q = k) (hk : k ≤ 62) (W : World) : (convert 50 9 (.slice (some ⟨W.heap.size, 0, none⟩) 2 2)).run Try.prog (W.alloc (.cells #[.int .u8 (97 + q / 20), .int .u8 (97 + q % 20)] 5)) = .ok (.string (tb [UInt8.ofNat (97 + k / 20), UInt8.ofNat (97 + k % 20)])) (W.alloc (.cells #[.int .u8 (97 + q / 20), .int .u8 (97 + q % 20)] 5)) := by
  obtain ⟨T, hT⟩ : ∃ T, T = [UInt8.ofNat (97 + k / 20), UInt8.ofNat (97 + k % 20)] := ⟨_, rfl⟩
  have e : (#[.int .u8 (97 + q / 20), .int .u8 (97 + q % 20)] : Array Value) = (bs T).toArray := by
    have h1 : ((UInt8.ofNat (97 + k / 20)).toNat : Int) = 97 + q / 20 := by rw [UInt8.toNat_ofNat']; omega
    have h2 : ((UInt8.ofNat (97 + k % 20)).toNat : Int) = 97 + q % 20 := by rw [UInt8.toNat_ofNat']; omega
    rw [← h1, ← h2, hT]
    rfl
  have hr : Rd (W.alloc (.cells #[.int .u8 (97 + q / 20), .int .u8 (97 + q % 20)] 5)) (some ⟨W.heap.size, 0, none⟩) (bs T) := .inr ⟨W.heap.size, 0, rfl, fun k v hv => by rw [Nat.zero_add]; exact (Blk.at W (bs T) _ 5 _ e rfl).cell hv⟩
  have := conv_rd (l := T) Try.underlying50 Try.underlying5 Try.underlying9 hr 2
  rw [show T.length = 2 by rw [hT]; rfl] at this
  rw [← hT]
  exact this
theorem one_convL (q : Int) (h0 : 0 ≤ q) (h9 : q < 256) (W : World) : (convert 50 9 (.slice (some ⟨W.heap.size, 0, none⟩) 1 1)).run Try.prog (W.alloc (.cells #[.int .u8 q] 5)) = .ok (.string (tb [UInt8.ofNat q.toNat])) (W.alloc (.cells #[.int .u8 q] 5)) := by
  obtain ⟨T, hT⟩ : ∃ T, T = [UInt8.ofNat q.toNat] := ⟨_, rfl⟩
  have e : (#[Value.int .u8 q] : Array Value) = (bs T).toArray := by
    have h1 : ((UInt8.ofNat q.toNat).toNat : Int) = q := by rw [UInt8.toNat_ofNat']; omega
    rw [hT]
    show #[Value.int .u8 q] = #[Value.int .u8 ((UInt8.ofNat q.toNat).toNat : Int)]
    rw [h1]
  have hr : Rd (W.alloc (.cells #[.int .u8 q] 5)) (some ⟨W.heap.size, 0, none⟩) (bs T) := .inr ⟨W.heap.size, 0, rfl, fun k v hv => by rw [Nat.zero_add]; exact (Blk.at W (bs T) _ 5 _ e rfl).cell hv⟩
  have := conv_rd (l := T) Try.underlying50 Try.underlying5 Try.underlying9 hr 1
  rw [show T.length = 1 by rw [hT]; rfl] at this
  rw [← hT]
  exact this
set_option maxRecDepth 100000 in
set_option maxHeartbeats 4000000 in
theorem manyL_any (N : Nat) (hN : N ≤ 62) (w : World) : Calls Try.prog 39 #[.int .i64 (N : Int)] w (LtPost w (manyL N)) := by
  obtain ⟨i0, hi0, hz0, hz1, hz2⟩ := info_parts Try.infoLt
  go_enter Try.func39, Try.ntmps39
  go_wp2_with fail
  go_loopg [3, 4] N (fun g s3 s4 wr => ∃ (k : Nat) (q : Int), k + g = N ∧ s4 = .int .i64 q ∧ Hid (q = k) ∧ Hid (wr.ownsRow w.heap.size 54 5 s3 k (lv (manyL k)) ∧ Below w.heap.size w wr))
  case atStart => exact ⟨0, 0, by omega, rfl, Lib.hid rfl, Lib.hid ⟨⟨rfl, .inl ⟨rfl, rfl⟩⟩, Below.refl _ _⟩⟩
  case round =>
    obtain ⟨k, q, hk, rfl, HQ, HI⟩ := hrel
    obtain ⟨A2, c2, hv, hrd, hmc, hm2⟩ := Rd.of_own HI.out.1
    subst hv
    have HRD := Lib.hid hrd
    clear hrd
    have q0 : 0 ≤ q := by have := HQ.out; omega
    have q1 : q ≤ 62 := by have := HQ.out; omega
    by_cases hlt : k < N
    · obtain ⟨g, rfl⟩ : ∃ g, gk = g + 1 := ⟨gk - 1, by omega⟩
      have hd : decide (q < (N : Int)) = true := decide_eq_true (by have := HQ.out; omega)
      have hql : q < (N : Int) := by have := HQ.out; omega
      obtain ⟨T, hT⟩ : ∃ T, T = [UInt8.ofNat (97 + k / 20), UInt8.ofNat (97 + k % 20)] := ⟨_, rfl⟩
      have hcv2 : (convert 50 9 (.slice (some ⟨wr.heap.size, 0, none⟩) 2 2)).run Try.prog (wr.alloc (.cells #[.int .u8 (97 + q / 20), .int .u8 (97 + q % 20)] 5)) = .ok (.string (tb T)) (wr.alloc (.cells #[.int .u8 (97 + q / 20), .int .u8 (97 + q % 20)] 5)) := by rw [hT]; exact two_convL q k HQ.out (by omega) wr
      have HM : Hid (manyL (k + 1) = manyL k ++ [⟨T, q, 0, 0, 1⟩]) := Lib.hid (by rw [manyL_snoc, hT, HQ.out])
      have hs1 : k + 1 ≤ maxLen := by unfold maxLen; omega
      have hs2 : (k + 1) * 48 ≤ 140737488355328 := by omega
      clear hT
      go_wp2_with (at_builtin; refine wpList_own_src rfl (.tmp 10) (.tmp 23) 24 24 rfl w.heap.size 54 i0 _ 5 48 Try.underlying24 hi0 hz0 hz1 hz2 rfl _ _ _ rfl (own_alc (own_alc HI.out.1 _) _) _ 1 (lc ⟨T, q, 0, 0, 1⟩) rfl (src_lt Try.underlying24 hz1 _ _ _ _ (by simp)) hs1 hs2 (below_al (below_al HI.out.2 _) _).size ?_; intro v4 w4 hown4 hg4 hat4; have HX4 : Hid (w4.ownsRow w.heap.size 54 5 v4 (k + 1) (lv (manyL k) ++ lc ⟨T, q, 0, 0, 1⟩) ∧ Below w.heap.size w w4) := Lib.hid ⟨hown4, below_own (below_al (below_al HI.out.2 _) _) hg4 (fun g hg => (HI.out.1.lt _ hg).1)⟩; clear hown4 hg4 hat4)
      go_roundg g
      case rel => exact ⟨k + 1, q + 1, by omega, rfl, Lib.hid (by have := HQ.out; omega), Lib.hid ⟨by rw [HM.out, lv_snoc]; exact HX4.out.1, HX4.out.2⟩⟩
      case measure => omega
    · obtain rfl : k = N := by omega
      have hd : decide (q < (k : Int)) = false := decide_eq_false (by have := HQ.out; omega)
      have hql : ¬ q < (k : Int) := by have := HQ.out; omega
      go_wp2_with fail
      go_ret
      exact ⟨A2, k, c2, rfl, (manyL_len k).symm, HRD.out, hmc, hm2, HI.out.2⟩

/-! ## Spoilt -/
theorem lv_set (L : List Lt) (k j : Nat) (u : Value) (l' : Lt) (hk : k < L.length) (hj : j < 5) (h : (lc (L.getD k z)).set j u = lc l') : (lv L).set (k * 5 + j) u = lv (L.set k l') := by
  induction L generalizing k with
  | nil => simp at hk
  | cons a L ih =>
    have e : lv (a :: L) = lc a ++ lv L := by simp [lv]
    cases k with
    | zero =>
      have h' : (lc a).set j u = lc l' := h
      rw [e, Nat.zero_mul, Nat.zero_add, List.set_append_left _ _ (by rw [lc_length]; exact hj), h']
      simp [lv]
    | succ k =>
      have e2 : (a :: L).set (k + 1) l' = a :: L.set k l' := rfl
      have e3 : lv (a :: L.set k l') = lc a ++ lv (L.set k l') := by simp [lv]
      rw [e, e2, e3, List.set_append_right _ _ (by rw [lc_length]; omega), lc_length, show (k + 1) * 5 + j - 5 = k * 5 + j by omega, ih k (by simpa using hk) h]
theorem lv_take (L : List Lt) (k : Nat) : lv (L.take k) = (lv L).take (k * 5) := by
  induction L generalizing k with
  | nil => simp [lv]
  | cons a L ih =>
    have e : lv (a :: L) = lc a ++ lv L := by simp [lv]
    cases k with
    | zero => simp [lv]
    | succ k =>
      have e3 : lv (a :: L.take k) = lc a ++ lv (L.take k) := by simp [lv]
      rw [List.take_succ_cons, e, e3, ih, List.take_append, lc_length, show (k + 1) * 5 - 5 = k * 5 by omega]
      rw [List.take_of_length_le (show (lc a).length ≤ (k + 1) * 5 by rw [lc_length]; omega)]
def SpPost (w : World) (e : Ending) (w' : World) : Prop := ∃ L A n c, e = .returned (.slice A n c) ∧ AlR w' L A n c ∧ Below w.heap.size w w'
theorem sp_out {w w' : World} {e : Ending} (h : SpPost w e w') : ∃ L A n c, e = .returned (.slice A n c) ∧ AlR w' L A n c ∧ Below w.heap.size w w' := h
section
variable {w W : World} {g n c k : Nat} {L : List Lt}
theorem sp_set (h : W.ownsRow w.heap.size 54 5 (.slice (some ⟨g, 0, none⟩) n c) n (lv L)) (hb : Below w.heap.size w W) (hg : w.heap.size ≤ g) (hn : n = L.length) (ht : ∀ l ∈ L, l.text.length ≤ maxLen) (hk : k < n) (j : Nat) (hj : j < 5) (u : Value) (l' : Lt) (hl : (lc (L.getD k z)).set j u = lc l') (hl2 : l'.text.length ≤ maxLen) :
    SpPost w (.returned (.slice (some ⟨g, 0, none⟩) n c)) (W.setCell ⟨g, k * 5 + j, none⟩ u) := by
  have h1 := (h.stored (k * 5 + j) u).1
  rw [lv_set L k j u l' (by omega) hj hl] at h1
  obtain ⟨A, c', e, hr, h3, h4⟩ := Rd.of_own h1
  simp only [Value.slice.injEq, true_and] at e
  obtain ⟨rfl, rfl⟩ := e
  refine ⟨L.set k l', _, _, _, rfl, ⟨by rw [List.length_set, hn], h3, h4, fun l hl => ?_, hr⟩, hb.setCell hg _⟩
  rcases List.mem_or_eq_of_mem_set hl with h5 | h5
  · exact ht l h5
  · rw [h5]; exact hl2
theorem sp_take (h : W.ownsRow w.heap.size 54 5 (.slice (some ⟨g, 0, none⟩) n c) n (lv L)) (hb : Below w.heap.size w W) (hn : n = L.length) (ht : ∀ l ∈ L, l.text.length ≤ maxLen) (hk : k < n) :
    SpPost w (.returned (.slice (some ⟨g, 0, none⟩) k c)) W := by
  obtain ⟨A, c', e, hr, h3, h4⟩ := Rd.of_own h
  simp only [Value.slice.injEq, true_and] at e
  obtain ⟨rfl, rfl⟩ := e
  refine ⟨L.take k, _, _, _, rfl, ⟨by rw [List.length_take]; omega, by omega, h4, fun l hl => ht l (List.mem_of_mem_take hl), ?_⟩, hb⟩
  rw [lv_take]
  rcases hr with hr | ⟨b, o, e, hc⟩
  · exact .inl (by rw [hr]; simp)
  · refine .inr ⟨b, o, e, fun i v hv => hc i v ?_⟩
    rw [List.getElem?_take] at hv
    split at hv
    · exact hv
    · cases hv
theorem src_al {size q : Nat} {A : Option Addr} (hs : size = 5) (h : AlR w L A q c) : Src Try.prog size 24 (.slice A q c) q (lv L) w := by
  subst hs
  cases A with
  | none =>
    rcases h.rd with hr | ⟨b, o, e, _⟩
    · have h0 : q = 0 := by have := congrArg List.length hr; rw [lv_length, ← h.len, List.length_nil] at this; omega
      rw [h0, hr]
      exact Src.ofNil w Try.underlying24 c
    · cases e
  | some a =>
    refine Src.ofSlice w Try.underlying24 a q c (lv L) (by rw [lv_length, h.len]; omega) (fun j u hu => ?_) (lv_one L)
    rcases h.rd with hr | ⟨b, o, e, hc⟩
    · rw [hr] at hu; simp at hu
    · obtain rfl : a = ⟨b, o, none⟩ := by simpa using e
      have ha : (⟨b, o, none⟩ : Addr).add j = ⟨b, o + j, none⟩ := by unfold Addr.add; split <;> simp_all
      rw [ha]
      exact hc j u hu
theorem sp_cell (h : W.ownsRow w.heap.size 54 5 (.slice (some ⟨g, 0, none⟩) n c) n (lv L)) (hn : n = L.length) (hk : k < n) (j : Nat) (v : Value) (hv : (lc (L.getD k z))[j]? = some v) : W.cell? ⟨g, k * 5 + j, none⟩ = some v := by
  have hj : j < 5 := by have := (List.getElem?_eq_some_iff.1 hv).1; rwa [lc_length] at this
  rw [h.cellAt _ (by omega), lv_get L k (by omega) j hj]
  exact hv
end
theorem sp_form {w W : World} {v : Value} {q : Nat} {xs : List Value} (h : W.ownsRow w.heap.size 54 5 v q xs) (hq : 1 ≤ q) : ∃ g c, v = .slice (some ⟨g, 0, none⟩) q c ∧ w.heap.size ≤ g ∧ q ≤ c ∧ c ≤ 9223372036854775807 := by
  rcases h.2 with ⟨_, h0⟩ | ⟨g, cap, cur, e, h1, _, h2, h3, _⟩
  · omega
  · exact ⟨g, cap, e, h1, h2, by unfold maxLen at h3; exact h3⟩
set_option maxRecDepth 1000000 in
set_option maxHeartbeats 16000000 in
theorem spoilt_any (L : List Lt) (A : Option Addr) (q cq : Nat) (at_ how by_ : Int) (hat : inI at_) (hhow : inI how) (hby : inI by_) (hq1 : 1 ≤ q) (hq60 : q ≤ 60) (w : World) (ha : AlR w L A q cq) :
    Calls Try.prog 13 #[.slice A q cq, .int .i64 at_, .int .i64 how, .int .i64 by_] w (SpPost w) := by
  obtain ⟨i0, hi0, hz0, hz1, hz2⟩ := info_parts Try.infoLt
  have HN := Lib.hid ha.len
  have HS := Lib.hid ha.txt
  have hcq : q ≤ cq := ha.cap
  have hcm : cq ≤ 9223372036854775807 := by have := ha.max; unfold maxLen at this; exact this
  obtain ⟨b, o, rfl, hrl⟩ := rl_open ha.rd (by intro e; have := ha.len; rw [e] at this; simp at this; omega)
  obtain ⟨k, hkk⟩ : ∃ k : Nat, arP at_ (q : Int) = k := ⟨_, (Int.toNat_of_nonneg (arP_bd at_ (by omega)).1).symm⟩
  have hk : k < q := by have := (arP_bd at_ (m := (q : Int)) (by omega)).2; omega
  obtain ⟨cas0, hh⟩ : ∃ h : Int, arP how 13 = h := ⟨_, rfl⟩
  have hh13 : 0 ≤ cas0 ∧ cas0 < 13 := by rw [← hh]; exact arP_bd how (m := 13) (by omega)
  have HK : Hid (∀ W, Calls Try.prog 27 #[.int .i64 at_, .int .i64 (q : Int)] W fun e w' => e = .returned (.int .i64 (k : Int)) ∧ W = w') := Lib.hid fun W => by rw [← hkk]; exact raround_any at_ q hat.1 hat.2 (by omega) (by omega) W
  have HH : Hid (∀ W, Calls Try.prog 27 #[.int .i64 how, .int .i64 13] W fun e w' => e = .returned (.int .i64 cas0) ∧ W = w') := Lib.hid fun W => by rw [← hh]; exact raround_any how 13 hhow.1 hhow.2 (by omega) (by omega) W
  have hs1 : 0 + q ≤ maxLen := by unfold maxLen; omega
  have hs2 : (0 + q) * 48 ≤ 140737488355328 := by omega
  obtain ⟨l0, hl0⟩ : ∃ l0, l0 = L.getD k z := ⟨_, rfl⟩
  have HM0 : Hid (l0 ∈ L) := Lib.hid (by rw [hl0]; exact getD_mem (by rw [← ha.len]; exact hk))
  have HL0 := Lib.hid hl0
  have HSRC : Hid (Src Try.prog i0.size 24 (.slice (some ⟨b, o, none⟩) q cq) q (lv L) w) := Lib.hid (src_al hz1 ha)
  clear ha hrl hkk hh hat hhow hl0
  by_cases h0 : cas0 = 0
  · subst h0
    clear hby
    go_enter Try.func13, Try.ntmps13
    go_wp2_with (first
      | (at_builtin; refine wpList_own_src rfl (.tmp 11) (.tmp 12) 24 24 rfl w.heap.size 54 i0 _ 5 48 Try.underlying24 hi0 hz0 hz1 hz2 rfl _ 0 [] rfl (World.ownsRow_nil _ _ _ _) _ q (lv L) rfl HSRC.out hs1 hs2 (Nat.le_refl _) ?_; intro v4 W5 hown4 hg4 hat4; have HO0 : Hid (W5.ownsRow w.heap.size 54 5 v4 q (lv L) ∧ Below w.heap.size w W5) := Lib.hid ⟨by have := hown4; rwa [Nat.zero_add, List.nil_append] at this, below_own (Below.refl _ _) hg4 (fun g hg => by cases hg)⟩; clear hown4 hg4 hat4; obtain ⟨g, c5, hv4, hg, hqc, hcm5⟩ := sp_form HO0.out.1 hq1; subst hv4; have HO : Hid (W5.ownsRow w.heap.size 54 5 (.slice (some ⟨g, 0, none⟩) q c5) q (lv L)) := Lib.hid HO0.out.1; have HB : Hid (Below w.heap.size w W5) := Lib.hid HO0.out.2; have HC : Hid (∀ (W : World) (j : Nat) (v : Value), W.ownsRow w.heap.size 54 5 (.slice (some ⟨g, 0, none⟩) q c5) q (lv L) → (lc (L.getD k z))[j]? = some v → W.cell? ⟨g, k * 5 + j, none⟩ = some v) := Lib.hid fun W j v h hv => sp_cell h HN.out hk j v hv; clear HO0; have hce : W5.cell? ⟨g, k * 5, none⟩ = some (.string (tb l0.text)) := HC.out W5 0 _ HO.out (by rw [← HL0.out]; rfl); have hfz : W5.frozen? ⟨g, k * 5, none⟩ = false := HO.out.frozenAt _)
      | ((with_reducible refine (HK.out _).mono ?_); rintro e w1 ⟨rfl, rfl⟩)
      | ((with_reducible refine (HH.out _).mono ?_); rintro e w1 ⟨rfl, rfl⟩))
    go_ret
    exact sp_set HO.out HB.out hg HN.out HS.out hk 0 (by omega) (.string ⟨#[]⟩) ⟨[], l0.base, l0.mark, l0.cas, l0.width⟩ (by rw [← HL0.out]; rfl) (by first | exact HS.out l0 HM0.out | (simp [maxLen]))
  by_cases h1 : cas0 = 1
  · subst h1
    obtain ⟨k2, hk2⟩ : ∃ k2 : Nat, k2 = (k + 1) % q := ⟨_, rfl⟩
    have hk2q : k2 < q := by rw [hk2]; exact Nat.mod_lt _ (by omega)
    have hmod : ((k : Int) + 1).tmod (q : Int) = (k2 : Int) := by rw [Int.tmod_eq_emod_of_nonneg (by omega), hk2]; push_cast; rfl
    obtain ⟨l2, hl2⟩ : ∃ l2, l2 = L.getD k2 z := ⟨_, rfl⟩
    have HL2 : Hid (l2.text.length ≤ maxLen ∧ l2 = L.getD k2 z) := Lib.hid ⟨HS.out l2 (by rw [hl2]; exact getD_mem (by have := HN.out; omega)), hl2⟩
    clear hk2 hl2
    clear hby
    go_enter Try.func13, Try.ntmps13
    go_wp2_with (first
      | (at_builtin; refine wpList_own_src rfl (.tmp 11) (.tmp 12) 24 24 rfl w.heap.size 54 i0 _ 5 48 Try.underlying24 hi0 hz0 hz1 hz2 rfl _ 0 [] rfl (World.ownsRow_nil _ _ _ _) _ q (lv L) rfl HSRC.out hs1 hs2 (Nat.le_refl _) ?_; intro v4 W5 hown4 hg4 hat4; have HO0 : Hid (W5.ownsRow w.heap.size 54 5 v4 q (lv L) ∧ Below w.heap.size w W5) := Lib.hid ⟨by have := hown4; rwa [Nat.zero_add, List.nil_append] at this, below_own (Below.refl _ _) hg4 (fun g hg => by cases hg)⟩; clear hown4 hg4 hat4; obtain ⟨g, c5, hv4, hg, hqc, hcm5⟩ := sp_form HO0.out.1 hq1; subst hv4; have HO : Hid (W5.ownsRow w.heap.size 54 5 (.slice (some ⟨g, 0, none⟩) q c5) q (lv L)) := Lib.hid HO0.out.1; have HB : Hid (Below w.heap.size w W5) := Lib.hid HO0.out.2; have HC : Hid (∀ (W : World) (j : Nat) (v : Value), W.ownsRow w.heap.size 54 5 (.slice (some ⟨g, 0, none⟩) q c5) q (lv L) → (lc (L.getD k z))[j]? = some v → W.cell? ⟨g, k * 5 + j, none⟩ = some v) := Lib.hid fun W j v h hv => sp_cell h HN.out hk j v hv; clear HO0; have hce2 : W5.cell? ⟨g, k2 * 5, none⟩ = some (.string (tb l2.text)) := sp_cell HO.out HN.out hk2q 0 _ (by rw [← HL2.out.2]; rfl); have hce : W5.cell? ⟨g, k * 5, none⟩ = some (.string (tb l0.text)) := HC.out W5 0 _ HO.out (by rw [← HL0.out]; rfl); have hfz : W5.frozen? ⟨g, k * 5, none⟩ = false := HO.out.frozenAt _)
      | ((with_reducible refine (HK.out _).mono ?_); rintro e w1 ⟨rfl, rfl⟩)
      | ((with_reducible refine (HH.out _).mono ?_); rintro e w1 ⟨rfl, rfl⟩))
    go_ret
    exact sp_set HO.out HB.out hg HN.out HS.out hk 0 (by omega) (.string (tb l2.text)) ⟨l2.text, l0.base, l0.mark, l0.cas, l0.width⟩ (by rw [← HL0.out]; rfl) (HL2.out.1)
  by_cases h2 : cas0 = 2
  · subst h2
    obtain ⟨x, hx⟩ : ∃ x : Nat, arP by_ 4 = x := ⟨_, (Int.toNat_of_nonneg (arP_bd by_ (by omega)).1).symm⟩
    have hxb : x < 4 := by have := (arP_bd by_ (m := 4) (by omega)).2; omega
    have HX : Hid (∀ W, Calls Try.prog 27 #[.int .i64 by_, .int .i64 4] W fun e w' => e = .returned (.int .i64 (x : Int)) ∧ W = w') := Lib.hid fun W => by rw [← hx]; exact raround_any by_ 4 hby.1 hby.2 (by omega) (by omega) W
    clear hx
    rcases (show x = 0 ∨ x = 1 ∨ x = 2 ∨ x = 3 by omega) with rfl | rfl | rfl | rfl
    · skip
      clear hby
      go_enter Try.func13, Try.ntmps13
      go_wp2_with (first
        | (at_builtin; refine wpList_own_src rfl (.tmp 11) (.tmp 12) 24 24 rfl w.heap.size 54 i0 _ 5 48 Try.underlying24 hi0 hz0 hz1 hz2 rfl _ 0 [] rfl (World.ownsRow_nil _ _ _ _) _ q (lv L) rfl HSRC.out hs1 hs2 (Nat.le_refl _) ?_; intro v4 W5 hown4 hg4 hat4; have HO0 : Hid (W5.ownsRow w.heap.size 54 5 v4 q (lv L) ∧ Below w.heap.size w W5) := Lib.hid ⟨by have := hown4; rwa [Nat.zero_add, List.nil_append] at this, below_own (Below.refl _ _) hg4 (fun g hg => by cases hg)⟩; clear hown4 hg4 hat4; obtain ⟨g, c5, hv4, hg, hqc, hcm5⟩ := sp_form HO0.out.1 hq1; subst hv4; have HO : Hid (W5.ownsRow w.heap.size 54 5 (.slice (some ⟨g, 0, none⟩) q c5) q (lv L)) := Lib.hid HO0.out.1; have HB : Hid (Below w.heap.size w W5) := Lib.hid HO0.out.2; have HC : Hid (∀ (W : World) (j : Nat) (v : Value), W.ownsRow w.heap.size 54 5 (.slice (some ⟨g, 0, none⟩) q c5) q (lv L) → (lc (L.getD k z))[j]? = some v → W.cell? ⟨g, k * 5 + j, none⟩ = some v) := Lib.hid fun W j v h hv => sp_cell h HN.out hk j v hv; clear HO0; have hce : W5.cell? ⟨g, k * 5, none⟩ = some (.string (tb l0.text)) := HC.out W5 0 _ HO.out (by rw [← HL0.out]; rfl); have hfz : W5.frozen? ⟨g, k * 5, none⟩ = false := HO.out.frozenAt _)
        | ((with_reducible refine (HK.out _).mono ?_); rintro e w1 ⟨rfl, rfl⟩)
        | ((with_reducible refine (HH.out _).mono ?_); rintro e w1 ⟨rfl, rfl⟩)
        | ((with_reducible refine (HX.out _).mono ?_); rintro e w1 ⟨rfl, rfl⟩))
      go_ret
      exact sp_set HO.out HB.out hg HN.out HS.out hk 0 (by omega) (.string (tb [97, 120])) ⟨[97, 120], l0.base, l0.mark, l0.cas, l0.width⟩ (by rw [← HL0.out]; rfl) (by first | exact HS.out l0 HM0.out | (simp [maxLen]))
    · skip
      clear hby
      go_enter Try.func13, Try.ntmps13
      go_wp2_with (first
        | (at_builtin; refine wpList_own_src rfl (.tmp 11) (.tmp 12) 24 24 rfl w.heap.size 54 i0 _ 5 48 Try.underlying24 hi0 hz0 hz1 hz2 rfl _ 0 [] rfl (World.ownsRow_nil _ _ _ _) _ q (lv L) rfl HSRC.out hs1 hs2 (Nat.le_refl _) ?_; intro v4 W5 hown4 hg4 hat4; have HO0 : Hid (W5.ownsRow w.heap.size 54 5 v4 q (lv L) ∧ Below w.heap.size w W5) := Lib.hid ⟨by have := hown4; rwa [Nat.zero_add, List.nil_append] at this, below_own (Below.refl _ _) hg4 (fun g hg => by cases hg)⟩; clear hown4 hg4 hat4; obtain ⟨g, c5, hv4, hg, hqc, hcm5⟩ := sp_form HO0.out.1 hq1; subst hv4; have HO : Hid (W5.ownsRow w.heap.size 54 5 (.slice (some ⟨g, 0, none⟩) q c5) q (lv L)) := Lib.hid HO0.out.1; have HB : Hid (Below w.heap.size w W5) := Lib.hid HO0.out.2; have HC : Hid (∀ (W : World) (j : Nat) (v : Value), W.ownsRow w.heap.size 54 5 (.slice (some ⟨g, 0, none⟩) q c5) q (lv L) → (lc (L.getD k z))[j]? = some v → W.cell? ⟨g, k * 5 + j, none⟩ = some v) := Lib.hid fun W j v h hv => sp_cell h HN.out hk j v hv; clear HO0; have hce : W5.cell? ⟨g, k * 5, none⟩ = some (.string (tb l0.text)) := HC.out W5 0 _ HO.out (by rw [← HL0.out]; rfl); have hfz : W5.frozen? ⟨g, k * 5, none⟩ = false := HO.out.frozenAt _)
        | ((with_reducible refine (HK.out _).mono ?_); rintro e w1 ⟨rfl, rfl⟩)
        | ((with_reducible refine (HH.out _).mono ?_); rintro e w1 ⟨rfl, rfl⟩)
        | ((with_reducible refine (HX.out _).mono ?_); rintro e w1 ⟨rfl, rfl⟩))
      go_ret
      exact sp_set HO.out HB.out hg HN.out HS.out hk 0 (by omega) (.string (tb [97, 98, 120])) ⟨[97, 98, 120], l0.base, l0.mark, l0.cas, l0.width⟩ (by rw [← HL0.out]; rfl) (by first | exact HS.out l0 HM0.out | (simp [maxLen]))
    · skip
      clear hby
      go_enter Try.func13, Try.ntmps13
      go_wp2_with (first
        | (at_builtin; refine wpList_own_src rfl (.tmp 11) (.tmp 12) 24 24 rfl w.heap.size 54 i0 _ 5 48 Try.underlying24 hi0 hz0 hz1 hz2 rfl _ 0 [] rfl (World.ownsRow_nil _ _ _ _) _ q (lv L) rfl HSRC.out hs1 hs2 (Nat.le_refl _) ?_; intro v4 W5 hown4 hg4 hat4; have HO0 : Hid (W5.ownsRow w.heap.size 54 5 v4 q (lv L) ∧ Below w.heap.size w W5) := Lib.hid ⟨by have := hown4; rwa [Nat.zero_add, List.nil_append] at this, below_own (Below.refl _ _) hg4 (fun g hg => by cases hg)⟩; clear hown4 hg4 hat4; obtain ⟨g, c5, hv4, hg, hqc, hcm5⟩ := sp_form HO0.out.1 hq1; subst hv4; have HO : Hid (W5.ownsRow w.heap.size 54 5 (.slice (some ⟨g, 0, none⟩) q c5) q (lv L)) := Lib.hid HO0.out.1; have HB : Hid (Below w.heap.size w W5) := Lib.hid HO0.out.2; have HC : Hid (∀ (W : World) (j : Nat) (v : Value), W.ownsRow w.heap.size 54 5 (.slice (some ⟨g, 0, none⟩) q c5) q (lv L) → (lc (L.getD k z))[j]? = some v → W.cell? ⟨g, k * 5 + j, none⟩ = some v) := Lib.hid fun W j v h hv => sp_cell h HN.out hk j v hv; clear HO0; have hce : W5.cell? ⟨g, k * 5, none⟩ = some (.string (tb l0.text)) := HC.out W5 0 _ HO.out (by rw [← HL0.out]; rfl); have hfz : W5.frozen? ⟨g, k * 5, none⟩ = false := HO.out.frozenAt _)
        | ((with_reducible refine (HK.out _).mono ?_); rintro e w1 ⟨rfl, rfl⟩)
        | ((with_reducible refine (HH.out _).mono ?_); rintro e w1 ⟨rfl, rfl⟩)
        | ((with_reducible refine (HX.out _).mono ?_); rintro e w1 ⟨rfl, rfl⟩))
      go_ret
      exact sp_set HO.out HB.out hg HN.out HS.out hk 0 (by omega) (.string (tb [97, 98, 99, 120])) ⟨[97, 98, 99, 120], l0.base, l0.mark, l0.cas, l0.width⟩ (by rw [← HL0.out]; rfl) (by first | exact HS.out l0 HM0.out | (simp [maxLen]))
    · skip
      clear hby
      go_enter Try.func13, Try.ntmps13
      go_wp2_with (first
        | (at_builtin; refine wpList_own_src rfl (.tmp 11) (.tmp 12) 24 24 rfl w.heap.size 54 i0 _ 5 48 Try.underlying24 hi0 hz0 hz1 hz2 rfl _ 0 [] rfl (World.ownsRow_nil _ _ _ _) _ q (lv L) rfl HSRC.out hs1 hs2 (Nat.le_refl _) ?_; intro v4 W5 hown4 hg4 hat4; have HO0 : Hid (W5.ownsRow w.heap.size 54 5 v4 q (lv L) ∧ Below w.heap.size w W5) := Lib.hid ⟨by have := hown4; rwa [Nat.zero_add, List.nil_append] at this, below_own (Below.refl _ _) hg4 (fun g hg => by cases hg)⟩; clear hown4 hg4 hat4; obtain ⟨g, c5, hv4, hg, hqc, hcm5⟩ := sp_form HO0.out.1 hq1; subst hv4; have HO : Hid (W5.ownsRow w.heap.size 54 5 (.slice (some ⟨g, 0, none⟩) q c5) q (lv L)) := Lib.hid HO0.out.1; have HB : Hid (Below w.heap.size w W5) := Lib.hid HO0.out.2; have HC : Hid (∀ (W : World) (j : Nat) (v : Value), W.ownsRow w.heap.size 54 5 (.slice (some ⟨g, 0, none⟩) q c5) q (lv L) → (lc (L.getD k z))[j]? = some v → W.cell? ⟨g, k * 5 + j, none⟩ = some v) := Lib.hid fun W j v h hv => sp_cell h HN.out hk j v hv; clear HO0; have hce : W5.cell? ⟨g, k * 5, none⟩ = some (.string (tb l0.text)) := HC.out W5 0 _ HO.out (by rw [← HL0.out]; rfl); have hfz : W5.frozen? ⟨g, k * 5, none⟩ = false := HO.out.frozenAt _)
        | ((with_reducible refine (HK.out _).mono ?_); rintro e w1 ⟨rfl, rfl⟩)
        | ((with_reducible refine (HH.out _).mono ?_); rintro e w1 ⟨rfl, rfl⟩)
        | ((with_reducible refine (HX.out _).mono ?_); rintro e w1 ⟨rfl, rfl⟩))
      go_ret
      exact sp_set HO.out HB.out hg HN.out HS.out hk 0 (by omega) (.string (tb [97, 98, 99, 100, 120])) ⟨[97, 98, 99, 100, 120], l0.base, l0.mark, l0.cas, l0.width⟩ (by rw [← HL0.out]; rfl) (by first | exact HS.out l0 HM0.out | (simp [maxLen]))
  by_cases h3 : cas0 = 3
  · subst h3
    obtain ⟨x, hx⟩ : ∃ x : Nat, arP by_ 256 = x := ⟨_, (Int.toNat_of_nonneg (arP_bd by_ (by omega)).1).symm⟩
    have hxb : x < 256 := by have := (arP_bd by_ (m := 256) (by omega)).2; omega
    have HX : Hid (∀ W, Calls Try.prog 27 #[.int .i64 by_, .int .i64 256] W fun e w' => e = .returned (.int .i64 (x : Int)) ∧ W = w') := Lib.hid fun W => by rw [← hx]; exact raround_any by_ 256 hby.1 hby.2 (by omega) (by omega) W
    clear hx
    clear hby
    go_enter Try.func13, Try.ntmps13
    go_wp2_with (first
      | (at_builtin; refine wpList_own_src rfl (.tmp 11) (.tmp 12) 24 24 rfl w.heap.size 54 i0 _ 5 48 Try.underlying24 hi0 hz0 hz1 hz2 rfl _ 0 [] rfl (World.ownsRow_nil _ _ _ _) _ q (lv L) rfl HSRC.out hs1 hs2 (Nat.le_refl _) ?_; intro v4 W5 hown4 hg4 hat4; have HO0 : Hid (W5.ownsRow w.heap.size 54 5 v4 q (lv L) ∧ Below w.heap.size w W5) := Lib.hid ⟨by have := hown4; rwa [Nat.zero_add, List.nil_append] at this, below_own (Below.refl _ _) hg4 (fun g hg => by cases hg)⟩; clear hown4 hg4 hat4; obtain ⟨g, c5, hv4, hg, hqc, hcm5⟩ := sp_form HO0.out.1 hq1; subst hv4; have HO : Hid (W5.ownsRow w.heap.size 54 5 (.slice (some ⟨g, 0, none⟩) q c5) q (lv L)) := Lib.hid HO0.out.1; have HB : Hid (Below w.heap.size w W5) := Lib.hid HO0.out.2; have HC : Hid (∀ (W : World) (j : Nat) (v : Value), W.ownsRow w.heap.size 54 5 (.slice (some ⟨g, 0, none⟩) q c5) q (lv L) → (lc (L.getD k z))[j]? = some v → W.cell? ⟨g, k * 5 + j, none⟩ = some v) := Lib.hid fun W j v h hv => sp_cell h HN.out hk j v hv; clear HO0; have hce : ∀ o, (W5.alloc o).cell? ⟨g, k * 5, none⟩ = some (.string (tb l0.text)) := fun o => HC.out _ 0 _ (own_alc HO.out o) (by rw [← HL0.out]; rfl); have hfz : ∀ o, (W5.alloc o).frozen? ⟨g, k * 5, none⟩ = false := fun o => (own_alc HO.out o).frozenAt _; have hcv := one_convL (x : Int) (by omega) (by omega) W5; obtain ⟨T, hT⟩ : ∃ T, T = UInt8.ofNat ((x : Int)).toNat := ⟨_, rfl⟩; rw [← hT] at hcv; clear hT)
      | ((with_reducible refine (HK.out _).mono ?_); rintro e w1 ⟨rfl, rfl⟩)
      | ((with_reducible refine (HH.out _).mono ?_); rintro e w1 ⟨rfl, rfl⟩)
      | ((with_reducible refine (HX.out _).mono ?_); rintro e w1 ⟨rfl, rfl⟩))
    go_ret
    exact sp_set (own_alc HO.out _) (below_al HB.out _) hg HN.out HS.out hk 0 (by omega) (.string (tb [120, T])) ⟨[120, T], l0.base, l0.mark, l0.cas, l0.width⟩ (by rw [← HL0.out]; rfl) (by first | exact HS.out l0 HM0.out | (simp [maxLen]))
  by_cases h4 : cas0 = 4
  · subst h4
    clear hby
    go_enter Try.func13, Try.ntmps13
    go_wp2_with (first
      | (at_builtin; refine wpList_own_src rfl (.tmp 11) (.tmp 12) 24 24 rfl w.heap.size 54 i0 _ 5 48 Try.underlying24 hi0 hz0 hz1 hz2 rfl _ 0 [] rfl (World.ownsRow_nil _ _ _ _) _ q (lv L) rfl HSRC.out hs1 hs2 (Nat.le_refl _) ?_; intro v4 W5 hown4 hg4 hat4; have HO0 : Hid (W5.ownsRow w.heap.size 54 5 v4 q (lv L) ∧ Below w.heap.size w W5) := Lib.hid ⟨by have := hown4; rwa [Nat.zero_add, List.nil_append] at this, below_own (Below.refl _ _) hg4 (fun g hg => by cases hg)⟩; clear hown4 hg4 hat4; obtain ⟨g, c5, hv4, hg, hqc, hcm5⟩ := sp_form HO0.out.1 hq1; subst hv4; have HO : Hid (W5.ownsRow w.heap.size 54 5 (.slice (some ⟨g, 0, none⟩) q c5) q (lv L)) := Lib.hid HO0.out.1; have HB : Hid (Below w.heap.size w W5) := Lib.hid HO0.out.2; have HC : Hid (∀ (W : World) (j : Nat) (v : Value), W.ownsRow w.heap.size 54 5 (.slice (some ⟨g, 0, none⟩) q c5) q (lv L) → (lc (L.getD k z))[j]? = some v → W.cell? ⟨g, k * 5 + j, none⟩ = some v) := Lib.hid fun W j v h hv => sp_cell h HN.out hk j v hv; clear HO0; have hce : W5.cell? ⟨g, k * 5 + 1, none⟩ = some (.int .i64 l0.base) := HC.out W5 1 _ HO.out (by rw [← HL0.out]; rfl); have hfz : W5.frozen? ⟨g, k * 5 + 1, none⟩ = false := HO.out.frozenAt _)
      | ((with_reducible refine (HK.out _).mono ?_); rintro e w1 ⟨rfl, rfl⟩)
      | ((with_reducible refine (HH.out _).mono ?_); rintro e w1 ⟨rfl, rfl⟩))
    go_ret
    exact sp_set HO.out HB.out hg HN.out HS.out hk 1 (by omega) (.int .i64 by_) ⟨l0.text, by_, l0.mark, l0.cas, l0.width⟩ (by rw [← HL0.out]; rfl) (by first | exact HS.out l0 HM0.out | (simp [maxLen]))
  by_cases h5 : cas0 = 5
  · subst h5
    obtain ⟨x, hx⟩ : ∃ x : Nat, arP by_ ((q : Int) + 1) = x := ⟨_, (Int.toNat_of_nonneg (arP_bd by_ (by omega)).1).symm⟩
    have hxb : x < (q + 1) := by have := (arP_bd by_ (m := ((q : Int) + 1)) (by omega)).2; omega
    have HX : Hid (∀ W, Calls Try.prog 27 #[.int .i64 by_, .int .i64 ((q : Int) + 1)] W fun e w' => e = .returned (.int .i64 (x : Int)) ∧ W = w') := Lib.hid fun W => by rw [← hx]; exact raround_any by_ ((q : Int) + 1) hby.1 hby.2 (by omega) (by omega) W
    clear hx
    clear hby
    go_enter Try.func13, Try.ntmps13
    go_wp2_with (first
      | (at_builtin; refine wpList_own_src rfl (.tmp 11) (.tmp 12) 24 24 rfl w.heap.size 54 i0 _ 5 48 Try.underlying24 hi0 hz0 hz1 hz2 rfl _ 0 [] rfl (World.ownsRow_nil _ _ _ _) _ q (lv L) rfl HSRC.out hs1 hs2 (Nat.le_refl _) ?_; intro v4 W5 hown4 hg4 hat4; have HO0 : Hid (W5.ownsRow w.heap.size 54 5 v4 q (lv L) ∧ Below w.heap.size w W5) := Lib.hid ⟨by have := hown4; rwa [Nat.zero_add, List.nil_append] at this, below_own (Below.refl _ _) hg4 (fun g hg => by cases hg)⟩; clear hown4 hg4 hat4; obtain ⟨g, c5, hv4, hg, hqc, hcm5⟩ := sp_form HO0.out.1 hq1; subst hv4; have HO : Hid (W5.ownsRow w.heap.size 54 5 (.slice (some ⟨g, 0, none⟩) q c5) q (lv L)) := Lib.hid HO0.out.1; have HB : Hid (Below w.heap.size w W5) := Lib.hid HO0.out.2; have HC : Hid (∀ (W : World) (j : Nat) (v : Value), W.ownsRow w.heap.size 54 5 (.slice (some ⟨g, 0, none⟩) q c5) q (lv L) → (lc (L.getD k z))[j]? = some v → W.cell? ⟨g, k * 5 + j, none⟩ = some v) := Lib.hid fun W j v h hv => sp_cell h HN.out hk j v hv; clear HO0; have hce : W5.cell? ⟨g, k * 5 + 1, none⟩ = some (.int .i64 l0.base) := HC.out W5 1 _ HO.out (by rw [← HL0.out]; rfl); have hfz : W5.frozen? ⟨g, k * 5 + 1, none⟩ = false := HO.out.frozenAt _)
      | ((with_reducible refine (HK.out _).mono ?_); rintro e w1 ⟨rfl, rfl⟩)
      | ((with_reducible refine (HH.out _).mono ?_); rintro e w1 ⟨rfl, rfl⟩)
      | ((with_reducible refine (HX.out _).mono ?_); rintro e w1 ⟨rfl, rfl⟩))
    go_ret
    exact sp_set HO.out HB.out hg HN.out HS.out hk 1 (by omega) (.int .i64 x) ⟨l0.text, x, l0.mark, l0.cas, l0.width⟩ (by rw [← HL0.out]; rfl) (by first | exact HS.out l0 HM0.out | (simp [maxLen]))
  by_cases h6 : cas0 = 6
  · subst h6
    clear hby
    go_enter Try.func13, Try.ntmps13
    go_wp2_with (first
      | (at_builtin; refine wpList_own_src rfl (.tmp 11) (.tmp 12) 24 24 rfl w.heap.size 54 i0 _ 5 48 Try.underlying24 hi0 hz0 hz1 hz2 rfl _ 0 [] rfl (World.ownsRow_nil _ _ _ _) _ q (lv L) rfl HSRC.out hs1 hs2 (Nat.le_refl _) ?_; intro v4 W5 hown4 hg4 hat4; have HO0 : Hid (W5.ownsRow w.heap.size 54 5 v4 q (lv L) ∧ Below w.heap.size w W5) := Lib.hid ⟨by have := hown4; rwa [Nat.zero_add, List.nil_append] at this, below_own (Below.refl _ _) hg4 (fun g hg => by cases hg)⟩; clear hown4 hg4 hat4; obtain ⟨g, c5, hv4, hg, hqc, hcm5⟩ := sp_form HO0.out.1 hq1; subst hv4; have HO : Hid (W5.ownsRow w.heap.size 54 5 (.slice (some ⟨g, 0, none⟩) q c5) q (lv L)) := Lib.hid HO0.out.1; have HB : Hid (Below w.heap.size w W5) := Lib.hid HO0.out.2; have HC : Hid (∀ (W : World) (j : Nat) (v : Value), W.ownsRow w.heap.size 54 5 (.slice (some ⟨g, 0, none⟩) q c5) q (lv L) → (lc (L.getD k z))[j]? = some v → W.cell? ⟨g, k * 5 + j, none⟩ = some v) := Lib.hid fun W j v h hv => sp_cell h HN.out hk j v hv; clear HO0; have hce : W5.cell? ⟨g, k * 5 + 2, none⟩ = some (.int .i64 l0.mark) := HC.out W5 2 _ HO.out (by rw [← HL0.out]; rfl); have hfz : W5.frozen? ⟨g, k * 5 + 2, none⟩ = false := HO.out.frozenAt _)
      | ((with_reducible refine (HK.out _).mono ?_); rintro e w1 ⟨rfl, rfl⟩)
      | ((with_reducible refine (HH.out _).mono ?_); rintro e w1 ⟨rfl, rfl⟩))
    go_ret
    exact sp_set HO.out HB.out hg HN.out HS.out hk 2 (by omega) (.int .i64 by_) ⟨l0.text, l0.base, by_, l0.cas, l0.width⟩ (by rw [← HL0.out]; rfl) (by first | exact HS.out l0 HM0.out | (simp [maxLen]))
  by_cases h7 : cas0 = 7
  · subst h7
    obtain ⟨x, hx⟩ : ∃ x : Nat, arP by_ 18 = x := ⟨_, (Int.toNat_of_nonneg (arP_bd by_ (by omega)).1).symm⟩
    have hxb : x < 18 := by have := (arP_bd by_ (m := 18) (by omega)).2; omega
    have HX : Hid (∀ W, Calls Try.prog 27 #[.int .i64 by_, .int .i64 18] W fun e w' => e = .returned (.int .i64 (x : Int)) ∧ W = w') := Lib.hid fun W => by rw [← hx]; exact raround_any by_ 18 hby.1 hby.2 (by omega) (by omega) W
    clear hx
    clear hby
    go_enter Try.func13, Try.ntmps13
    go_wp2_with (first
      | (at_builtin; refine wpList_own_src rfl (.tmp 11) (.tmp 12) 24 24 rfl w.heap.size 54 i0 _ 5 48 Try.underlying24 hi0 hz0 hz1 hz2 rfl _ 0 [] rfl (World.ownsRow_nil _ _ _ _) _ q (lv L) rfl HSRC.out hs1 hs2 (Nat.le_refl _) ?_; intro v4 W5 hown4 hg4 hat4; have HO0 : Hid (W5.ownsRow w.heap.size 54 5 v4 q (lv L) ∧ Below w.heap.size w W5) := Lib.hid ⟨by have := hown4; rwa [Nat.zero_add, List.nil_append] at this, below_own (Below.refl _ _) hg4 (fun g hg => by cases hg)⟩; clear hown4 hg4 hat4; obtain ⟨g, c5, hv4, hg, hqc, hcm5⟩ := sp_form HO0.out.1 hq1; subst hv4; have HO : Hid (W5.ownsRow w.heap.size 54 5 (.slice (some ⟨g, 0, none⟩) q c5) q (lv L)) := Lib.hid HO0.out.1; have HB : Hid (Below w.heap.size w W5) := Lib.hid HO0.out.2; have HC : Hid (∀ (W : World) (j : Nat) (v : Value), W.ownsRow w.heap.size 54 5 (.slice (some ⟨g, 0, none⟩) q c5) q (lv L) → (lc (L.getD k z))[j]? = some v → W.cell? ⟨g, k * 5 + j, none⟩ = some v) := Lib.hid fun W j v h hv => sp_cell h HN.out hk j v hv; clear HO0; have hce : W5.cell? ⟨g, k * 5 + 2, none⟩ = some (.int .i64 l0.mark) := HC.out W5 2 _ HO.out (by rw [← HL0.out]; rfl); have hfz : W5.frozen? ⟨g, k * 5 + 2, none⟩ = false := HO.out.frozenAt _)
      | ((with_reducible refine (HK.out _).mono ?_); rintro e w1 ⟨rfl, rfl⟩)
      | ((with_reducible refine (HH.out _).mono ?_); rintro e w1 ⟨rfl, rfl⟩)
      | ((with_reducible refine (HX.out _).mono ?_); rintro e w1 ⟨rfl, rfl⟩))
    go_ret
    exact sp_set HO.out HB.out hg HN.out HS.out hk 2 (by omega) (.int .i64 ((x : Int) - 1)) ⟨l0.text, l0.base, (x : Int) - 1, l0.cas, l0.width⟩ (by rw [← HL0.out]; rfl) (by first | exact HS.out l0 HM0.out | (simp [maxLen]))
  by_cases h8 : cas0 = 8
  · subst h8
    obtain ⟨x, hx⟩ : ∃ x : Nat, arP by_ 4 = x := ⟨_, (Int.toNat_of_nonneg (arP_bd by_ (by omega)).1).symm⟩
    have hxb : x < 4 := by have := (arP_bd by_ (m := 4) (by omega)).2; omega
    have HX : Hid (∀ W, Calls Try.prog 27 #[.int .i64 by_, .int .i64 4] W fun e w' => e = .returned (.int .i64 (x : Int)) ∧ W = w') := Lib.hid fun W => by rw [← hx]; exact raround_any by_ 4 hby.1 hby.2 (by omega) (by omega) W
    clear hx
    clear hby
    go_enter Try.func13, Try.ntmps13
    go_wp2_with (first
      | (at_builtin; refine wpList_own_src rfl (.tmp 11) (.tmp 12) 24 24 rfl w.heap.size 54 i0 _ 5 48 Try.underlying24 hi0 hz0 hz1 hz2 rfl _ 0 [] rfl (World.ownsRow_nil _ _ _ _) _ q (lv L) rfl HSRC.out hs1 hs2 (Nat.le_refl _) ?_; intro v4 W5 hown4 hg4 hat4; have HO0 : Hid (W5.ownsRow w.heap.size 54 5 v4 q (lv L) ∧ Below w.heap.size w W5) := Lib.hid ⟨by have := hown4; rwa [Nat.zero_add, List.nil_append] at this, below_own (Below.refl _ _) hg4 (fun g hg => by cases hg)⟩; clear hown4 hg4 hat4; obtain ⟨g, c5, hv4, hg, hqc, hcm5⟩ := sp_form HO0.out.1 hq1; subst hv4; have HO : Hid (W5.ownsRow w.heap.size 54 5 (.slice (some ⟨g, 0, none⟩) q c5) q (lv L)) := Lib.hid HO0.out.1; have HB : Hid (Below w.heap.size w W5) := Lib.hid HO0.out.2; have HC : Hid (∀ (W : World) (j : Nat) (v : Value), W.ownsRow w.heap.size 54 5 (.slice (some ⟨g, 0, none⟩) q c5) q (lv L) → (lc (L.getD k z))[j]? = some v → W.cell? ⟨g, k * 5 + j, none⟩ = some v) := Lib.hid fun W j v h hv => sp_cell h HN.out hk j v hv; clear HO0; have hce : W5.cell? ⟨g, k * 5 + 3, none⟩ = some (.int .i64 l0.cas) := HC.out W5 3 _ HO.out (by rw [← HL0.out]; rfl); have hfz : W5.frozen? ⟨g, k * 5 + 3, none⟩ = false := HO.out.frozenAt _)
      | ((with_reducible refine (HK.out _).mono ?_); rintro e w1 ⟨rfl, rfl⟩)
      | ((with_reducible refine (HH.out _).mono ?_); rintro e w1 ⟨rfl, rfl⟩)
      | ((with_reducible refine (HX.out _).mono ?_); rintro e w1 ⟨rfl, rfl⟩))
    go_ret
    exact sp_set HO.out HB.out hg HN.out HS.out hk 3 (by omega) (.int .i64 ((x : Int) - 1)) ⟨l0.text, l0.base, l0.mark, (x : Int) - 1, l0.width⟩ (by rw [← HL0.out]; rfl) (by first | exact HS.out l0 HM0.out | (simp [maxLen]))
  by_cases h9 : cas0 = 9
  · subst h9
    clear hby
    go_enter Try.func13, Try.ntmps13
    go_wp2_with (first
      | (at_builtin; refine wpList_own_src rfl (.tmp 11) (.tmp 12) 24 24 rfl w.heap.size 54 i0 _ 5 48 Try.underlying24 hi0 hz0 hz1 hz2 rfl _ 0 [] rfl (World.ownsRow_nil _ _ _ _) _ q (lv L) rfl HSRC.out hs1 hs2 (Nat.le_refl _) ?_; intro v4 W5 hown4 hg4 hat4; have HO0 : Hid (W5.ownsRow w.heap.size 54 5 v4 q (lv L) ∧ Below w.heap.size w W5) := Lib.hid ⟨by have := hown4; rwa [Nat.zero_add, List.nil_append] at this, below_own (Below.refl _ _) hg4 (fun g hg => by cases hg)⟩; clear hown4 hg4 hat4; obtain ⟨g, c5, hv4, hg, hqc, hcm5⟩ := sp_form HO0.out.1 hq1; subst hv4; have HO : Hid (W5.ownsRow w.heap.size 54 5 (.slice (some ⟨g, 0, none⟩) q c5) q (lv L)) := Lib.hid HO0.out.1; have HB : Hid (Below w.heap.size w W5) := Lib.hid HO0.out.2; have HC : Hid (∀ (W : World) (j : Nat) (v : Value), W.ownsRow w.heap.size 54 5 (.slice (some ⟨g, 0, none⟩) q c5) q (lv L) → (lc (L.getD k z))[j]? = some v → W.cell? ⟨g, k * 5 + j, none⟩ = some v) := Lib.hid fun W j v h hv => sp_cell h HN.out hk j v hv; clear HO0; have hce : W5.cell? ⟨g, k * 5 + 4, none⟩ = some (.int .i64 l0.width) := HC.out W5 4 _ HO.out (by rw [← HL0.out]; rfl); have hfz : W5.frozen? ⟨g, k * 5 + 4, none⟩ = false := HO.out.frozenAt _)
      | ((with_reducible refine (HK.out _).mono ?_); rintro e w1 ⟨rfl, rfl⟩)
      | ((with_reducible refine (HH.out _).mono ?_); rintro e w1 ⟨rfl, rfl⟩))
    go_ret
    exact sp_set HO.out HB.out hg HN.out HS.out hk 4 (by omega) (.int .i64 by_) ⟨l0.text, l0.base, l0.mark, l0.cas, by_⟩ (by rw [← HL0.out]; rfl) (by first | exact HS.out l0 HM0.out | (simp [maxLen]))
  by_cases h10 : cas0 = 10
  · subst h10
    obtain ⟨x, hx⟩ : ∃ x : Nat, arP by_ 4 = x := ⟨_, (Int.toNat_of_nonneg (arP_bd by_ (by omega)).1).symm⟩
    have hxb : x < 4 := by have := (arP_bd by_ (m := 4) (by omega)).2; omega
    have HX : Hid (∀ W, Calls Try.prog 27 #[.int .i64 by_, .int .i64 4] W fun e w' => e = .returned (.int .i64 (x : Int)) ∧ W = w') := Lib.hid fun W => by rw [← hx]; exact raround_any by_ 4 hby.1 hby.2 (by omega) (by omega) W
    clear hx
    rcases (show x = 0 ∨ x = 1 ∨ x = 2 ∨ x = 3 by omega) with rfl | rfl | rfl | rfl
    · skip
      clear hby
      go_enter Try.func13, Try.ntmps13
      go_wp2_with (first
        | (at_builtin; refine wpList_own_src rfl (.tmp 11) (.tmp 12) 24 24 rfl w.heap.size 54 i0 _ 5 48 Try.underlying24 hi0 hz0 hz1 hz2 rfl _ 0 [] rfl (World.ownsRow_nil _ _ _ _) _ q (lv L) rfl HSRC.out hs1 hs2 (Nat.le_refl _) ?_; intro v4 W5 hown4 hg4 hat4; have HO0 : Hid (W5.ownsRow w.heap.size 54 5 v4 q (lv L) ∧ Below w.heap.size w W5) := Lib.hid ⟨by have := hown4; rwa [Nat.zero_add, List.nil_append] at this, below_own (Below.refl _ _) hg4 (fun g hg => by cases hg)⟩; clear hown4 hg4 hat4; obtain ⟨g, c5, hv4, hg, hqc, hcm5⟩ := sp_form HO0.out.1 hq1; subst hv4; have HO : Hid (W5.ownsRow w.heap.size 54 5 (.slice (some ⟨g, 0, none⟩) q c5) q (lv L)) := Lib.hid HO0.out.1; have HB : Hid (Below w.heap.size w W5) := Lib.hid HO0.out.2; have HC : Hid (∀ (W : World) (j : Nat) (v : Value), W.ownsRow w.heap.size 54 5 (.slice (some ⟨g, 0, none⟩) q c5) q (lv L) → (lc (L.getD k z))[j]? = some v → W.cell? ⟨g, k * 5 + j, none⟩ = some v) := Lib.hid fun W j v h hv => sp_cell h HN.out hk j v hv; clear HO0; have hce : ∀ o, (W5.alloc o).cell? ⟨g, k * 5 + 4, none⟩ = some (.int .i64 l0.width) := fun o => HC.out _ 4 _ (own_alc HO.out o) (by rw [← HL0.out]; rfl); have hfz : ∀ o, (W5.alloc o).frozen? ⟨g, k * 5 + 4, none⟩ = false := fun o => (own_alc HO.out o).frozenAt _)
        | ((with_reducible refine (HK.out _).mono ?_); rintro e w1 ⟨rfl, rfl⟩)
        | ((with_reducible refine (HH.out _).mono ?_); rintro e w1 ⟨rfl, rfl⟩)
        | ((with_reducible refine (HX.out _).mono ?_); rintro e w1 ⟨rfl, rfl⟩))
      go_ret
      exact sp_set (own_alc HO.out _) (below_al HB.out _) hg HN.out HS.out hk 4 (by omega) (.int .i64 0) ⟨l0.text, l0.base, l0.mark, l0.cas, 0⟩ (by rw [← HL0.out]; rfl) (by first | exact HS.out l0 HM0.out | (simp [maxLen]))
    · skip
      clear hby
      go_enter Try.func13, Try.ntmps13
      go_wp2_with (first
        | (at_builtin; refine wpList_own_src rfl (.tmp 11) (.tmp 12) 24 24 rfl w.heap.size 54 i0 _ 5 48 Try.underlying24 hi0 hz0 hz1 hz2 rfl _ 0 [] rfl (World.ownsRow_nil _ _ _ _) _ q (lv L) rfl HSRC.out hs1 hs2 (Nat.le_refl _) ?_; intro v4 W5 hown4 hg4 hat4; have HO0 : Hid (W5.ownsRow w.heap.size 54 5 v4 q (lv L) ∧ Below w.heap.size w W5) := Lib.hid ⟨by have := hown4; rwa [Nat.zero_add, List.nil_append] at this, below_own (Below.refl _ _) hg4 (fun g hg => by cases hg)⟩; clear hown4 hg4 hat4; obtain ⟨g, c5, hv4, hg, hqc, hcm5⟩ := sp_form HO0.out.1 hq1; subst hv4; have HO : Hid (W5.ownsRow w.heap.size 54 5 (.slice (some ⟨g, 0, none⟩) q c5) q (lv L)) := Lib.hid HO0.out.1; have HB : Hid (Below w.heap.size w W5) := Lib.hid HO0.out.2; have HC : Hid (∀ (W : World) (j : Nat) (v : Value), W.ownsRow w.heap.size 54 5 (.slice (some ⟨g, 0, none⟩) q c5) q (lv L) → (lc (L.getD k z))[j]? = some v → W.cell? ⟨g, k * 5 + j, none⟩ = some v) := Lib.hid fun W j v h hv => sp_cell h HN.out hk j v hv; clear HO0; have hce : ∀ o, (W5.alloc o).cell? ⟨g, k * 5 + 4, none⟩ = some (.int .i64 l0.width) := fun o => HC.out _ 4 _ (own_alc HO.out o) (by rw [← HL0.out]; rfl); have hfz : ∀ o, (W5.alloc o).frozen? ⟨g, k * 5 + 4, none⟩ = false := fun o => (own_alc HO.out o).frozenAt _)
        | ((with_reducible refine (HK.out _).mono ?_); rintro e w1 ⟨rfl, rfl⟩)
        | ((with_reducible refine (HH.out _).mono ?_); rintro e w1 ⟨rfl, rfl⟩)
        | ((with_reducible refine (HX.out _).mono ?_); rintro e w1 ⟨rfl, rfl⟩))
      go_ret
      exact sp_set (own_alc HO.out _) (below_al HB.out _) hg HN.out HS.out hk 4 (by omega) (.int .i64 1) ⟨l0.text, l0.base, l0.mark, l0.cas, 1⟩ (by rw [← HL0.out]; rfl) (by first | exact HS.out l0 HM0.out | (simp [maxLen]))
    · skip
      clear hby
      go_enter Try.func13, Try.ntmps13
      go_wp2_with (first
        | (at_builtin; refine wpList_own_src rfl (.tmp 11) (.tmp 12) 24 24 rfl w.heap.size 54 i0 _ 5 48 Try.underlying24 hi0 hz0 hz1 hz2 rfl _ 0 [] rfl (World.ownsRow_nil _ _ _ _) _ q (lv L) rfl HSRC.out hs1 hs2 (Nat.le_refl _) ?_; intro v4 W5 hown4 hg4 hat4; have HO0 : Hid (W5.ownsRow w.heap.size 54 5 v4 q (lv L) ∧ Below w.heap.size w W5) := Lib.hid ⟨by have := hown4; rwa [Nat.zero_add, List.nil_append] at this, below_own (Below.refl _ _) hg4 (fun g hg => by cases hg)⟩; clear hown4 hg4 hat4; obtain ⟨g, c5, hv4, hg, hqc, hcm5⟩ := sp_form HO0.out.1 hq1; subst hv4; have HO : Hid (W5.ownsRow w.heap.size 54 5 (.slice (some ⟨g, 0, none⟩) q c5) q (lv L)) := Lib.hid HO0.out.1; have HB : Hid (Below w.heap.size w W5) := Lib.hid HO0.out.2; have HC : Hid (∀ (W : World) (j : Nat) (v : Value), W.ownsRow w.heap.size 54 5 (.slice (some ⟨g, 0, none⟩) q c5) q (lv L) → (lc (L.getD k z))[j]? = some v → W.cell? ⟨g, k * 5 + j, none⟩ = some v) := Lib.hid fun W j v h hv => sp_cell h HN.out hk j v hv; clear HO0; have hce : ∀ o, (W5.alloc o).cell? ⟨g, k * 5 + 4, none⟩ = some (.int .i64 l0.width) := fun o => HC.out _ 4 _ (own_alc HO.out o) (by rw [← HL0.out]; rfl); have hfz : ∀ o, (W5.alloc o).frozen? ⟨g, k * 5 + 4, none⟩ = false := fun o => (own_alc HO.out o).frozenAt _)
        | ((with_reducible refine (HK.out _).mono ?_); rintro e w1 ⟨rfl, rfl⟩)
        | ((with_reducible refine (HH.out _).mono ?_); rintro e w1 ⟨rfl, rfl⟩)
        | ((with_reducible refine (HX.out _).mono ?_); rintro e w1 ⟨rfl, rfl⟩))
      go_ret
      exact sp_set (own_alc HO.out _) (below_al HB.out _) hg HN.out HS.out hk 4 (by omega) (.int .i64 1000) ⟨l0.text, l0.base, l0.mark, l0.cas, 1000⟩ (by rw [← HL0.out]; rfl) (by first | exact HS.out l0 HM0.out | (simp [maxLen]))
    · skip
      clear hby
      go_enter Try.func13, Try.ntmps13
      go_wp2_with (first
        | (at_builtin; refine wpList_own_src rfl (.tmp 11) (.tmp 12) 24 24 rfl w.heap.size 54 i0 _ 5 48 Try.underlying24 hi0 hz0 hz1 hz2 rfl _ 0 [] rfl (World.ownsRow_nil _ _ _ _) _ q (lv L) rfl HSRC.out hs1 hs2 (Nat.le_refl _) ?_; intro v4 W5 hown4 hg4 hat4; have HO0 : Hid (W5.ownsRow w.heap.size 54 5 v4 q (lv L) ∧ Below w.heap.size w W5) := Lib.hid ⟨by have := hown4; rwa [Nat.zero_add, List.nil_append] at this, below_own (Below.refl _ _) hg4 (fun g hg => by cases hg)⟩; clear hown4 hg4 hat4; obtain ⟨g, c5, hv4, hg, hqc, hcm5⟩ := sp_form HO0.out.1 hq1; subst hv4; have HO : Hid (W5.ownsRow w.heap.size 54 5 (.slice (some ⟨g, 0, none⟩) q c5) q (lv L)) := Lib.hid HO0.out.1; have HB : Hid (Below w.heap.size w W5) := Lib.hid HO0.out.2; have HC : Hid (∀ (W : World) (j : Nat) (v : Value), W.ownsRow w.heap.size 54 5 (.slice (some ⟨g, 0, none⟩) q c5) q (lv L) → (lc (L.getD k z))[j]? = some v → W.cell? ⟨g, k * 5 + j, none⟩ = some v) := Lib.hid fun W j v h hv => sp_cell h HN.out hk j v hv; clear HO0; have hce : ∀ o, (W5.alloc o).cell? ⟨g, k * 5 + 4, none⟩ = some (.int .i64 l0.width) := fun o => HC.out _ 4 _ (own_alc HO.out o) (by rw [← HL0.out]; rfl); have hfz : ∀ o, (W5.alloc o).frozen? ⟨g, k * 5 + 4, none⟩ = false := fun o => (own_alc HO.out o).frozenAt _)
        | ((with_reducible refine (HK.out _).mono ?_); rintro e w1 ⟨rfl, rfl⟩)
        | ((with_reducible refine (HH.out _).mono ?_); rintro e w1 ⟨rfl, rfl⟩)
        | ((with_reducible refine (HX.out _).mono ?_); rintro e w1 ⟨rfl, rfl⟩))
      go_ret
      exact sp_set (own_alc HO.out _) (below_al HB.out _) hg HN.out HS.out hk 4 (by omega) (.int .i64 1001) ⟨l0.text, l0.base, l0.mark, l0.cas, 1001⟩ (by rw [← HL0.out]; rfl) (by first | exact HS.out l0 HM0.out | (simp [maxLen]))
  by_cases h11 : cas0 = 11
  · subst h11
    obtain ⟨x, hx⟩ : ∃ x : Nat, arP by_ 5 = x := ⟨_, (Int.toNat_of_nonneg (arP_bd by_ (by omega)).1).symm⟩
    have hxb : x < 5 := by have := (arP_bd by_ (m := 5) (by omega)).2; omega
    have HX : Hid (∀ W, Calls Try.prog 27 #[.int .i64 by_, .int .i64 5] W fun e w' => e = .returned (.int .i64 (x : Int)) ∧ W = w') := Lib.hid fun W => by rw [← hx]; exact raround_any by_ 5 hby.1 hby.2 (by omega) (by omega) W
    clear hx
    obtain ⟨M, hM⟩ : ∃ M : Nat, M = 58 + x := ⟨_, rfl⟩
    have hMi : 58 + (x : Int) = (M : Int) := by omega
    have HM : Hid (∀ W, Calls Try.prog 39 #[.int .i64 (M : Int)] W (LtPost W (manyL M))) := Lib.hid fun W => manyL_any M (by omega) W
    clear hM
    clear hby
    go_enter Try.func13, Try.ntmps13
    go_wp2_with (first
      | (at_builtin; refine wpList_own_src rfl (.tmp 11) (.tmp 12) 24 24 rfl w.heap.size 54 i0 _ 5 48 Try.underlying24 hi0 hz0 hz1 hz2 rfl _ 0 [] rfl (World.ownsRow_nil _ _ _ _) _ q (lv L) rfl HSRC.out hs1 hs2 (Nat.le_refl _) ?_; intro v4 W5 hown4 hg4 hat4; have HO0 : Hid (W5.ownsRow w.heap.size 54 5 v4 q (lv L) ∧ Below w.heap.size w W5) := Lib.hid ⟨by have := hown4; rwa [Nat.zero_add, List.nil_append] at this, below_own (Below.refl _ _) hg4 (fun g hg => by cases hg)⟩; clear hown4 hg4 hat4; obtain ⟨g, c5, hv4, hg, hqc, hcm5⟩ := sp_form HO0.out.1 hq1; subst hv4; have HO : Hid (W5.ownsRow w.heap.size 54 5 (.slice (some ⟨g, 0, none⟩) q c5) q (lv L)) := Lib.hid HO0.out.1; have HB : Hid (Below w.heap.size w W5) := Lib.hid HO0.out.2; have HC : Hid (∀ (W : World) (j : Nat) (v : Value), W.ownsRow w.heap.size 54 5 (.slice (some ⟨g, 0, none⟩) q c5) q (lv L) → (lc (L.getD k z))[j]? = some v → W.cell? ⟨g, k * 5 + j, none⟩ = some v) := Lib.hid fun W j v h hv => sp_cell h HN.out hk j v hv; clear HO0)
      | ((with_reducible refine (HK.out _).mono ?_); rintro e w1 ⟨rfl, rfl⟩)
      | ((with_reducible refine (HH.out _).mono ?_); rintro e w1 ⟨rfl, rfl⟩)
      | ((with_reducible refine (HX.out _).mono ?_); rintro e w1 ⟨rfl, rfl⟩)
      | ((with_reducible refine (HM.out _).mono ?_); rintro e w6 hp; obtain ⟨A6, n6, c6, rfl, h1, h2, h3, h4, hb⟩ := lt_out hp; have H6 : Hid (AlR w6 (manyL M) A6 n6 c6 ∧ Below w.heap.size w w6) := Lib.hid ⟨⟨h1, h3, h4, fun l hl => (by obtain ⟨i, _, rfl⟩ := List.mem_map.1 hl; show 2 ≤ maxLen; unfold maxLen; omega), h2⟩, below_next HB.out hb⟩; clear hp h1 h2 h3 h4 hb))
    go_ret
    exact ⟨_, _, _, _, rfl, H6.out⟩
  obtain rfl : cas0 = 12 := by omega
  clear hby
  go_enter Try.func13, Try.ntmps13
  go_wp2_with (first
    | (at_builtin; refine wpList_own_src rfl (.tmp 11) (.tmp 12) 24 24 rfl w.heap.size 54 i0 _ 5 48 Try.underlying24 hi0 hz0 hz1 hz2 rfl _ 0 [] rfl (World.ownsRow_nil _ _ _ _) _ q (lv L) rfl HSRC.out hs1 hs2 (Nat.le_refl _) ?_; intro v4 W5 hown4 hg4 hat4; have HO0 : Hid (W5.ownsRow w.heap.size 54 5 v4 q (lv L) ∧ Below w.heap.size w W5) := Lib.hid ⟨by have := hown4; rwa [Nat.zero_add, List.nil_append] at this, below_own (Below.refl _ _) hg4 (fun g hg => by cases hg)⟩; clear hown4 hg4 hat4; obtain ⟨g, c5, hv4, hg, hqc, hcm5⟩ := sp_form HO0.out.1 hq1; subst hv4; have HO : Hid (W5.ownsRow w.heap.size 54 5 (.slice (some ⟨g, 0, none⟩) q c5) q (lv L)) := Lib.hid HO0.out.1; have HB : Hid (Below w.heap.size w W5) := Lib.hid HO0.out.2; have HC : Hid (∀ (W : World) (j : Nat) (v : Value), W.ownsRow w.heap.size 54 5 (.slice (some ⟨g, 0, none⟩) q c5) q (lv L) → (lc (L.getD k z))[j]? = some v → W.cell? ⟨g, k * 5 + j, none⟩ = some v) := Lib.hid fun W j v h hv => sp_cell h HN.out hk j v hv; clear HO0)
    | ((with_reducible refine (HK.out _).mono ?_); rintro e w1 ⟨rfl, rfl⟩)
    | ((with_reducible refine (HH.out _).mono ?_); rintro e w1 ⟨rfl, rfl⟩))
  go_ret
  exact sp_take HO.out HB.out HN.out HS.out hk
end Go.Proofs.Ytalladdmedmfeaa
