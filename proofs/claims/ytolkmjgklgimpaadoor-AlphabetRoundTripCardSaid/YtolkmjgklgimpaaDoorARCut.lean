/-
  The reference's Digits and Cut.
-/
import Derived.Test.YtolkmjgklgimpaaDoorARNum
namespace Go.Proofs.YtolkmjgklgimpaaDoor
open Go.RowKit
open Alp
set_option linter.unusedVariables false
set_option linter.unusedSimpArgs false

theorem isD_not {c : UInt8} (h : isD c = false) : c.toNat < 48 ∨ 57 < c.toNat := isD_no h
set_option maxHeartbeats 1000000 in
theorem digits_any (t : B) (ht : t.length ≤ maxLen) (w : World) : Calls Tryd.prog 49 #[.string (tb t), .int .i64 6] w (NumPost w t) := by
  unfold maxLen at ht
  obtain ⟨m, hm⟩ : ∃ m, m = t.length := ⟨_, rfl⟩
  have hsz : (tb t).size = m := by rw [tb_size, hm]
  rcases Nat.eq_zero_or_pos m with h0 | h0
  · obtain rfl : t = [] := List.eq_nil_of_length_eq_zero (by omega)
    have hz0 : (tb []).size = 0 := rfl
    clear hsz hm
    go_enter Tryd.func49, Tryd.ntmps49
    go_wp2_with fail
    go_ret2
    exact num_no rfl
  · by_cases h6 : 6 < m
    · have HE : Hid (numOK t = false) := Lib.hid (numOK_no fun h => by omega)
      rw [← hm] at ht
      clear hm
      go_enter Tryd.func49, Tryd.ntmps49
      go_wp2_with fail
      go_ret2
      exact num_no HE.out
    · have hd6 : decide (6 < (m : Int)) = false := decide_eq_false (by omega)
      obtain ⟨c, hc⟩ : ∃ c, c = t[0]'(by omega) := ⟨_, rfl⟩
      have hg0 : (tb t)[0]'(by rw [hsz]; exact h0) = c := by rw [hc]; rfl
      have hcd : t.getD 0 0 = c := by rw [hc]; simp [List.getD, show 0 < t.length by omega]
      by_cases hz : c.toNat = 48 ∧ 1 < m
      · have HE : Hid (numOK t = false) := Lib.hid (numOK_no fun h => by
          rcases h.2.2.1 with h' | h'
          · exact h' (by rw [hcd]; exact UInt8.toNat_inj.1 hz.1)
          · omega)
        have hc0 : ((c.toNat : Int) == 48) = true := by rw [hz.1]; rfl
        have hm1 : 1 < m := hz.2
        rw [← hm] at ht
        clear hm hz hcd hc
        go_enter Tryd.func49, Tryd.ntmps49
        go_wp2_with fail
        go_ret2
        exact num_no HE.out
      · have hqz : (1 < m ∧ ((c.toNat : Int) == 48) = false) ∨ m = 1 := by
          rcases Nat.lt_or_ge 1 m with h' | h'
          · exact .inl ⟨h', beq_eq_false_iff_ne.2 fun e => hz ⟨by omega, h'⟩⟩
          · exact .inr (by omega)
        have HO : Hid (numOK t = t.all isD) := Lib.hid (by
          rw [Bool.eq_iff_iff, numOK_iff, List.all_eq_true]
          refine ⟨fun h => h.2.2.2, fun h => ⟨by omega, by omega, ?_, h⟩⟩
          by_cases h' : c.toNat = 48
          · exact .inr (by
              rcases Nat.lt_or_ge 1 m with h2 | h2
              · exact absurd ⟨h', h2⟩ hz
              · omega)
          · exact .inl fun e => h' (by rw [← hcd, e]; rfl))
        rw [← hm] at ht
        have HM := Lib.hid hm
        clear hz hcd hc hm
        rcases hqz with ⟨hm1, hq⟩ | hm1
        · go_enter Tryd.func49, Tryd.ntmps49
          go_wp2_with fail
          go_loopg [6, 7] m (fun g s6 s7 wr => ∃ (k : Nat) (n : Int), k + g = m ∧ s7 = .int .i64 (k : Int) ∧ s6 = .int .i64 n ∧ Hid ((∀ j (hj : j < t.length), j < k → isD t[j] = true) ∧ n = numV (t.take k)) ∧ w = wr)
          case atStart => exact ⟨0, 0, by omega, rfl, rfl, Lib.hid ⟨fun j _ h => by omega, rfl⟩, rfl⟩
          case round =>
            obtain ⟨k, n, hk, rfl, rfl, HF, rfl⟩ := hrel
            by_cases hlt : k < m
            · obtain ⟨g, rfl⟩ : ∃ g, gk = g + 1 := ⟨gk - 1, by omega⟩
              have hkl : k < t.length := by rw [← HM.out]; exact hlt
              obtain ⟨d, hd⟩ : ∃ d, d = t[k] := ⟨_, rfl⟩
              have hg : (tb t)[k]'(by rw [hsz]; exact hlt) = d := by rw [hd]; rfl
              have HC := Lib.hid hd
              clear hd
              cases hr : isD d
              · have HE : Hid (numOK t = false) := Lib.hid (numOK_no fun h => by
                  have := h.2.2.2 _ (List.getElem_mem hkl)
                  rw [← HC.out, hr] at this
                  cases this)
                rcases isD_not hr with h1 | h1
                · clear hr
                  go_wp2_with fail
                  go_ret2
                  exact num_no HE.out
                · have hd48 : decide ((d.toNat : Int) < 48) = false := decide_eq_false (by omega)
                  clear hr
                  go_wp2_with fail
                  go_ret2
                  exact num_no HE.out
              · obtain ⟨hd1, hd2⟩ := isD_bd hr
                obtain ⟨hn1, hn2⟩ : 0 ≤ n ∧ n ≤ 99999 := by rw [HF.out.2]; exact num_pre HF.out.1 (by omega)
                have HS : Hid (10 * n + ((d.toNat : Int) - 48) = numV (t.take (k + 1))) := Lib.hid (by rw [num_step hkl HC.out, ← HF.out.2])
                have HR2 := Lib.hid hr
                have hd57 : decide (57 < (d.toNat : Int)) = false := decide_eq_false (by omega)
                clear hr
                go_wp2_with fail
                go_roundg g
                case rel => exact ⟨k + 1, 10 * n + ((d.toNat : Int) - 48), by omega, by go_num, by go_num, Lib.hid ⟨fun j hj hjk => by
                  rcases Nat.lt_or_ge j k with h | h
                  · exact HF.out.1 j hj h
                  · obtain rfl : j = k := by omega
                    rw [← HC.out]; exact HR2.out, HS.out⟩, rfl⟩
                case measure => omega
            · obtain rfl : k = m := by omega
              have HE : Hid (numOK t = true ∧ n = numV t) := Lib.hid ⟨by
                rw [HO.out, List.all_eq_true]
                intro x hx
                obtain ⟨j, hj, rfl⟩ := List.getElem_of_mem hx
                exact HF.out.1 j hj (by rw [HM.out]; exact hj), by rw [HF.out.2, HM.out, List.take_length]⟩
              go_wp2_with fail
              go_ret2
              exact num_yes HE.out.1 HE.out.2
        · have hd1 : decide (1 < (m : Int)) = false := decide_eq_false (by omega)
          clear hm1
          go_enter Tryd.func49, Tryd.ntmps49
          go_wp2_with fail
          go_loopg [6, 7] m (fun g s6 s7 wr => ∃ (k : Nat) (n : Int), k + g = m ∧ s7 = .int .i64 (k : Int) ∧ s6 = .int .i64 n ∧ Hid ((∀ j (hj : j < t.length), j < k → isD t[j] = true) ∧ n = numV (t.take k)) ∧ w = wr)
          case atStart => exact ⟨0, 0, by omega, rfl, rfl, Lib.hid ⟨fun j _ h => by omega, rfl⟩, rfl⟩
          case round =>
            obtain ⟨k, n, hk, rfl, rfl, HF, rfl⟩ := hrel
            by_cases hlt : k < m
            · obtain ⟨g, rfl⟩ : ∃ g, gk = g + 1 := ⟨gk - 1, by omega⟩
              have hkl : k < t.length := by rw [← HM.out]; exact hlt
              obtain ⟨d, hd⟩ : ∃ d, d = t[k] := ⟨_, rfl⟩
              have hg : (tb t)[k]'(by rw [hsz]; exact hlt) = d := by rw [hd]; rfl
              have HC := Lib.hid hd
              clear hd
              cases hr : isD d
              · have HE : Hid (numOK t = false) := Lib.hid (numOK_no fun h => by
                  have := h.2.2.2 _ (List.getElem_mem hkl)
                  rw [← HC.out, hr] at this
                  cases this)
                rcases isD_not hr with h1 | h1
                · clear hr
                  go_wp2_with fail
                  go_ret2
                  exact num_no HE.out
                · have hd48 : decide ((d.toNat : Int) < 48) = false := decide_eq_false (by omega)
                  clear hr
                  go_wp2_with fail
                  go_ret2
                  exact num_no HE.out
              · obtain ⟨hd1, hd2⟩ := isD_bd hr
                obtain ⟨hn1, hn2⟩ : 0 ≤ n ∧ n ≤ 99999 := by rw [HF.out.2]; exact num_pre HF.out.1 (by omega)
                have HS : Hid (10 * n + ((d.toNat : Int) - 48) = numV (t.take (k + 1))) := Lib.hid (by rw [num_step hkl HC.out, ← HF.out.2])
                have HR2 := Lib.hid hr
                have hd57 : decide (57 < (d.toNat : Int)) = false := decide_eq_false (by omega)
                clear hr
                go_wp2_with fail
                go_roundg g
                case rel => exact ⟨k + 1, 10 * n + ((d.toNat : Int) - 48), by omega, by go_num, by go_num, Lib.hid ⟨fun j hj hjk => by
                  rcases Nat.lt_or_ge j k with h | h
                  · exact HF.out.1 j hj h
                  · obtain rfl : j = k := by omega
                    rw [← HC.out]; exact HR2.out, HS.out⟩, rfl⟩
                case measure => omega
            · obtain rfl : k = m := by omega
              have HE : Hid (numOK t = true ∧ n = numV t) := Lib.hid ⟨by
                rw [HO.out, List.all_eq_true]
                intro x hx
                obtain ⟨j, hj, rfl⟩ := List.getElem_of_mem hx
                exact HF.out.1 j hj (by rw [HM.out]; exact hj), by rw [HF.out.2, HM.out, List.take_length]⟩
              go_wp2_with fail
              go_ret2
              exact num_yes HE.out.1 HE.out.2

/-- A list of strings that the call owns. -/
def SPost (w : World) (R : List B) (e : Ending) (w' : World) : Prop := ∃ (A : Option Addr) (c n : Nat), e = .returned (.slice A n c) ∧ n = R.length ∧ w'.ownsRow w.heap.size 9 1 (.slice A n c) n (tv R) ∧ Rd w' A (tv R) ∧ n ≤ c ∧ c ≤ maxLen ∧ Below w.heap.size w w'
theorem s_out {w w' : World} {R : List B} {e : Ending} (h : SPost w R e w') : ∃ (A : Option Addr) (c n : Nat), e = .returned (.slice A n c) ∧ n = R.length ∧ w'.ownsRow w.heap.size 9 1 (.slice A n c) n (tv R) ∧ Rd w' A (tv R) ∧ n ≤ c ∧ c ≤ maxLen ∧ Below w.heap.size w w' := h
/-- What Cut keeps. -/
def CutI (w : World) (s : B) (c : UInt8) (f k : Nat) (v : Value) (D : List B) (wr : World) : Prop :=
  wr.ownsRow w.heap.size 9 1 v D.length (tv D) ∧ Below w.heap.size w wr ∧ D.length ≤ k ∧ f ≤ k ∧ splitC c s = D ++ splitC c (s.drop f) ∧ ∀ x ∈ (s.drop f).take (k - f), x ≠ c
theorem drop_split {s : B} {f k : Nat} (hf : f ≤ k) (hk : k < s.length) : s.drop f = (s.drop f).take (k - f) ++ s[k] :: s.drop (k + 1) := by
  have h1 : (s.drop f).drop (k - f) = s[k] :: s.drop (k + 1) := by
    rw [List.drop_drop, show f + (k - f) = k by omega, List.drop_eq_getElem_cons hk]
  rw [← h1, List.take_append_drop]
set_option maxHeartbeats 1000000 in
theorem cut_any (s : B) (hs : s.length ≤ 1000000) (c : UInt8) (w : World) : Calls Tryd.prog 42 #[.string (tb s), .int .u8 c.toNat] w (SPost w (splitC c s)) := by
  obtain ⟨m, hm⟩ : ∃ m, m = s.length := ⟨_, rfl⟩
  have hsz : (tb s).size = m := by rw [tb_size, hm]
  rw [← hm] at hs
  obtain ⟨i0, hi0, hz0, hz1, hz2⟩ := info_parts Tryd.infoStr
  have HM := Lib.hid hm
  clear hm
  go_enter Tryd.func42, Tryd.ntmps42
  go_wp2_with fail
  go_loopg [5, 6, 7] m (fun g s5 s6 s7 wr => ∃ (f k : Nat) (D : List B), k + g = m ∧ f ≤ k ∧ s6 = .int .i64 (f : Int) ∧ s7 = .int .i64 (k : Int) ∧ Hid (CutI w s c f k s5 D wr))
  case atStart => exact ⟨0, 0, [], by omega, Nat.le_refl _, rfl, rfl, Lib.hid ⟨⟨rfl, .inl ⟨rfl, rfl⟩⟩, Below.refl _ _, Nat.le_refl _, Nat.le_refl _, rfl, by simp⟩⟩
  case round =>
    obtain ⟨f, k, D, hk, hfk, rfl, rfl, HI⟩ := hrel
    obtain ⟨A2, c2, hv, hrd, hmc, hcm⟩ := Rd.of_own HI.out.1
    subst hv
    have HRD := Lib.hid hrd
    clear hrd
    by_cases hlt : k < m
    · obtain ⟨g, rfl⟩ : ∃ g, gk = g + 1 := ⟨gk - 1, by omega⟩
      have hkl : k < s.length := by rw [← HM.out]; exact hlt
      obtain ⟨d, hd⟩ : ∃ d, d = s[k] := ⟨_, rfl⟩
      have hg : (tb s)[k]'(by rw [hsz]; exact hlt) = d := by rw [hd]; rfl
      have HDS : Hid (s.drop f = (s.drop f).take (k - f) ++ d :: s.drop (k + 1)) := Lib.hid (by rw [hd]; exact drop_split hfk hkl)
      have HC := Lib.hid hd
      clear hd
      have hDk := HI.out.2.2.1
      by_cases he : d = c
      · have hde : ((d.toNat : Int) == (c.toNat : Int)) = true := by rw [he]; exact beq_self_eq_true _
        have HE := Lib.hid he
        obtain ⟨x, hx⟩ : ∃ x, x = (s.drop f).take (k - f) := ⟨_, rfl⟩
        have hsub : (tb s).extract f k = tb x := (by rw [tb_sub, hx])
        have HX := Lib.hid hx
        have hs1 : D.length + 1 ≤ maxLen := by unfold maxLen; omega
        have hs2 : (D.length + 1) * 16 ≤ 140737488355328 := by omega
        clear he hx hDk
        go_wp2_with (at_builtin; refine wpList_own_src rfl (.tmp 19) (.tmp 24) 26 26 rfl w.heap.size 9 i0 _ 1 16 Tryd.underlying26 hi0 hz0 hz1 hz2 rfl _ _ _ rfl (own_alc HI.out.1 _) _ 1 [.string (tb x)] rfl (src_one Tryd.underlying26 hz1 _ _ _ rfl) hs1 hs2 (below_al HI.out.2.1 _).size ?_; intro v4 w4 hown4 hg4 hat4; have HX4 : Hid (w4.ownsRow w.heap.size 9 1 v4 (D.length + 1) (tv D ++ [.string (tb x)]) ∧ Below w.heap.size w w4) := Lib.hid ⟨hown4, below_own (below_al HI.out.2.1 _) hg4 (fun g hg => (HI.out.1.lt _ hg).1)⟩; clear hown4 hg4 hat4)
        go_roundg g
        case rel =>
          refine ⟨k + 1, k + 1, D ++ [x], by omega, Nat.le_refl _, by go_num, by go_num, Lib.hid ⟨by rw [tv_snoc, List.length_append]; exact HX4.out.1, HX4.out.2, by rw [List.length_append]; have := HI.out.2.2.1; simp; omega, Nat.le_refl _, ?_, by simp⟩⟩
          have h1 := HI.out.2.2.2.2.1
          have h2 := HI.out.2.2.2.2.2
          have h3 := HDS.out
          rw [← HX.out, HE.out] at h3
          rw [← HX.out] at h2
          rw [h1, h3, splitC_at h2, List.append_assoc]
          rfl
        case measure => omega
      · have hde : ((d.toNat : Int) == (c.toNat : Int)) = false := beq_eq_false_iff_ne.2 fun e => he (UInt8.toNat_inj.1 (by omega))
        have HE := Lib.hid he
        clear he hDk
        go_wp2_with fail
        go_roundg g
        case rel =>
          refine ⟨f, k + 1, D, by omega, by omega, rfl, by go_num, Lib.hid ⟨HI.out.1, HI.out.2.1, by have := HI.out.2.2.1; omega, by omega, HI.out.2.2.2.2.1, ?_⟩⟩
          have h2 := HI.out.2.2.2.2.2
          have h4 : (s.drop f).take (k + 1 - f) = (s.drop f).take (k - f) ++ [d] := by
            rw [show k + 1 - f = (k - f) + 1 by omega, List.take_succ_eq_append_getElem (by rw [List.length_drop]; omega), List.getElem_drop]
            simp only [show f + (k - f) = k by omega]
            rw [← HC.out]
          rw [h4]
          intro y hy
          rcases List.mem_append.1 hy with h' | h'
          · exact h2 y h'
          · rw [List.mem_singleton.1 h']; exact HE.out
        case measure => omega
    · obtain rfl : k = m := by omega
      obtain ⟨x, hx⟩ : ∃ x, x = s.drop f := ⟨_, rfl⟩
      have hsub : (tb s).extract f k = tb x := (by rw [tb_sub, hx, List.take_of_length_le (by rw [List.length_drop, ← HM.out]; exact Nat.le_refl _)])
      have HX : Hid (splitC c s = D ++ [x]) := Lib.hid (by
        have h2 := HI.out.2.2.2.2.2
        rw [List.take_of_length_le (by rw [List.length_drop, ← HM.out]; exact Nat.le_refl _)] at h2
        rw [HI.out.2.2.2.2.1, splitC_none h2, hx])
      have hDk := HI.out.2.2.1
      have hs1 : D.length + 1 ≤ maxLen := by unfold maxLen; omega
      have hs2 : (D.length + 1) * 16 ≤ 140737488355328 := by omega
      clear hx hDk
      go_wp2_with (at_builtin; refine wpList_own_src rfl (.tmp 28) (.tmp 32) 26 26 rfl w.heap.size 9 i0 _ 1 16 Tryd.underlying26 hi0 hz0 hz1 hz2 rfl _ _ _ rfl (own_alc HI.out.1 _) _ 1 [.string (tb x)] rfl (src_one Tryd.underlying26 hz1 _ _ _ rfl) hs1 hs2 (below_al HI.out.2.1 _).size ?_; intro v4 w4 hown4 hg4 hat4; have HX4 : Hid (w4.ownsRow w.heap.size 9 1 v4 (D.length + 1) (tv D ++ [.string (tb x)]) ∧ Below w.heap.size w w4) := Lib.hid ⟨hown4, below_own (below_al HI.out.2.1 _) hg4 (fun g hg => (HI.out.1.lt _ hg).1)⟩; clear hown4 hg4 hat4)
      obtain ⟨A3, c3, hv3, hrd3, hmc3, hcm3⟩ := Rd.of_own HX4.out.1
      subst hv3
      go_ret
      have he : tv D ++ [.string (tb x)] = tv (splitC c s) := by rw [HX.out, tv_snoc]
      have hl : (splitC c s).length = D.length + 1 := by rw [HX.out]; simp
      refine ⟨A3, c3, D.length + 1, rfl, hl.symm, ?_, ?_, hmc3, hcm3, HX4.out.2⟩
      · rw [← he]; exact HX4.out.1
      · rw [← he]; exact hrd3
end Go.Proofs.YtolkmjgklgimpaaDoor
