/-
  alphabet.readNumber; the reference's Digits.
-/
import Derived.Test.YtolkmjgklgimpaaDoorARef
import Derived.Test.YtolkmjgklgimpaaDoorAPur2
namespace Go.Proofs.YtolkmjgklgimpaaDoor
open Go.RowKit
open Alp
set_option linter.unusedVariables false
set_option linter.unusedSimpArgs false

def NumPost (w : World) (t : B) (e : Ending) (w' : World) : Prop := e = .returned (.tuple #[.int .i64 (numR t), .bool (numOK t)]) ∧ w = w'
theorem num_no {w : World} {t : B} (h : numOK t = false) : NumPost w t (.returned (.tuple #[.int .i64 0, .bool false])) w := ⟨by rw [numR_no h, h], rfl⟩
theorem num_yes {w : World} {t : B} {n : Int} (h : numOK t = true) (hn : n = numV t) : NumPost w t (.returned (.tuple #[.int .i64 n, .bool true])) w := ⟨by rw [numR_yes h, h, hn], rfl⟩
theorem num_step {t : B} {k : Nat} (hk : k < t.length) {c : UInt8} (hc : c = t[k]) : numV (t.take (k + 1)) = 10 * numV (t.take k) + ((c.toNat : Int) - 48) := by
  rw [List.take_succ_eq_append_getElem hk, numV_snoc, hc]
theorem num_pre {t : B} {k : Nat} (h : ∀ j (hj : j < t.length), j < k → isD t[j] = true) (hk : k ≤ 5) : 0 ≤ numV (t.take k) ∧ numV (t.take k) ≤ 99999 := by
  have hd : ∀ c ∈ t.take k, isD c = true := fun c hc => by
    obtain ⟨j, hj, rfl⟩ := List.getElem_of_mem hc
    rw [List.getElem_take]
    rw [List.length_take] at hj
    exact h j (by omega) (by omega)
  obtain ⟨h1, h2⟩ := numV_bd hd
  refine ⟨h1, ?_⟩
  have : (10 : Int) ^ (t.take k).length ≤ 10 ^ 5 := by
    have := Nat.pow_le_pow_right (n := 10) (by decide) (show (t.take k).length ≤ 5 by rw [List.length_take]; omega)
    exact_mod_cast this
  omega
theorem one_of {t : B} (h : t.length = 1) : t = [t.getD 0 0] := by
  match t, h with
  | [a], _ => rfl
set_option maxHeartbeats 1000000 in
theorem readNumber_any (t : B) (ht : t.length ≤ maxLen) (w : World) : Calls Tryd.prog 56 #[.string (tb t)] w (NumPost w t) := by
  unfold maxLen at ht
  obtain ⟨m, hm⟩ : ∃ m, m = t.length := ⟨_, rfl⟩
  have hsz : (tb t).size = m := by rw [tb_size, hm]
  rcases Nat.eq_zero_or_pos m with h0 | h0
  · obtain rfl : t = [] := List.eq_nil_of_length_eq_zero (by omega)
    have he : (tb []).toList.isEmpty = true := by rw [tb_toList]; rfl
    have hz0 : (tb []).size = 0 := rfl
    clear hsz hm
    go_enter Tryd.func56, Tryd.ntmps56
    go_wp2_with fail
    go_ret2
    exact num_no rfl
  · have hne : (tb t).toList.isEmpty = false := by
      rw [tb_toList]
      cases t with
      | nil => simp at hm; omega
      | cons a b => rfl
    by_cases h6 : 6 < m
    · have HE : Hid (numOK t = false) := Lib.hid (numOK_no fun h => by omega)
      rw [← hm] at ht
      clear hm
      go_enter Tryd.func56, Tryd.ntmps56
      go_wp2_with fail
      go_ret2
      exact num_no HE.out
    · have hd6 : decide (6 < (m : Int)) = false := decide_eq_false (by omega)
      obtain ⟨c, hc⟩ : ∃ c, c = t[0]'(by omega) := ⟨_, rfl⟩
      have hg0 : (tb t)[0]'(by rw [hsz]; exact h0) = c := by rw [hc]; rfl
      have hcd : t.getD 0 0 = c := by rw [hc]; simp [List.getD, show 0 < t.length by omega]
      have hone : m = 1 → t = [c] := fun h => by rw [← hcd]; exact one_of (by omega)
      by_cases hz : c.toNat = 48 ∧ m ≠ 1
      · have HE : Hid (numOK t = false) := Lib.hid (numOK_no fun h => by
          rcases h.2.2.1 with h' | h'
          · exact h' (by rw [hcd]; exact UInt8.toNat_inj.1 hz.1)
          · omega)
        have hc0 : ((c.toNat : Int) == 48) = true := by rw [hz.1]; rfl
        have hn1 : ((tb t).toList == [48]) = false := by
          rw [tb_toList]
          refine beq_eq_false_iff_ne.2 fun e => ?_
          rw [e] at hm
          exact hz.2 hm
        rw [← hm] at ht
        clear hm hz hcd hone hc
        go_enter Tryd.func56, Tryd.ntmps56
        go_wp2_with fail
        go_ret2
        exact num_no HE.out
      · have hqz : ((c.toNat : Int) == 48) = false ∨ (((c.toNat : Int) == 48) = true ∧ ((tb t).toList == [48]) = true) := by
          by_cases h : c.toNat = 48
          · refine .inr ⟨by rw [h]; rfl, ?_⟩
            have h1 : m = 1 := by
              rcases Nat.lt_or_ge m 2 with h' | h'
              · omega
              · exact absurd ⟨h, by omega⟩ hz
            have hc : c = 48 := UInt8.toNat_inj.1 h
            rw [tb_toList, hone h1, hc]
            rfl
          · exact .inl (beq_eq_false_iff_ne.2 (by omega))
        have HO : Hid (numOK t = t.all isD) := Lib.hid (by
          rw [Bool.eq_iff_iff, numOK_iff, List.all_eq_true]
          refine ⟨fun h => h.2.2.2, fun h => ⟨by omega, by omega, ?_, h⟩⟩
          by_cases h' : c.toNat = 48
          · exact .inr (by
              rcases Nat.lt_or_ge m 2 with h2 | h2
              · omega
              · exact absurd ⟨h', by omega⟩ hz)
          · exact .inl fun e => h' (by rw [← hcd, e]; rfl))
        rw [← hm] at ht
        have HM := Lib.hid hm
        clear hz hcd hone hc hm
        rcases hqz with hq | ⟨hq, hq2⟩
        · go_enter Tryd.func56, Tryd.ntmps56
          go_wp2_with fail
          go_loopg [4, 5, 24] m (fun g s4 s5 s24 wr => ∃ (k : Nat) (n : Int), k + g = m ∧ s24 = .int .i64 (k : Int) ∧ s4 = .int .i64 n ∧ Hid ((∀ j (hj : j < t.length), j < k → isD t[j] = true) ∧ n = numV (t.take k)) ∧ w = wr)
          case atStart => exact ⟨0, 0, by omega, rfl, rfl, Lib.hid ⟨fun j _ h => by omega, rfl⟩, rfl⟩
          case round =>
            obtain ⟨k, n, hk, rfl, rfl, HF, rfl⟩ := hrel
            by_cases hlt : k < m
            · obtain ⟨g, rfl⟩ : ∃ g, gk = g + 1 := ⟨gk - 1, by omega⟩
              have hkl : k < t.length := by rw [← HM.out]; exact hlt
              obtain ⟨d, hd⟩ : ∃ d, d = t[k] := ⟨_, rfl⟩
              have hg : (tb t)[k]'(by rw [hsz]; exact hlt) = d := by rw [hd]; rfl
              have HR := Lib.hid fun W => isDigit_any d W
              have HC := Lib.hid hd
              clear hd
              cases hr : isD d
              · rw [hr] at HR
                have HE : Hid (numOK t = false) := Lib.hid (numOK_no fun h => by
                  have := h.2.2.2 _ (List.getElem_mem hkl)
                  rw [← HC.out, hr] at this
                  cases this)
                clear hr
                go_wp2_with ((with_reducible refine (HR.out _).mono ?_); rintro e w1 ⟨rfl, rfl⟩)
                go_ret2
                exact num_no HE.out
              · rw [hr] at HR
                obtain ⟨hd1, hd2⟩ := isD_bd hr
                obtain ⟨hn1, hn2⟩ : 0 ≤ n ∧ n ≤ 99999 := by rw [HF.out.2]; exact num_pre HF.out.1 (by omega)
                have HS : Hid (10 * n + ((d.toNat : Int) - 48) = numV (t.take (k + 1))) := Lib.hid (by rw [num_step hkl HC.out, ← HF.out.2])
                have HR2 := Lib.hid hr
                clear hr
                go_wp2_with ((with_reducible refine (HR.out _).mono ?_); rintro e w1 ⟨rfl, rfl⟩)
                go_roundg g
                case rel => exact ⟨k + 1, 10 * n + ((d.toNat : Int) - 48), by omega, by go_num, by go_num, Lib.hid ⟨fun j hj hjk => by
                  rcases Nat.lt_or_ge j k with h | h
                  · exact HF.out.1 j hj h
                  · obtain rfl : j = k := by omega
                    rw [← HC.out]; exact HR2.out, HS.out⟩, rfl⟩
                case measure => omega
            · obtain rfl : k = m := by omega
              have HE : Hid (numOK t = true ∧ n = numV t) := Lib.hid ⟨by
                rw [HO.out, List.all_eq_true]
                intro x hx
                obtain ⟨j, hj, rfl⟩ := List.getElem_of_mem hx
                exact HF.out.1 j hj (by rw [HM.out]; exact hj), by rw [HF.out.2, HM.out, List.take_length]⟩
              go_wp2_with fail
              go_ret2
              exact num_yes HE.out.1 HE.out.2
        · go_enter Tryd.func56, Tryd.ntmps56
          go_wp2_with fail
          go_loopg [4, 5, 24] m (fun g s4 s5 s24 wr => ∃ (k : Nat) (n : Int), k + g = m ∧ s24 = .int .i64 (k : Int) ∧ s4 = .int .i64 n ∧ Hid ((∀ j (hj : j < t.length), j < k → isD t[j] = true) ∧ n = numV (t.take k)) ∧ w = wr)
          case atStart => exact ⟨0, 0, by omega, rfl, rfl, Lib.hid ⟨fun j _ h => by omega, rfl⟩, rfl⟩
          case round =>
            obtain ⟨k, n, hk, rfl, rfl, HF, rfl⟩ := hrel
            by_cases hlt : k < m
            · obtain ⟨g, rfl⟩ : ∃ g, gk = g + 1 := ⟨gk - 1, by omega⟩
              have hkl : k < t.length := by rw [← HM.out]; exact hlt
              obtain ⟨d, hd⟩ : ∃ d, d = t[k] := ⟨_, rfl⟩
              have hg : (tb t)[k]'(by rw [hsz]; exact hlt) = d := by rw [hd]; rfl
              have HR := Lib.hid fun W => isDigit_any d W
              have HC := Lib.hid hd
              clear hd
              cases hr : isD d
              · rw [hr] at HR
                have HE : Hid (numOK t = false) := Lib.hid (numOK_no fun h => by
                  have := h.2.2.2 _ (List.getElem_mem hkl)
                  rw [← HC.out, hr] at this
                  cases this)
                clear hr
                go_wp2_with ((with_reducible refine (HR.out _).mono ?_); rintro e w1 ⟨rfl, rfl⟩)
                go_ret2
                exact num_no HE.out
              · rw [hr] at HR
                obtain ⟨hd1, hd2⟩ := isD_bd hr
                obtain ⟨hn1, hn2⟩ : 0 ≤ n ∧ n ≤ 99999 := by rw [HF.out.2]; exact num_pre HF.out.1 (by omega)
                have HS : Hid (10 * n + ((d.toNat : Int) - 48) = numV (t.take (k + 1))) := Lib.hid (by rw [num_step hkl HC.out, ← HF.out.2])
                have HR2 := Lib.hid hr
                clear hr
                go_wp2_with ((with_reducible refine (HR.out _).mono ?_); rintro e w1 ⟨rfl, rfl⟩)
                go_roundg g
                case rel => exact ⟨k + 1, 10 * n + ((d.toNat : Int) - 48), by omega, by go_num, by go_num, Lib.hid ⟨fun j hj hjk => by
                  rcases Nat.lt_or_ge j k with h | h
                  · exact HF.out.1 j hj h
                  · obtain rfl : j = k := by omega
                    rw [← HC.out]; exact HR2.out, HS.out⟩, rfl⟩
                case measure => omega
            · obtain rfl : k = m := by omega
              have HE : Hid (numOK t = true ∧ n = numV t) := Lib.hid ⟨by
                rw [HO.out, List.all_eq_true]
                intro x hx
                obtain ⟨j, hj, rfl⟩ := List.getElem_of_mem hx
                exact HF.out.1 j hj (by rw [HM.out]; exact hj), by rw [HF.out.2, HM.out, List.take_length]⟩
              go_wp2_with fail
              go_ret2
              exact num_yes HE.out.1 HE.out.2
end Go.Proofs.YtolkmjgklgimpaaDoor
