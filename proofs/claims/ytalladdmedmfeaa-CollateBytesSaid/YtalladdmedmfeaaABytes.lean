/-
  alphabet.isDigit, reserved, validText, has; the reference's Reserved, plain.
-/
import Derived.Test.YtalladdmedmfeaaABase
import Derived.Test.YtalladdmedmfeaaAPure
import Derived.Test.YtalladdmedmfeaaKShelf
namespace Go.Proofs.Ytalladdmedmfeaa
open Go.RowKit
open Alp
set_option linter.unusedVariables false
set_option linter.unusedSimpArgs false

def BoolIs (w : World) (b : Bool) (e : Ending) (w' : World) : Prop := e = .returned (.bool b) ∧ w = w'
theorem isD_yes {c : UInt8} (h : isD c = true) : 48 ≤ c.toNat ∧ c.toNat ≤ 57 := by unfold isD at h; simpa using h
theorem isD_no {c : UInt8} (h : isD c = false) : c.toNat < 48 ∨ 57 < c.toNat := by
  unfold isD at h
  by_cases h1 : 48 ≤ c.toNat
  · right
    simp [h1] at h
    exact h
  · exact .inl (by omega)
theorem isDigit_any (c : UInt8) (w : World) : Calls Try.prog 76 #[.int .u8 c.toNat] w (BoolIs w (isD c)) := by
  have hc : c.toNat < 256 := c.toNat_lt
  cases h : isD c
  · rcases isD_no h with h1 | h1
    · clear h
      go_enter Try.func76, Try.ntmps76
      go_wp2
      go_ret
      exact ⟨rfl, rfl⟩
    · clear h
      have h0 : 48 ≤ c.toNat := by omega
      have hd : decide ((c.toNat : Int) ≤ 57) = false := decide_eq_false (by omega)
      go_enter Try.func76, Try.ntmps76
      go_wp2
      go_ret
      exact ⟨rfl, rfl⟩
  · obtain ⟨h1, h2⟩ := isD_yes h
    clear h
    have hd : decide ((c.toNat : Int) ≤ 57) = true := decide_eq_true (by omega)
    go_enter Try.func76, Try.ntmps76
    go_wp2
    go_ret
    exact ⟨rfl, rfl⟩
theorem ixb_has (l : List UInt8) (c : UInt8) : (0 ≤ Lib.indexByte l c) ↔ c ∈ l := by
  have hg := Lib.indexByte_ge l c
  constructor
  · intro h
    obtain ⟨o, ho⟩ : ∃ o : Nat, Lib.indexByte l c = o := ⟨(Lib.indexByte l c).toNat, by omega⟩
    exact List.mem_of_getElem? (Lib.indexByte_some ho).1
  · intro h
    rcases Int.lt_or_le (Lib.indexByte l c) 0 with h1 | h1
    · have h2 : Lib.indexByte l c = -1 := by omega
      obtain ⟨k, hk, e⟩ := List.getElem_of_mem h
      exact absurd (by rw [List.getElem?_eq_getElem hk, e]) (Lib.indexByte_none h2 k)
    · exact h1
theorem resv_digit {c : UInt8} (h : isD c = true) : resv c = true := by unfold resv; rw [h]; simp
theorem resv_low {c : UInt8} (h : c.toNat < 33) : resv c = true := by unfold resv; simp [h]
theorem resv_mark {c : UInt8} (h1 : ¬ c.toNat < 33) (h2 : isD c = false) : resv c = decide (c ∈ marks) := by unfold resv; rw [h2, decide_eq_false h1]; simp [List.contains_eq_mem]
theorem ix_any (c : UInt8) (w : World) : Calls Try.prog 77 #[.string ⟨#[45, 35, 46, 124, 40, 41, 42, 63, 123, 125, 62, 47, 95, 126, 59, 58, 44, 61, 34, 64]⟩, .int .u8 c.toNat] w fun e w' => e = .returned (.int .i64 (Lib.indexByte marks c)) ∧ w = w' :=
  (Try.strings_IndexByte _ _ w).mono fun e w' ⟨he, hw⟩ => ⟨by rw [he]; show Ending.returned (.int .i64 (Lib.indexByte marks ((c.toNat : Int).toNat.toUInt8))) = _; rw [Int.toNat_natCast]; simp, hw.symm⟩
theorem reserved_any (c : UInt8) (w : World) : Calls Try.prog 74 #[.int .u8 c.toNat] w (BoolIs w (resv c)) := by
  have hc : c.toNat < 256 := c.toNat_lt
  by_cases h1 : c.toNat < 33
  · rw [resv_low h1]
    go_enter Try.func74, Try.ntmps74
    go_wp2_with fail
    go_ret
    exact ⟨rfl, rfl⟩
  · have HD := Lib.hid fun W => isDigit_any c W
    have hdl : decide ((c.toNat : Int) < 33) = false := decide_eq_false (by omega)
    cases h2 : isD c
    · rw [resv_mark h1 h2]
      rw [h2] at HD
      have HX := Lib.hid fun W => ix_any c W
      obtain ⟨x, hx⟩ : ∃ x, x = Lib.indexByte marks c := ⟨_, rfl⟩
      have hm := ixb_has marks c
      rw [← hx] at HX hm
      by_cases h3 : 0 ≤ x
      · rw [decide_eq_true (hm.1 h3)]
        clear hm hx h2
        go_enter Try.func74, Try.ntmps74
        go_wp2_with (first
          | ((with_reducible refine (HD.out _).mono ?_); rintro e w1 ⟨rfl, rfl⟩)
          | ((with_reducible refine (HX.out _).mono ?_); rintro e w1 ⟨rfl, rfl⟩))
        go_ret
        exact ⟨rfl, rfl⟩
      · rw [decide_eq_false (fun h => h3 (hm.2 h))]
        have hd : decide (0 ≤ x) = false := decide_eq_false h3
        clear hm hx h2
        go_enter Try.func74, Try.ntmps74
        go_wp2_with (first
          | ((with_reducible refine (HD.out _).mono ?_); rintro e w1 ⟨rfl, rfl⟩)
          | ((with_reducible refine (HX.out _).mono ?_); rintro e w1 ⟨rfl, rfl⟩))
        go_ret
        exact ⟨rfl, rfl⟩
    · rw [resv_digit h2]
      rw [h2] at HD
      clear h2
      go_enter Try.func74, Try.ntmps74
      go_wp2_with ((with_reducible refine (HD.out _).mono ?_); rintro e w1 ⟨rfl, rfl⟩)
      go_ret
      exact ⟨rfl, rfl⟩
theorem plain_short {t : B} (h : t.length < 1 ∨ 4 < t.length) : plain t = false := by
  rw [Bool.eq_false_iff]
  intro e
  have := (plain_iff t).1 e
  omega
theorem plain_bad {t : B} {k : Nat} (hk : k < t.length) (h : resv t[k] = true) : plain t = false := by
  rw [Bool.eq_false_iff]
  intro e
  have := ((plain_iff t).1 e).2.2 _ (List.getElem_mem hk)
  rw [h] at this
  cases this
theorem plain_good {t : B} (h1 : 1 ≤ t.length) (h2 : t.length ≤ 4) (h : ∀ j (hj : j < t.length), resv t[j] = false) : plain t = true :=
  (plain_iff t).2 ⟨h1, h2, fun c hc => by
    obtain ⟨j, hj, rfl⟩ := List.getElem_of_mem hc
    exact h j hj⟩
theorem validText_any (t : B) (ht : t.length ≤ maxLen) (w : World) : Calls Try.prog 72 #[.string (tb t)] w (BoolIs w (plain t)) := by
  unfold maxLen at ht
  obtain ⟨m, hm⟩ : ∃ m, m = t.length := ⟨_, rfl⟩
  have hsz : (tb t).size = m := by rw [tb_size, hm]
  by_cases hs : m < 1 ∨ 4 < m
  · rw [plain_short (by rw [← hm]; exact hs)]
    rw [← hm] at ht
    clear hm
    rcases hs with h1 | h1
    · go_enter Try.func72, Try.ntmps72
      go_wp2_with fail
      go_ret
      exact ⟨rfl, rfl⟩
    · go_enter Try.func72, Try.ntmps72
      go_wp2_with fail
      go_ret
      exact ⟨rfl, rfl⟩
  · have h1 : 1 ≤ m := by omega
    have h2 : m ≤ 4 := by omega
    obtain ⟨b, hb⟩ : ∃ b, b = plain t := ⟨_, rfl⟩
    rw [← hb]
    have HM := Lib.hid hm
    have HB := Lib.hid hb
    clear hm hs ht hb
    go_enter Try.func72, Try.ntmps72
    go_wp2_with fail
    go_loopg [3, 14] m (fun g s3 s14 wr => ∃ (k : Nat), k + g = m ∧ s14 = .int .i64 (k : Int) ∧ Hid (∀ j (hj : j < t.length), j < k → resv t[j] = false) ∧ w = wr)
    case atStart => exact ⟨0, by omega, rfl, Lib.hid fun j _ h => by omega, rfl⟩
    case round =>
      obtain ⟨k, hk, rfl, HF, rfl⟩ := hrel
      by_cases hlt : k < m
      · obtain ⟨g, rfl⟩ : ∃ g, gk = g + 1 := ⟨gk - 1, by omega⟩
        have hkl : k < t.length := by rw [← HM.out]; exact hlt
        obtain ⟨c, hc⟩ : ∃ c, c = t[k] := ⟨_, rfl⟩
        have hg : (tb t)[k]'(by rw [hsz]; exact hlt) = c := by rw [hc]; rfl
        have HR := Lib.hid fun W => reserved_any c W
        have HC := Lib.hid hc
        clear hc
        cases hr : resv c
        · rw [hr] at HR
          have HR2 := Lib.hid hr
          clear hr
          go_wp2_with ((with_reducible refine (HR.out _).mono ?_); rintro e w1 ⟨rfl, rfl⟩)
          go_roundg g
          case rel => exact ⟨k + 1, by omega, by go_num, Lib.hid fun j hj hjk => by
            rcases Nat.lt_or_ge j k with h | h
            · exact HF.out j hj h
            · obtain rfl : j = k := by omega
              rw [← HC.out]; exact HR2.out, rfl⟩
          case measure => omega
        · rw [hr] at HR
          have HE : Hid (b = false) := Lib.hid (by rw [HB.out]; exact plain_bad hkl (by rw [← HC.out]; exact hr))
          clear hr
          go_wp2_with ((with_reducible refine (HR.out _).mono ?_); rintro e w1 ⟨rfl, rfl⟩)
          go_ret
          exact ⟨ret_bool HE.out.symm, rfl⟩
      · obtain rfl : k = m := by omega
        have HE : Hid (b = true) := Lib.hid (by rw [HB.out]; exact plain_good (by rw [← HM.out]; exact h1) (by rw [← HM.out]; exact h2) fun j hj => HF.out j hj (by rw [HM.out]; exact hj))
        go_wp2_with fail
        go_ret
        exact ⟨ret_bool HE.out.symm, rfl⟩
/-- The bytes that the reference calls reserved. -/
def rsv : B := [48, 49, 50, 51, 52, 53, 54, 55, 56, 57, 45, 35, 46, 124, 40, 41, 42, 63, 123, 125, 62, 47, 95, 126, 59, 58, 44, 61, 34, 64]
theorem rsv_resv (c : UInt8) : resv c = (decide (c ∈ rsv) || decide (c.toNat < 33)) := by
  have h : ∀ n : Fin 256, resv (UInt8.ofNat n.val) = (decide (UInt8.ofNat n.val ∈ rsv) || decide ((UInt8.ofNat n.val).toNat < 33)) := by decide +kernel
  have := h ⟨c.toNat, c.toNat_lt⟩
  simpa using this
theorem rReserved_any (c : UInt8) (w : World) : Calls Try.prog 68 #[.int .u8 c.toNat] w (BoolIs w (resv c)) := by
  have hc : c.toNat < 256 := c.toNat_lt
  obtain ⟨b, hb⟩ : ∃ b, b = resv c := ⟨_, rfl⟩
  rw [← hb]
  have HB : Hid (b = (decide (c ∈ rsv) || decide (c.toNat < 33))) := Lib.hid (hb.trans (rsv_resv c))
  clear hb
  have hsz : (⟨#[48, 49, 50, 51, 52, 53, 54, 55, 56, 57, 45, 35, 46, 124, 40, 41, 42, 63, 123, 125, 62, 47, 95, 126, 59, 58, 44, 61, 34, 64]⟩ : ByteArray).size = 30 := rfl
  go_enter Try.func68, Try.ntmps68
  go_wp2_with fail
  go_loopg [3] 30 (fun g s3 wr => ∃ (k : Nat), k + g = 30 ∧ s3 = .int .i64 (k : Int) ∧ Hid (∀ j (hj : j < rsv.length), j < k → rsv[j] ≠ c) ∧ w = wr)
  case atStart => exact ⟨0, by omega, rfl, Lib.hid fun j _ h => by omega, rfl⟩
  case round =>
    obtain ⟨k, hk, rfl, HF, rfl⟩ := hrel
    by_cases hlt : k < 30
    · obtain ⟨g, rfl⟩ : ∃ g, gk = g + 1 := ⟨gk - 1, by omega⟩
      have hkl : k < rsv.length := hlt
      obtain ⟨d, hd⟩ : ∃ d, d = rsv[k] := ⟨_, rfl⟩
      have hg : (⟨#[48, 49, 50, 51, 52, 53, 54, 55, 56, 57, 45, 35, 46, 124, 40, 41, 42, 63, 123, 125, 62, 47, 95, 126, 59, 58, 44, 61, 34, 64]⟩ : ByteArray)[k]'(by rw [hsz]; exact hlt) = d := by rw [hd]; rfl
      have HC := Lib.hid hd
      clear hd
      by_cases he : d.toNat = c.toNat
      · have hE : d = c := UInt8.toNat_inj.1 he
        have HE : Hid (b = true) := Lib.hid (by rw [HB.out, decide_eq_true (by rw [← hE, HC.out]; exact List.getElem_mem hkl)]; rfl)
        have hde : ((d.toNat : Int) == (c.toNat : Int)) = true := by rw [he]; exact beq_self_eq_true _
        clear hE he
        go_wp2_with fail
        go_ret
        exact ⟨ret_bool HE.out.symm, rfl⟩
      · have hde : ((d.toNat : Int) == (c.toNat : Int)) = false := beq_eq_false_iff_ne.2 (by omega)
        have HN : Hid (d ≠ c) := Lib.hid fun e => he (by rw [e])
        clear he
        go_wp2_with fail
        go_roundg g
        case rel => exact ⟨k + 1, by omega, by go_num, Lib.hid fun j hj hjk => by
          rcases Nat.lt_or_ge j k with h | h
          · exact HF.out j hj h
          · obtain rfl : j = k := by omega
            rw [← HC.out]; exact HN.out, rfl⟩
        case measure => omega
    · obtain rfl : k = 30 := by omega
      have HE : Hid (b = decide ((c.toNat : Int) < 33)) := Lib.hid (by
        rw [HB.out, decide_eq_false (p := c ∈ rsv) (fun h => by obtain ⟨j, hj, e⟩ := List.getElem_of_mem h; exact HF.out j hj hj e)]
        simp only [Bool.false_or]
        congr 1
        exact propext (by omega))
      by_cases h33 : c.toNat < 33
      · go_wp2_with fail
        go_ret
        exact ⟨ret_bool HE.out.symm, rfl⟩
      · go_wp2_with fail
        go_ret
        exact ⟨ret_bool HE.out.symm, rfl⟩
theorem rplain_any (t : B) (ht : t.length ≤ maxLen) (w : World) : Calls Try.prog 60 #[.string (tb t)] w (BoolIs w (plain t)) := by
  unfold maxLen at ht
  obtain ⟨m, hm⟩ : ∃ m, m = t.length := ⟨_, rfl⟩
  have hsz : (tb t).size = m := by rw [tb_size, hm]
  obtain ⟨b, hb⟩ : ∃ b, b = plain t := ⟨_, rfl⟩
  rw [← hb]
  rw [← hm] at ht
  have HM := Lib.hid hm
  have HB := Lib.hid hb
  clear hm hb
  go_enter Try.func60, Try.ntmps60
  go_wp2_with fail
  go_loopg [3] m (fun g s3 wr => ∃ (k : Nat), k + g = m ∧ s3 = .int .i64 (k : Int) ∧ Hid (∀ j (hj : j < t.length), j < k → resv t[j] = false) ∧ w = wr)
  case atStart => exact ⟨0, by omega, rfl, Lib.hid fun j _ h => by omega, rfl⟩
  case round =>
    obtain ⟨k, hk, rfl, HF, rfl⟩ := hrel
    by_cases hlt : k < m
    · obtain ⟨g, rfl⟩ : ∃ g, gk = g + 1 := ⟨gk - 1, by omega⟩
      have hkl : k < t.length := by rw [← HM.out]; exact hlt
      obtain ⟨c, hc⟩ : ∃ c, c = t[k] := ⟨_, rfl⟩
      have hg : (tb t)[k]'(by rw [hsz]; exact hlt) = c := by rw [hc]; rfl
      have HR := Lib.hid fun W => rReserved_any c W
      have HC := Lib.hid hc
      clear hc
      cases hr : resv c
      · rw [hr] at HR
        have HR2 := Lib.hid hr
        clear hr
        go_wp2_with ((with_reducible refine (HR.out _).mono ?_); rintro e w1 ⟨rfl, rfl⟩)
        go_roundg g
        case rel => exact ⟨k + 1, by omega, by go_num, Lib.hid fun j hj hjk => by
          rcases Nat.lt_or_ge j k with h | h
          · exact HF.out j hj h
          · obtain rfl : j = k := by omega
            rw [← HC.out]; exact HR2.out, rfl⟩
        case measure => omega
      · rw [hr] at HR
        have HE : Hid (b = false) := Lib.hid (by rw [HB.out]; exact plain_bad hkl (by rw [← HC.out]; exact hr))
        clear hr
        go_wp2_with ((with_reducible refine (HR.out _).mono ?_); rintro e w1 ⟨rfl, rfl⟩)
        go_ret
        exact ⟨ret_bool HE.out.symm, rfl⟩
    · obtain rfl : k = m := by omega
      by_cases h1 : 1 ≤ k
      · by_cases h2 : k ≤ 4
        · have HE : Hid (b = true) := Lib.hid (by rw [HB.out]; exact plain_good (by rw [← HM.out]; exact h1) (by rw [← HM.out]; exact h2) fun j hj => HF.out j hj (by rw [HM.out]; exact hj))
          have hd : decide ((k : Int) ≤ 4) = true := decide_eq_true (by omega)
          go_wp2_with fail
          go_ret
          exact ⟨ret_bool HE.out.symm, rfl⟩
        · have HE : Hid (b = false) := Lib.hid (by rw [HB.out]; exact plain_short (by rw [← HM.out]; omega))
          have hd : decide ((k : Int) ≤ 4) = false := decide_eq_false (by omega)
          go_wp2_with fail
          go_ret
          exact ⟨ret_bool HE.out.symm, rfl⟩
      · have HE : Hid (b = false) := Lib.hid (by rw [HB.out]; exact plain_short (by rw [← HM.out]; omega))
        have hd : decide (1 ≤ (k : Int)) = false := decide_eq_false (by omega)
        have hd2 : decide (0 < k) = false := decide_eq_false (by omega)
        go_wp2_with fail
        go_ret
        exact ⟨ret_bool HE.out.symm, rfl⟩
theorem has_any (A : Option Addr) (n c : Nat) (x : Int) (w : World) (b : Bool) (hb : b = decide (0 ≤ x ∧ x < n)) : Calls Try.prog 53 #[.slice A n c, .int .i64 x] w (BoolIs w b) := by
  subst hb
  by_cases h1 : 0 ≤ x
  · by_cases h2 : x < n
    · have e : decide (0 ≤ x ∧ x < n) = true := decide_eq_true ⟨h1, h2⟩
      rw [e]
      clear e
      go_enter Try.func53, Try.ntmps53
      go_wp2
      go_ret
      exact ⟨rfl, rfl⟩
    · have e : decide (0 ≤ x ∧ x < n) = false := decide_eq_false fun h => h2 h.2
      rw [e]
      clear e
      go_enter Try.func53, Try.ntmps53
      go_wp2
      go_ret
      exact ⟨rfl, rfl⟩
  · have e : decide (0 ≤ x ∧ x < n) = false := decide_eq_false fun h => h1 h.1
    rw [e]
    clear e
    go_enter Try.func53, Try.ntmps53
    go_wp2
    go_ret
    exact ⟨rfl, rfl⟩
end Go.Proofs.Ytalladdmedmfeaa
