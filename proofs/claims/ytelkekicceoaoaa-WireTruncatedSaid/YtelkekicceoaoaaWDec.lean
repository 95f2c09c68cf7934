/-
  The walks of wire.getLength, GetBytes.
-/
import Derived.Test.YtelkekicceoaoaaWGetA
import Derived.Test.YtelkekicceoaoaaWEnc
import Derived.Test.YtelkekicceoaoaaWConv
namespace Go.Proofs.Ytelkekicceoaoaa
open Go.RowKit
set_option linter.unusedVariables false

/-- a length that so many parts of wd bytes each follow -/
def gLen (l : List UInt8) (wd : Int) : Int × Nat × Int :=
  if (gI l).2.2 ≠ 0 then (0, 0, (gI l).2.2) else if (gI l).1 < 0 then (0, 0, 2) else if ((l.length : Int) - (gI l).2.1) / wd < (gI l).1 then (0, 0, 3) else ((gI l).1, (gI l).2.1, 0)
theorem gLen_ok {l : List UInt8} {wd : Int} (h : (gLen l wd).2.2 = 0) (hw : 1 ≤ wd) : (gI l).2.2 = 0 ∧ 0 ≤ (gI l).1 ∧ (gI l).1 * wd ≤ (l.length : Int) - (gI l).2.1 ∧ gLen l wd = ((gI l).1, (gI l).2.1, 0) := by
  unfold gLen at h ⊢
  by_cases h1 : (gI l).2.2 ≠ 0
  · rw [if_pos h1] at h; exact absurd h h1
  · rw [if_neg h1] at h ⊢
    by_cases h2 : (gI l).1 < 0
    · rw [if_pos h2] at h; simp at h
    · rw [if_neg h2] at h ⊢
      by_cases h3 : ((l.length : Int) - (gI l).2.1) / wd < (gI l).1
      · rw [if_pos h3] at h; simp at h
      · rw [if_neg h3]
        refine ⟨by simpa using h1, by omega, ?_, rfl⟩
        have := Int.mul_le_of_le_ediv (by omega) (Int.not_lt.1 h3)
        omega

set_option maxHeartbeats 400000 in
theorem getLength_any (l : List UInt8) (A : Option Addr) (c : Nat) (wd : Int) (w : World) (hw1 : 1 ≤ wd) (hw2 : wd ≤ 16) (hc : l.length ≤ c) (hm : c ≤ maxLen) (hr : Rd w A (bs l)) :
    Calls Try.prog 39 #[.slice A l.length c, .int .i64 wd] w fun e w' => e = ret3 (gLen l wd) ∧ w = w' := by
  have hlen : l.length ≤ 9223372036854775807 := by unfold maxLen at hm; omega
  have HR := Lib.hid hr; clear hr
  have HM := Lib.hid hm; clear hm
  have HC := Lib.hid hc; clear hc
  have hg : ∀ h : (gI l).2.2 = 0, inI (gI l).1 ∧ (gI l).2.1 ≤ l.length := fun h => ⟨(gI_ok h).1, (gI_ok h).2.1⟩
  have hG : gLen l wd = if (gI l).2.2 ≠ 0 then (0, 0, (gI l).2.2) else if (gI l).1 < 0 then (0, 0, 2) else if ((l.length : Int) - (gI l).2.1) / wd < (gI l).1 then (0, 0, 3) else ((gI l).1, (gI l).2.1, 0) := rfl
  generalize gLen l wd = G at hG ⊢
  have HG := Lib.hid hG; clear hG
  go_enter Try.func39, Try.ntmps39
  go_wp2_with fail
  refine (getInt_any l A c w HC.out HM.out HR.out).mono ?_
  rintro e w' ⟨rfl, rfl⟩
  unfold ret3
  generalize gI l = r at hg HG ⊢
  obtain ⟨n, u, er⟩ := r
  by_cases he : er = 0
  · subst he
    obtain ⟨hn, hu⟩ := hg rfl
    simp only at hn hu
    unfold inI at hn
    obtain ⟨hn1, hn2⟩ := hn
    clear hg
    by_cases h1 : n < 0
    · have HF : Hid (G = (0, 0, 2)) := by show _ = _; rw [HG.out, if_neg (by simp), if_pos h1]
      go_wp2_with fail
      go_ret3
      exact ⟨by rw [HF.out]; rfl, rfl⟩
    · by_cases h2 : ((l.length : Int) - u) / wd < n
      · have HF : Hid (G = (0, 0, 3)) := by show _ = _; rw [HG.out, if_neg (by simp), if_neg h1, if_pos h2]
        go_wp2_with fail
        go_ret3
        exact ⟨by rw [HF.out]; rfl, rfl⟩
      · have HF : Hid (G = (n, u, 0)) := by show _ = _; rw [HG.out, if_neg (by simp), if_neg h1, if_neg h2]
        go_wp2_with fail
        go_ret3
        exact ⟨by rw [HF.out]; rfl, rfl⟩
  · have h0 : ((er : Int) != 0) = true := by rw [bne_iff_ne]; exact he
    have HF : Hid (G = (0, 0, er)) := by show _ = _; rw [HG.out, if_pos he]
    clear hg
    have HE := Lib.hid he; clear he
    go_wp2_with fail
    go_ret3
    exact ⟨by rw [HF.out]; rfl, rfl⟩

/-- GetBytes -/
def gB3 (l : List UInt8) : List UInt8 × Nat × Int := if (gLen l 1).2.2 ≠ 0 then ([], 0, (gLen l 1).2.2) else ((l.drop (gLen l 1).2.1).take (gLen l 1).1.toNat, (gLen l 1).2.1 + (gLen l 1).1.toNat, 0)
def retS (r : List UInt8 × Nat × Int) : Ending := .returned (.tuple #[.string ⟨r.1.toArray⟩, .int .i64 r.2.1, .int .i64 r.2.2])

set_option maxHeartbeats 400000 in
theorem getBytes_any (l : List UInt8) (A : Option Addr) (c : Nat) (w : World) (hc : l.length ≤ c) (hm : c ≤ maxLen) (hr : Rd w A (bs l)) :
    Calls Try.prog 26 #[.slice A l.length c] w fun e w' => e = retS (gB3 l) ∧ w = w' := by
  have hlen : c ≤ 9223372036854775807 := by unfold maxLen at hm; omega
  have HR := Lib.hid hr; clear hr
  have HM := Lib.hid hm; clear hm
  have hg : ∀ h : (gLen l 1).2.2 = 0, 0 ≤ (gLen l 1).1 ∧ (gLen l 1).1 + (gLen l 1).2.1 ≤ l.length ∧ 1 ≤ (gLen l 1).2.1 := fun h => by
    obtain ⟨h1, h2, h3, h4⟩ := gLen_ok h (by omega)
    have h5 := (gI_ok h1).2.1
    have h6 := (gI_ok h1).2.2.1
    rw [h4]
    refine ⟨h2, ?_, h6⟩
    simp only
    omega
  have hG : gB3 l = if (gLen l 1).2.2 ≠ 0 then ([], 0, (gLen l 1).2.2) else ((l.drop (gLen l 1).2.1).take (gLen l 1).1.toNat, (gLen l 1).2.1 + (gLen l 1).1.toNat, 0) := rfl
  generalize gB3 l = G at hG ⊢
  have HG := Lib.hid hG; clear hG
  go_enter Try.func26, Try.ntmps26
  go_wp2_with fail
  refine (getLength_any l A c 1 w (by omega) (by omega) hc HM.out HR.out).mono ?_
  rintro e w' ⟨rfl, rfl⟩
  unfold ret3
  generalize gLen l 1 = r at hg HG ⊢
  obtain ⟨n, u, er⟩ := r
  by_cases he : er = 0
  · subst he
    obtain ⟨hn, hu, hu1⟩ := hg rfl
    clear hg
    simp only at hn hu hu1
    obtain ⟨k, rfl⟩ := Int.eq_ofNat_of_zero_le hn
    have HF : Hid (G = ((l.drop u).take k, u + k, 0)) := by show _ = _; rw [HG.out, if_neg (by simp)]; rfl
    clear HG
    obtain ⟨b, o, rfl, hcell⟩ := HR.out.open (by intro e; have := congrArg List.length e; rw [bs_length, List.length_nil] at this; omega)
    have hrd : Rd w (some ⟨b, o + u, none⟩) (bs ((l.drop u).take k)) := by
      refine .inr ⟨b, o + u, rfl, fun i v hv => ?_⟩
      rw [Nat.add_assoc]
      refine hcell (u + i) v ?_
      rw [← bs_take, ← bs_drop, List.getElem?_take] at hv
      split at hv
      · rw [List.getElem?_drop] at hv; exact hv
      · cases hv
    have hlk : ((l.drop u).take k).length = k := by simp; omega
    have HX : Hid (G.1 = (l.drop u).take k) := by show _ = _; rw [HF.out]
    by_cases hcu : c = u
    · obtain rfl : c = u := hcu
      have hk0 : k ≤ 0 := by omega
      have hnil : (l.drop c).take k = [] := List.eq_nil_of_length_eq_zero (by omega)
      have hconv : (convert 28 9 (.slice (some ⟨b, o, none⟩) k 0)).run Try.prog w = .ok (.string ⟨((l.drop c).take k).toArray⟩) w := by
        have h := conv_rd (P := Try.prog) (src := 28) (dst := 9) Try.underlying28 Try.underlying5 Try.underlying9 (w := w) (A := some ⟨b, o, none⟩) (l := (l.drop c).take k) (by rw [hnil]; exact .inl rfl) 0
        rw [hlk] at h
        exact h
      generalize (l.drop c).take k = x at hconv HF
      clear hcell hrd hlk HX hnil
      go_wp2_with fail
      go_ret3
      exact ⟨by rw [HF.out]; rfl, rfl⟩
    · have hconv : (convert 28 9 (.slice (some ⟨b, o + u, none⟩) k (c - u))).run Try.prog w = .ok (.string ⟨((l.drop u).take k).toArray⟩) w := by
        have h := conv_rd (P := Try.prog) (src := 28) (dst := 9) Try.underlying28 Try.underlying5 Try.underlying9 hrd (c - u)
        rw [hlk] at h
        exact h
      generalize (l.drop u).take k = x at hconv HF
      clear hcell hrd hlk HX
      go_wp2_with fail
      go_ret3
      exact ⟨by rw [HF.out]; rfl, rfl⟩
  · have h0 : ((er : Int) != 0) = true := by rw [bne_iff_ne]; exact he
    have HF : Hid (G = ([], 0, er)) := by show _ = _; rw [HG.out, if_pos he]
    clear hg
    have HE := Lib.hid he; clear he
    go_wp2_with fail
    go_ret3
    exact ⟨by rw [HF.out]; rfl, rfl⟩

end Go.Proofs.Ytelkekicceoaoaa
