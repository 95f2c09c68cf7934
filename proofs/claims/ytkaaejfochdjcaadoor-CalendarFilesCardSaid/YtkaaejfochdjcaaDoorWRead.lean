/-
  WDec, WList, WGets, WGetD, WGetX, WPure2 in one text.
-/
import Derived.Test.YtkaaejfochdjcaaDoorWGetA
import Derived.Test.YtkaaejfochdjcaaDoorWEnc
import Derived.Test.YtkaaejfochdjcaaDoorWConv
import Derived.Deep.LoopGhost
import Derived.Deep.MidRow
import Derived.Deep.RegionLaw
import Derived.Test.YtkaaejfochdjcaaDoorWEnc2
namespace Go.Proofs.YtkaaejfochdjcaaDoor
section
open Go.RowKit
set_option linter.unusedVariables false

/-- a length that so many parts of wd bytes each follow -/
def gLen (l : List UInt8) (wd : Int) : Int × Nat × Int :=
  if (gI l).2.2 ≠ 0 then (0, 0, (gI l).2.2) else if (gI l).1 < 0 then (0, 0, 2) else if ((l.length : Int) - (gI l).2.1) / wd < (gI l).1 then (0, 0, 3) else ((gI l).1, (gI l).2.1, 0)
theorem gLen_ok {l : List UInt8} {wd : Int} (h : (gLen l wd).2.2 = 0) (hw : 1 ≤ wd) : (gI l).2.2 = 0 ∧ 0 ≤ (gI l).1 ∧ (gI l).1 * wd ≤ (l.length : Int) - (gI l).2.1 ∧ gLen l wd = ((gI l).1, (gI l).2.1, 0) := by
  unfold gLen at h ⊢
  by_cases h1 : (gI l).2.2 ≠ 0
  · rw [if_pos h1] at h; exact absurd h h1
  · rw [if_neg h1] at h ⊢
    by_cases h2 : (gI l).1 < 0
    · rw [if_pos h2] at h; simp at h
    · rw [if_neg h2] at h ⊢
      by_cases h3 : ((l.length : Int) - (gI l).2.1) / wd < (gI l).1
      · rw [if_pos h3] at h; simp at h
      · rw [if_neg h3]
        refine ⟨by simpa using h1, by omega, ?_, rfl⟩
        have := Int.mul_le_of_le_ediv (by omega) (Int.not_lt.1 h3)
        omega

set_option maxHeartbeats 400000 in
theorem getLength_any (l : List UInt8) (A : Option Addr) (c : Nat) (wd : Int) (w : World) (hw1 : 1 ≤ wd) (hw2 : wd ≤ 16) (hc : l.length ≤ c) (hm : c ≤ maxLen) (hr : Rd w A (bs l)) :
    Calls Tryd.prog 72 #[.slice A l.length c, .int .i64 wd] w fun e w' => e = ret3 (gLen l wd) ∧ w = w' := by
  have hlen : l.length ≤ 9223372036854775807 := by unfold maxLen at hm; omega
  have HR := Lib.hid hr; clear hr
  have HM := Lib.hid hm; clear hm
  have HC := Lib.hid hc; clear hc
  have hg : ∀ h : (gI l).2.2 = 0, inI (gI l).1 ∧ (gI l).2.1 ≤ l.length := fun h => ⟨(gI_ok h).1, (gI_ok h).2.1⟩
  have hG : gLen l wd = if (gI l).2.2 ≠ 0 then (0, 0, (gI l).2.2) else if (gI l).1 < 0 then (0, 0, 2) else if ((l.length : Int) - (gI l).2.1) / wd < (gI l).1 then (0, 0, 3) else ((gI l).1, (gI l).2.1, 0) := rfl
  generalize gLen l wd = G at hG ⊢
  have HG := Lib.hid hG; clear hG
  go_enter Tryd.func72, Tryd.ntmps72
  go_wp2_with fail
  refine (getInt_any l A c w HC.out HM.out HR.out).mono ?_
  rintro e w' ⟨rfl, rfl⟩
  unfold ret3
  generalize gI l = r at hg HG ⊢
  obtain ⟨n, u, er⟩ := r
  by_cases he : er = 0
  · subst he
    obtain ⟨hn, hu⟩ := hg rfl
    simp only at hn hu
    unfold inI at hn
    obtain ⟨hn1, hn2⟩ := hn
    clear hg
    by_cases h1 : n < 0
    · have HF : Hid (G = (0, 0, 2)) := by show _ = _; rw [HG.out, if_neg (by simp), if_pos h1]
      go_wp2_with fail
      go_ret3
      exact ⟨by rw [HF.out]; rfl, rfl⟩
    · by_cases h2 : ((l.length : Int) - u) / wd < n
      · have HF : Hid (G = (0, 0, 3)) := by show _ = _; rw [HG.out, if_neg (by simp), if_neg h1, if_pos h2]
        go_wp2_with fail
        go_ret3
        exact ⟨by rw [HF.out]; rfl, rfl⟩
      · have HF : Hid (G = (n, u, 0)) := by show _ = _; rw [HG.out, if_neg (by simp), if_neg h1, if_neg h2]
        go_wp2_with fail
        go_ret3
        exact ⟨by rw [HF.out]; rfl, rfl⟩
  · have h0 : ((er : Int) != 0) = true := by rw [bne_iff_ne]; exact he
    have HF : Hid (G = (0, 0, er)) := by show _ = _; rw [HG.out, if_pos he]
    clear hg
    have HE := Lib.hid he; clear he
    go_wp2_with fail
    go_ret3
    exact ⟨by rw [HF.out]; rfl, rfl⟩

/-- GetBytes -/
def gB3 (l : List UInt8) : List UInt8 × Nat × Int := if (gLen l 1).2.2 ≠ 0 then ([], 0, (gLen l 1).2.2) else ((l.drop (gLen l 1).2.1).take (gLen l 1).1.toNat, (gLen l 1).2.1 + (gLen l 1).1.toNat, 0)
def retS (r : List UInt8 × Nat × Int) : Ending := .returned (.tuple #[.string ⟨r.1.toArray⟩, .int .i64 r.2.1, .int .i64 r.2.2])

set_option maxHeartbeats 400000 in
theorem getBytes_any (l : List UInt8) (A : Option Addr) (c : Nat) (w : World) (hc : l.length ≤ c) (hm : c ≤ maxLen) (hr : Rd w A (bs l)) :
    Calls Tryd.prog 59 #[.slice A l.length c] w fun e w' => e = retS (gB3 l) ∧ w = w' := by
  have hlen : c ≤ 9223372036854775807 := by unfold maxLen at hm; omega
  have HR := Lib.hid hr; clear hr
  have HM := Lib.hid hm; clear hm
  have hg : ∀ h : (gLen l 1).2.2 = 0, 0 ≤ (gLen l 1).1 ∧ (gLen l 1).1 + (gLen l 1).2.1 ≤ l.length ∧ 1 ≤ (gLen l 1).2.1 := fun h => by
    obtain ⟨h1, h2, h3, h4⟩ := gLen_ok h (by omega)
    have h5 := (gI_ok h1).2.1
    have h6 := (gI_ok h1).2.2.1
    rw [h4]
    refine ⟨h2, ?_, h6⟩
    simp only
    omega
  have hG : gB3 l = if (gLen l 1).2.2 ≠ 0 then ([], 0, (gLen l 1).2.2) else ((l.drop (gLen l 1).2.1).take (gLen l 1).1.toNat, (gLen l 1).2.1 + (gLen l 1).1.toNat, 0) := rfl
  generalize gB3 l = G at hG ⊢
  have HG := Lib.hid hG; clear hG
  go_enter Tryd.func59, Tryd.ntmps59
  go_wp2_with fail
  refine (getLength_any l A c 1 w (by omega) (by omega) hc HM.out HR.out).mono ?_
  rintro e w' ⟨rfl, rfl⟩
  unfold ret3
  generalize gLen l 1 = r at hg HG ⊢
  obtain ⟨n, u, er⟩ := r
  by_cases he : er = 0
  · subst he
    obtain ⟨hn, hu, hu1⟩ := hg rfl
    clear hg
    simp only at hn hu hu1
    obtain ⟨k, rfl⟩ := Int.eq_ofNat_of_zero_le hn
    have HF : Hid (G = ((l.drop u).take k, u + k, 0)) := by show _ = _; rw [HG.out, if_neg (by simp)]; rfl
    clear HG
    obtain ⟨b, o, rfl, hcell⟩ := HR.out.open (by intro e; have := congrArg List.length e; rw [bs_length, List.length_nil] at this; omega)
    have hrd : Rd w (some ⟨b, o + u, none⟩) (bs ((l.drop u).take k)) := by
      refine .inr ⟨b, o + u, rfl, fun i v hv => ?_⟩
      rw [Nat.add_assoc]
      refine hcell (u + i) v ?_
      rw [← bs_take, ← bs_drop, List.getElem?_take] at hv
      split at hv
      · rw [List.getElem?_drop] at hv; exact hv
      · cases hv
    have hlk : ((l.drop u).take k).length = k := by simp; omega
    have HX : Hid (G.1 = (l.drop u).take k) := by show _ = _; rw [HF.out]
    by_cases hcu : c = u
    · obtain rfl : c = u := hcu
      have hk0 : k ≤ 0 := by omega
      have hnil : (l.drop c).take k = [] := List.eq_nil_of_length_eq_zero (by omega)
      have hconv : (convert 53 9 (.slice (some ⟨b, o, none⟩) k 0)).run Tryd.prog w = .ok (.string ⟨((l.drop c).take k).toArray⟩) w := by
        have h := conv_rd (P := Tryd.prog) (src := 53) (dst := 9) Tryd.underlying53 Tryd.underlying5 Tryd.underlying9 (w := w) (A := some ⟨b, o, none⟩) (l := (l.drop c).take k) (by rw [hnil]; exact .inl rfl) 0
        rw [hlk] at h
        exact h
      generalize (l.drop c).take k = x at hconv HF
      clear hcell hrd hlk HX hnil
      go_wp2_with fail
      go_ret3
      exact ⟨by rw [HF.out]; rfl, rfl⟩
    · have hconv : (convert 53 9 (.slice (some ⟨b, o + u, none⟩) k (c - u))).run Tryd.prog w = .ok (.string ⟨((l.drop u).take k).toArray⟩) w := by
        have h := conv_rd (P := Tryd.prog) (src := 53) (dst := 9) Tryd.underlying53 Tryd.underlying5 Tryd.underlying9 hrd (c - u)
        rw [hlk] at h
        exact h
      generalize (l.drop u).take k = x at hconv HF
      clear hcell hrd hlk HX
      go_wp2_with fail
      go_ret3
      exact ⟨by rw [HF.out]; rfl, rfl⟩
  · have h0 : ((er : Int) != 0) = true := by rw [bne_iff_ne]; exact he
    have HF : Hid (G = ([], 0, er)) := by show _ = _; rw [HG.out, if_pos he]
    clear hg
    have HE := Lib.hid he; clear he
    go_wp2_with fail
    go_ret3
    exact ⟨by rw [HF.out]; rfl, rfl⟩
end

section
open Go.RowKit
set_option linter.unusedVariables false

def ret2 (r : Nat × Int) : Ending := .returned (.tuple #[.int .i64 r.1, .int .i64 r.2])
/-- n elements are still to come, the first at 'used'. -/
def gLoop (el : List UInt8 → Nat × Int) (l : List UInt8) : Nat → Nat → Nat × Int
  | 0, used => (used, 0)
  | n + 1, used => if (el (l.drop used)).2 ≠ 0 then (0, (el (l.drop used)).2) else gLoop el l n (used + (el (l.drop used)).1)
def gList (el : List UInt8 → Nat × Int) (l : List UInt8) (wd : Int) : Nat × Int :=
  if (gLen l wd).2.2 ≠ 0 then (0, (gLen l wd).2.2) else gLoop el l (gLen l wd).1.toNat (gLen l wd).2.1
/-- what the elements leave, one after the other -/
def sLoop {σ : Type} (step : σ → List UInt8 → σ) (el : List UInt8 → Nat × Int) (l : List UInt8) : Nat → Nat → σ → σ
  | 0, _, s => s
  | n + 1, used, s => sLoop step el l n (used + (el (l.drop used)).1) (step s (l.drop used))
def sList {σ : Type} (step : σ → List UInt8 → σ) (el : List UInt8 → Nat × Int) (l : List UInt8) (wd : Int) (s : σ) : σ := sLoop step el l (gLen l wd).1.toNat (gLen l wd).2.1 s

def LPost {σ : Type} (Inv : Nat → σ → World → Prop) (r : Nat × Int) (fin : σ) (e : Ending) (w : World) : Prop := e = ret2 r ∧ ∃ k s, Inv k s w ∧ (r.2 = 0 → s = fin)

structure Elem {σ : Type} (F B : Nat) (Inv : Nat → σ → World → Prop) (step : σ → List UInt8 → σ) (el : List UInt8 → Nat × Int) (ready : Nat → List UInt8 → Prop) : Prop where
  enter : ∀ (args : Array Value) (W : World), (callFunc F args).run Tryd.prog W = .ok (.enter F args) W
  le : ∀ k r, ready (k + 1) r → (el r).2 = 0 → (el r).1 ≤ r.length
  next : ∀ k r, ready (k + 1) r → (el r).2 = 0 → ready k (r.drop (el r).1)
  call : ∀ (k : Nat) (r : List UInt8) (A : Option Addr) (c : Nat) (s : σ) (W : World), ready (k + 1) r → Inv (k + 1) s W → Rd W A (bs r) → (∀ b o, A = some ⟨b, o, none⟩ → b < B) → r.length ≤ c → c ≤ maxLen →
    Calls Tryd.prog F #[.slice A r.length c, .pointer (some ⟨B, 0, none⟩)] W fun e W' => e = ret2 (el r) ∧ Inv k (step s r) W'

set_option maxHeartbeats 400000 in
theorem getList_any {σ : Type} (F B : Nat) (Inv : Nat → σ → World → Prop) (step : σ → List UInt8 → σ) (el : List UInt8 → Nat × Int) (ready : Nat → List UInt8 → Prop) (hel : Elem F B Inv step el ready)
    (l : List UInt8) (A : Option Addr) (c : Nat) (wd : Int) (w : World) (s0 : σ) (hw1 : 1 ≤ wd) (hw2 : wd ≤ 16) (hc : l.length ≤ c) (hm : c ≤ maxLen) (hrd : ∀ k s W, Inv k s W → Rd W A (bs l)) (h0 : ∀ k, k ≤ l.length → Inv k s0 w) (hAB : l ≠ [] → ∀ b o, A = some ⟨b, o, none⟩ → b < B)
    (hready : ∀ (k u : Nat), (k : Int) * wd ≤ (l.length : Int) - (u : Int) → ready k (l.drop u)) :
    Calls Tryd.prog 57 #[.slice A l.length c, .int .i64 wd, .func (.func F) #[] #[.pointer (some ⟨B, 0, none⟩)]] w (LPost Inv (gList el l wd) (sList step el l wd s0)) := by
  have hlen : c ≤ 9223372036854775807 := by unfold maxLen at hm; omega
  have HM := Lib.hid hm; clear hm
  have HRD := Lib.hid hrd; clear hrd
  have HI := Lib.hid h0; clear h0
  have HY := Lib.hid hready; clear hready
  have hent := hel.enter
  have HE := Lib.hid hel; clear hel
  have hG : ∀ h : (gLen l wd).2.2 = 0, 0 ≤ (gLen l wd).1 ∧ (gLen l wd).1 * wd ≤ (l.length : Int) - (gLen l wd).2.1 ∧ 1 ≤ (gLen l wd).2.1 ∧ (gLen l wd).2.1 ≤ l.length := fun h => by
    obtain ⟨h1, h2, h3, h4⟩ := gLen_ok h hw1
    have h5 := gI_ok h1
    rw [h4]
    exact ⟨h2, h3, h5.2.2.1, h5.2.1⟩
  have hL : gList el l wd = if (gLen l wd).2.2 ≠ 0 then (0, (gLen l wd).2.2) else gLoop el l (gLen l wd).1.toNat (gLen l wd).2.1 := rfl
  have hS : sList step el l wd s0 = sLoop step el l (gLen l wd).1.toNat (gLen l wd).2.1 s0 := rfl
  generalize gList el l wd = R at hL ⊢
  generalize sList step el l wd s0 = fin at hS ⊢
  have HL := Lib.hid hL; clear hL
  have HS := Lib.hid hS; clear hS
  go_enter Tryd.func57, Tryd.ntmps57
  go_wp2_with fail
  refine (getLength_any l A c wd w hw1 hw2 hc HM.out (HRD.out _ _ _ (HI.out 0 (by omega)))).mono ?_
  rintro e w' ⟨rfl, rfl⟩
  unfold ret3
  generalize gLen l wd = r at hG HL HS ⊢
  obtain ⟨n, u, er⟩ := r
  by_cases he : er = 0
  · subst he
    obtain ⟨hn, hnw, hu1, hu⟩ := hG rfl
    clear hG
    simp only at hn hnw hu1 hu
    obtain ⟨N, rfl⟩ := Int.eq_ofNat_of_zero_le hn
    have hNl : N ≤ l.length := by
      have : (N : Int) * 1 ≤ (N : Int) * wd := Int.mul_le_mul_of_nonneg_left hw1 (by omega)
      omega
    have HF : Hid (R = gLoop el l N u ∧ fin = sLoop step el l N u s0) := ⟨by rw [HL.out, if_neg (by simp)]; rfl, by rw [HS.out]; rfl⟩
    have HYN := Lib.hid (HY.out N u hnw)
    obtain ⟨b, o, rfl, _⟩ := (HRD.out _ _ _ (HI.out 0 (by omega))).open (by intro e; have := congrArg List.length e; rw [bs_length, List.length_nil] at this; omega)
    have hbB : b < B := hAB (by intro e; rw [e, List.length_nil] at hu; omega) b o rfl
    clear hnw HL HS hAB
    go_wp2_with fail
    go_loopg [9, 24] N (fun g s9 s24 wr => ∃ (j v : Nat) (s : σ), j + g = N ∧ s24 = .int .i64 j ∧ s9 = .int .i64 v ∧ v ≤ l.length ∧ Hid (Inv g s wr ∧ ready g (l.drop v) ∧ R = gLoop el l g v ∧ fin = sLoop step el l g v s))
    case atStart => exact ⟨0, u, s0, by omega, rfl, rfl, hu, HI.out N hNl, HYN.out, HF.out.1, HF.out.2⟩
    case round =>
      obtain ⟨j, v, s, hj, rfl, rfl, hv, H⟩ := hrel
      cases gk with
      | zero =>
        have hlt : ¬ (j < N) := by omega
        go_wp2_with fail
        go_ret2
        exact ⟨by rw [H.out.2.2.1]; rfl, 0, s, H.out.1, fun _ => H.out.2.2.2.symm⟩
      | succ g =>
        have hlt : j < N := by omega
        have hle : ∀ h : (el (l.drop v)).2 = 0, (el (l.drop v)).1 ≤ l.length - v := fun h => by have := HE.out.le g _ H.out.2.1 h; simpa using this
        have HLE := Lib.hid hle; clear hle
        have hdl : (l.drop v).length = l.length - v := by simp
        have HDL := Lib.hid hdl; clear hdl
        have hcv : v ≤ c := by omega
        obtain ⟨A', hA', hrdA⟩ : ∃ A', (if c = v then some (⟨b, o, none⟩ : Addr) else some ⟨b, o + v, none⟩) = A' ∧ Rd wr A' (bs (l.drop v)) := by
          refine ⟨_, rfl, ?_⟩
          have hrd := HRD.out _ _ _ H.out.1
          rcases hrd with hx | ⟨b', o', hb', hx⟩
          · exact .inl (by rw [← bs_drop, hx]; simp)
          · obtain ⟨rfl, rfl⟩ : b = b' ∧ o = o' := by simpa using hb'
            split
            · rename_i hcv'
              refine .inl ?_
              rw [List.drop_of_length_le (by omega)]; rfl
            · have := Rd.drop b o hx v
              rw [bs_drop] at this
              exact this
        have HA := Lib.hid hrdA; clear hrdA
        by_cases hcu : c = v
        · rw [if_pos hcu] at hA'
          subst hA'
          have HCU := Lib.hid hcu
          obtain rfl : c = v := hcu
          have hcall := HE.out.call g (l.drop c) (some ⟨b, o, none⟩) 0 s wr H.out.2.1 H.out.1 HA.out (by rintro b' o' h; injection h with h; injection h with h; omega) (by rw [HDL.out]; omega) (Nat.zero_le _)
          rw [HDL.out, show l.length - c = 0 from by omega] at hcall
          have HCALL := Lib.hid hcall; clear hcall
          go_wp2_with fail
          refine HCALL.out.mono ?_
          rintro e W' ⟨rfl, hI⟩
          unfold ret2
          have HI2 := Lib.hid hI; clear hI
          generalize hx : el (l.drop c) = x at HLE
          obtain ⟨sz, ee⟩ := x
          have HX := Lib.hid hx; clear hx
          by_cases hee : ee = 0
          · subst hee
            have hsz := HLE.out rfl
            simp only at hsz
            go_wp2_with fail
            go_roundg g
            case measure => omega
            case rel => exact ⟨j + 1, c + sz, step s (l.drop c), by omega, by go_num, by go_num, by omega, HI2.out, by have := HE.out.next g _ H.out.2.1 (by rw [HX.out]); rw [HX.out, List.drop_drop] at this; exact this, by rw [H.out.2.2.1, gLoop, HX.out, if_neg (by simp)], by rw [H.out.2.2.2, sLoop, HX.out]⟩
          · have h0 : ((ee : Int) != 0) = true := by rw [bne_iff_ne]; exact hee
            have HEE := Lib.hid hee; clear hee
            have HF2 : Hid (R = (0, ee)) := by show _ = _; rw [H.out.2.2.1, gLoop, HX.out, if_pos HEE.out]
            go_wp2_with fail
            go_ret2
            exact ⟨by rw [HF2.out]; rfl, _, _, HI2.out, fun h => absurd (by rw [HF2.out] at h; exact h) HEE.out⟩
        · rw [if_neg hcu] at hA'
          subst hA'
          have hcall := HE.out.call g (l.drop v) (some ⟨b, o + v, none⟩) (c - v) s wr H.out.2.1 H.out.1 HA.out (by rintro b' o' h; injection h with h; injection h with h; omega) (by rw [HDL.out]; omega) (by have := HM.out; omega)
          rw [HDL.out] at hcall
          have HCALL := Lib.hid hcall; clear hcall
          go_wp2_with fail
          refine HCALL.out.mono ?_
          rintro e W' ⟨rfl, hI⟩
          unfold ret2
          have HI2 := Lib.hid hI; clear hI
          generalize hx : el (l.drop v) = x at HLE
          obtain ⟨sz, ee⟩ := x
          have HX := Lib.hid hx; clear hx
          by_cases hee : ee = 0
          · subst hee
            have hsz := HLE.out rfl
            simp only at hsz
            go_wp2_with fail
            go_roundg g
            case measure => omega
            case rel => exact ⟨j + 1, v + sz, step s (l.drop v), by omega, by go_num, by go_num, by omega, HI2.out, by have := HE.out.next g _ H.out.2.1 (by rw [HX.out]); rw [HX.out, List.drop_drop] at this; exact this, by rw [H.out.2.2.1, gLoop, HX.out, if_neg (by simp)], by rw [H.out.2.2.2, sLoop, HX.out]⟩
          · have h0 : ((ee : Int) != 0) = true := by rw [bne_iff_ne]; exact hee
            have HEE := Lib.hid hee; clear hee
            have HF2 : Hid (R = (0, ee)) := by show _ = _; rw [H.out.2.2.1, gLoop, HX.out, if_pos HEE.out]
            go_wp2_with fail
            go_ret2
            exact ⟨by rw [HF2.out]; rfl, _, _, HI2.out, fun h => absurd (by rw [HF2.out] at h; exact h) HEE.out⟩
  · have h0 : ((er : Int) != 0) = true := by rw [bne_iff_ne]; exact he
    have HF : Hid (R = (0, er)) := by show _ = _; rw [HL.out, if_pos he]
    clear hG
    have HE := Lib.hid he; clear he
    go_wp2_with fail
    go_ret2
    exact ⟨by rw [HF.out]; rfl, 0, s0, HI.out 0 (by omega), fun h => absurd (by rw [HF.out] at h; exact h) HE.out⟩
end

section
open Go.RowKit
set_option linter.unusedVariables false

theorem Tryd.info3 : (Tryd.prog.info? 3).map (fun i => (i.zero, i.size, i.bytes)) = some (some (.int .i64 0), 1, 8) := by kernel_rfl
theorem Tryd.info9 : (Tryd.prog.info? 9).map (fun i => (i.zero, i.size, i.bytes)) = some (some (.string ByteArray.empty), 1, 16) := by kernel_rfl

/-- What the captured variable holds: a row of the call's own, of k elements at most more than it has. -/
def Box (w0 : World) (B top : Nat) (t e : TypeId) (size : Nat) (k : Nat) (s : List (List Value)) (W : World) : Prop :=
  ∃ v, W.heap[B]? = some (.cells #[v] t (0, 0)) ∧ W.ownsRow (B + 1) e size v s.length s.flatten ∧ Below B w0 W ∧ s.length + k ≤ top
theorem Box.start {w0 : World} {B top : Nat} {t e : TypeId} {size k : Nat} (hB : B = w0.heap.size) (hk : k ≤ top) : Box w0 B top t e size k [] (w0.alloc (.cells #[.slice none 0 0] t)) := by
  subst hB
  exact ⟨_, heap_alloc_new _ _, World.ownsRow_nil _ _ _ _, (Below.refl _ _).alloc (Nat.le_refl _) _, by simpa using hk⟩
theorem Box.rd {w0 : World} {B top : Nat} {t e : TypeId} {size k : Nat} {s : List (List Value)} {W : World} (h : Box w0 B top t e size k s W) (hB : B = w0.heap.size) {A : Option Addr} {xs : List Value} (hr : Rd w0 A xs) : Rd W A xs := by
  subst hB
  obtain ⟨v, _, _, hb, _⟩ := h
  exact hr.below hb

def elI (r : List UInt8) : Nat × Int := ((gI r).2.1, (gI r).2.2)
def stI (s : List (List Value)) (r : List UInt8) : List (List Value) := s ++ [[.int .i64 (gI r).1]]

def elS (r : List UInt8) : Nat × Int := ((gB3 r).2.1, (gB3 r).2.2)
def stS (s : List (List Value)) (r : List UInt8) : List (List Value) := s ++ [[.string ⟨(gB3 r).1.toArray⟩]]

set_option maxHeartbeats 400000 in
theorem elS_call (w0 : World) (B top : Nat) (ht : top ≤ 1099511627776) (k : Nat) (r : List UInt8) (A : Option Addr) (c : Nat) (s : List (List Value)) (W : World) (hI : Box w0 B top 52 9 1 (k + 1) s W) (hr : Rd W A (bs r)) (_hAB : ∀ b o, A = some ⟨b, o, none⟩ → b < B) (hc : r.length ≤ c) (hm : c ≤ maxLen) :
    Calls Tryd.prog 58 #[.slice A r.length c, .pointer (some ⟨B, 0, none⟩)] W fun e W' => e = ret2 (elS r) ∧ Box w0 B top 52 9 1 k (stS s r) W' := by
  obtain ⟨i0, hi0, hz0, hz1, hz2⟩ := info_parts Tryd.info9
  obtain ⟨v, hB, hown, hb, hl⟩ := hI
  have hcell : W.cell? ⟨B, 0, none⟩ = some v := by rw [cell_of_row W B 0 _ _ _ hB]; rfl
  have hBlt : B < W.heap.size := (Array.getElem?_eq_some_iff.1 hB).1
  have HR := Lib.hid hr; clear hr
  have HM := Lib.hid hm; clear hm
  have HC := Lib.hid hc; clear hc
  have HO := Lib.hid hown; clear hown
  have HB := Lib.hid hB; clear hB
  have hR : elS r = ((gB3 r).2.1, (gB3 r).2.2) := rfl
  have hS : stS s r = s ++ [[.string ⟨(gB3 r).1.toArray⟩]] := rfl
  generalize elS r = R at hR ⊢
  generalize stS s r = S' at hS ⊢
  have HRR := Lib.hid hR; clear hR
  have HSS := Lib.hid hS; clear hS
  go_enter Tryd.func58, Tryd.ntmps58
  go_wp2_with fail
  refine (getBytes_any r A c W HC.out HM.out HR.out).mono ?_
  rintro e w' ⟨rfl, rfl⟩
  unfold retS
  generalize gB3 r = x at HRR HSS ⊢
  obtain ⟨n, u, er⟩ := x
  go_wp2_with (at_builtin; refine wpList_own_src rfl (.tmp 14) (.tmp 16) 52 52 rfl (B + 1) 9 i0 _ 1 16 Tryd.underlying52 hi0 hz0 hz1 hz2 rfl _ _ _ rfl (HO.out.alloc _) _ 1 [.string ⟨n.toArray⟩] rfl (src_one Tryd.underlying52 hz1 _ _ _ rfl) ?c1 ?c2 ?c3 ?_)
  case c1 => unfold maxLen; omega
  case c2 => omega
  case c3 => simp; omega
  intro v1 w1 hown1 hg1 hb1
  have hne : ∀ g, v.ownBlock = some g → B + 1 ≤ g := fun g hg => (HO.out.lt g hg).1
  have hB1 : w1.heap[B]? = some (.cells #[v] 52 (0, 0)) := (hg1.block B (by simp; omega) (fun e => by have := hne B e.symm; omega)).trans ((Below.heap_alloc W _ B hBlt).trans HB.out)
  have hc1 : w1.cell? ⟨B, 0, none⟩ = some v := by rw [cell_of_row w1 B 0 _ _ _ hB1]; rfl
  have hf1 : w1.frozen? ⟨B, 0, none⟩ = false := by simp [World.frozen?, hB1]
  have hbw1 : Below B w0 w1 := (hb.alloc (by omega) _).grown hg1 (by simp; omega) (fun g hg => by have := hne g hg; omega)
  obtain ⟨A1, c1, rfl, hrd1, hcc1, hmm1⟩ := Rd.of_own hown1
  have HO1 := Lib.hid hown1; clear hown1 hrd1
  have HB1 := Lib.hid hB1; clear hB1
  clear hb1 hg1 hne
  go_wp2_with fail
  go_ret2
  refine ⟨by rw [HRR.out]; rfl, .slice A1 (s.length + 1) c1, ?_, ?_, hbw1.setCell (Nat.le_refl _) _, by rw [HSS.out]; simp; omega⟩
  · rw [heap_setCell_same w1 B 0 _ _ _ HB1.out]; rfl
  · have := ownsRow_setCell_below HO1.out (a := ⟨B, 0, none⟩) (by simp) (.slice A1 (s.length + 1) c1)
    rw [HSS.out]
    simpa using this

theorem elS_enter (args : Array Value) (W : World) : (callFunc 58 args).run Tryd.prog W = .ok (.enter 58 args) W := by
  kernel_rfl
end

section
open Go.RowKit
set_option linter.unusedVariables false

theorem Tryd.infoD3 : (Tryd.prog.info? 58).map (fun i => (i.zero, i.size, i.bytes)) = some (some (.agg (Array.replicate 16 (.int .u8 0))), 16, 16) := by kernel_rfl

theorem step_own_src {P : Program} {w : World} {ops : Array Oper} {o : Oper} {a : Act} {K : Act → World → Prop} {Q : Exit → Act → World → Prop} {E : Prop} (hgd : o.guard = none) (s x : Operand) (t tx : TypeId)
    (ho : o.op = .call { callee := .builtin .append, args := #[s, x], argTypes := #[t, tx] })
    (base : Nat) (e : TypeId) (i : TypeInfo) (z : Value) (size bytes : Nat) (ht : P.underlying t = some (.slice e)) (hi : P.info? e = some i) (hz : i.zero = some z)
    (hsize : i.size = size) (hby : i.bytes = bytes) (hzs : z.cells.size = size) (v : Value) (n : Nat) (xs : List Value) (hs : a.eval s = v) (hown : w.ownsRow base e size v n xs)
    (y : Value) (m : Nat) (news : List Value) (hx : a.eval x = y) (hsrc : Src P i.size tx y m news w) (h63 : n + m ≤ maxLen) (hbytes : (n + m) * bytes ≤ 140737488355328) (hbase : base ≤ w.heap.size)
    (h : ∀ v' w', w'.ownsRow base e size v' (n + m) (xs ++ news) → w.grownBy w' v.ownBlock → (v'.ownBlock = v.ownBlock ∨ v'.ownBlock = some w.heap.size) → K (a.put o.dst v') w') :
    if Region.wanted o (yielded ops a.tmps) = true then Oper.wp P o a w K Q else E := by
  rw [if_pos (by simp [Region.wanted, hgd])]
  exact wp_own_src s x t tx ho base e i z size bytes ht hi hz hsize hby hzs v n xs hs hown y m news hx hsrc h63 hbytes hbase h

theorem fold_set (X : List Value) : ∀ (k : Nat) (a : Array Value), a.size = k + X.length → (X.zipIdx k).foldl (fun cs x => cs.setIfInBounds x.snd x.fst) a = (a.toList.take k ++ X).toArray := by
  induction X with
  | nil => intro k a h; simp at h; subst h; rw [List.zipIdx_nil, List.foldl_nil, List.append_nil, List.take_of_length_le (by simp)]
  | cons x X ih =>
    intro k a h
    simp only [List.length_cons] at h
    rw [List.zipIdx_cons, List.foldl_cons, ih (k + 1) _ (by simp; omega)]
    congr 1
    have hk : k < a.toList.length := by simp; omega
    rw [Array.toList_setIfInBounds, List.take_succ_eq_append_getElem (by simpa using hk)]
    rw [List.take_set, List.set_eq_of_length_le (by simp; omega)]
    simp
theorem list16 (X : List Value) (h : X.length = 16) : ∃ x0 x1 x2 x3 x4 x5 x6 x7 x8 x9 x10 x11 x12 x13 x14 x15, X = [x0, x1, x2, x3, x4, x5, x6, x7, x8, x9, x10, x11, x12, x13, x14, x15] := by
  match X, h with
  | [x0, x1, x2, x3, x4, x5, x6, x7, x8, x9, x10, x11, x12, x13, x14, x15], _ => exact ⟨_, _, _, _, _, _, _, _, _, _, _, _, _, _, _, _, rfl⟩
def elD (r : List UInt8) : Nat × Int := (16, 0)
def stD (s : List (List Value)) (r : List UInt8) : List (List Value) := s ++ [bs (r.take 16)]

end

section
open Go.RowKit
set_option linter.unusedVariables false

/-- What a decoder of lists leaves: the list in new memory, or nil. -/
def PostL (w : World) (t : TypeId) (size : Nat) (res : Nat × Int) (cells : List (List Value)) (e : Ending) (w' : World) : Prop :=
  ∃ v, e = .returned (.tuple #[v, .int .i64 res.1, .int .i64 res.2]) ∧ Below w.heap.size w w' ∧ (res.2 ≠ 0 → v = .slice none 0 0) ∧ (res.2 = 0 → w'.ownsRow (w.heap.size + 1) t size v cells.length cells.flatten)

theorem gLoop_err (el : List UInt8 → Nat × Int) (l : List UInt8) : ∀ n u, (gLoop el l n u).2 ≠ 0 → (gLoop el l n u).1 = 0 := by
  intro n
  induction n with
  | zero => intro u h; simp [gLoop] at h
  | succ n ih =>
    intro u h
    rw [gLoop] at h ⊢
    by_cases he : (el (l.drop u)).2 ≠ 0
    · rw [if_pos he]
    · rw [if_neg he] at h ⊢
      exact ih _ h
theorem gList_err (el : List UInt8 → Nat × Int) (l : List UInt8) (wd : Int) : (gList el l wd).2 ≠ 0 → (gList el l wd).1 = 0 := by
  intro h
  unfold gList at h ⊢
  by_cases he : (gLen l wd).2.2 ≠ 0
  · rw [if_pos he]
  · rw [if_neg he] at h ⊢
    exact gLoop_err el l _ _ h
theorem gB3_ok {l : List UInt8} (h : (gB3 l).2.2 = 0) : (gB3 l).2.1 ≤ l.length ∧ 1 ≤ (gB3 l).2.1 := by
  unfold gB3 at h ⊢
  by_cases he : (gLen l 1).2.2 ≠ 0
  · rw [if_pos he] at h; exact absurd h he
  · rw [if_neg he]
    obtain ⟨h1, h2, h3, h4⟩ := gLen_ok (by simpa using he) (by omega)
    have h5 := gI_ok h1
    rw [h4]
    simp only
    omega

theorem elS_elem (w0 : World) (top : Nat) (ht : top ≤ 1099511627776) : Elem 58 w0.heap.size (Box w0 w0.heap.size top 52 9 1) stS elS (fun _ _ => True) where
  enter := elS_enter
  le := fun _ r _ h => (gB3_ok h).1
  next := fun _ _ _ _ => trivial
  call := fun k r A c s W _ hI hr hAB hc hm => elS_call w0 _ top ht k r A c s W hI hr hAB hc hm

set_option maxHeartbeats 400000 in
theorem getS_any (l : List UInt8) (A : Option Addr) (c : Nat) (w : World) (hl : l.length ≤ 1099511627776) (hc : l.length ≤ c) (hm : c ≤ maxLen) (hr : Rd w A (bs l)) :
    Calls Tryd.prog 34 #[.slice A l.length c] w (PostL w 9 1 (gList elS l 1) (sList stS elS l 1 [])) := by
  have hmf : ∀ (fn : Fn) (first cap : Array Value) (w : World), (Instr.makeFunc fn first cap).run Tryd.prog w = .ok (.func fn first cap) w := fun _ _ _ _ => rfl
  have hAB : l ≠ [] → ∀ b o, A = some ⟨b, o, none⟩ → b < w.heap.size := fun hne b o hA => by
    obtain ⟨b', o', hA', hcell⟩ := hr.open (by intro e; exact hne (by simpa [bs] using e))
    obtain ⟨rfl, rfl⟩ : b = b' ∧ o = o' := by rw [hA] at hA'; simpa using hA'
    obtain ⟨x, r, rfl⟩ : ∃ x r, l = x :: r := by cases l with
      | nil => exact absurd rfl hne
      | cons x r => exact ⟨x, r, rfl⟩
    exact World.block_lt_of_cell? w _ (hcell 0 _ rfl)
  have hR := Lib.hid hr; clear hr
  have hAB' := Lib.hid hAB; clear hAB
  generalize hgr : gList elS l 1 = R
  generalize hgs : sList stS elS l 1 [] = S
  have HGR := Lib.hid hgr; clear hgr
  have HGS := Lib.hid hgs; clear hgs
  go_enter Tryd.func34, Tryd.ntmps34
  go_wp2_with fail
  have hcall := getList_any 58 w.heap.size (Box w w.heap.size l.length 52 9 1) stS elS (fun _ _ => True) (elS_elem w l.length hl) l A c 1 (w.alloc (.cells #[.slice none 0 0] 52)) [] (by omega) (by omega) hc hm
    (fun k s W h => h.rd rfl hR.out) (fun k hk => Box.start rfl hk) hAB'.out (fun _ _ _ => trivial)
  rw [HGR.out, HGS.out] at hcall
  refine hcall.mono ?_
  rintro e w1 ⟨rfl, k, s, ⟨v, hB, hown, hb, hlk⟩, hfin⟩
  unfold ret2
  obtain ⟨u, er⟩ := R
  have hcell : w1.cell? ⟨w.heap.size, 0, none⟩ = some v := by rw [cell_of_row w1 _ 0 _ _ _ hB]; rfl
  have HO := Lib.hid hown; clear hown
  have HF := Lib.hid hfin; clear hfin
  clear hcall hB
  by_cases he : er = 0
  · subst he
    have hs : s = S := HF.out rfl
    subst hs
    go_wp2_with fail
    go_ret3
    exact ⟨v, rfl, hb, fun h => absurd rfl h, fun _ => HO.out⟩
  · have h0 : ((er : Int) != 0) = true := by rw [bne_iff_ne]; exact he
    have HE := Lib.hid he; clear he
    have hu : u = 0 := by
      have := gList_err elS l 1
      rw [HGR.out] at this
      exact this HE.out
    subst hu
    go_wp2_with fail
    go_ret3
    exact ⟨_, rfl, hb, fun _ => rfl, fun h => absurd h HE.out⟩

end

section
open Go.RowKit
set_option linter.unusedVariables false

/-! ## integers -/
theorem gI_cut (n : Int) (i : Nat) (hi : i < (en n).length) : (gI ((en n).take i)).2.2 = 3 := by
  have key : ∀ (neg : Bool) (m : Nat), i < (enS neg m).length → (gI ((enS neg m).take i)).2.2 = 3 := by
    intro neg m hi
    cases i with
    | zero => rfl
    | succ i =>
      have hl := be_len 8 m
      rw [enS_length] at hi
      have h1 : (flip neg (UInt8.ofNat (128 + (be 8 m).length))).toNat = if neg then 127 - (be 8 m).length else 128 + (be 8 m).length := by
        rw [flip_toNat]
        have : (UInt8.ofNat (128 + (be 8 m).length)).toNat = 128 + (be 8 m).length := by simp; omega
        rw [this]
        cases neg <;> simp; omega
      unfold enS
      rw [List.take_succ_cons, gI_cons, h1]
      have hs : ∀ k, k = (be 8 m).length → (gB neg k (((be 8 m).map (flip neg)).take i)).2.2 = 3 := by
        intro k hk
        unfold gB
        rw [if_neg (by omega), if_pos (by simp; omega)]
      cases neg
      · rw [if_neg (by simp)]; exact hs _ (by simp)
      · rw [if_pos (by simp; omega)]; exact hs _ (by simp; omega)
  unfold en at hi ⊢
  split
  · rename_i h; rw [if_pos h] at hi; exact key _ _ hi
  · rename_i h; rw [if_neg h] at hi; exact key _ _ hi

/-! ## lengths -/
theorem gLen_en (n : Nat) (hn : n ≤ 9223372036854775807) (wd : Int) (t : List UInt8) (hw : 1 ≤ wd) (ht : (n : Int) * wd ≤ t.length) : gLen (en n ++ t) wd = ((n : Int), (en n).length, 0) := by
  unfold gLen
  rw [gI_en n (inI_nat n hn)]
  simp only
  rw [if_neg (by simp), if_neg (by omega), if_neg]
  rw [List.length_append]
  have : (n : Int) ≤ (((en n).length + t.length : Nat) - ((en n).length : Int)) / wd := by
    rw [Int.le_ediv_iff_mul_le (by omega)]
    omega
  omega
theorem gLen_short (n : Nat) (hn : n ≤ 9223372036854775807) (wd : Int) (t : List UInt8) (hw : 1 ≤ wd) (ht : (t.length : Int) < (n : Int) * wd) : (gLen (en n ++ t) wd).2.2 = 3 := by
  unfold gLen
  rw [gI_en n (inI_nat n hn)]
  simp only
  rw [if_neg (by simp), if_neg (by omega), if_pos]
  rw [List.length_append]
  have : (((en n).length + t.length : Nat) - ((en n).length : Int)) / wd < (n : Int) := by
    rw [Int.ediv_lt_iff_lt_mul (by omega)]
    omega
  exact this
theorem gLen_cut (n : Nat) (wd : Int) (i : Nat) (hi : i < (en n).length) : (gLen ((en n).take i) wd).2.2 = 3 := by
  have h := gI_cut n i hi
  unfold gLen
  rw [if_pos (by rw [h]; omega)]
  exact h

/-! ## byte strings -/
theorem gB3_en (s t : List UInt8) (hs : s.length ≤ 9223372036854775807) : gB3 (eB s ++ t) = (s, (eB s).length, 0) := by
  unfold gB3 eB
  rw [List.append_assoc, gLen_en s.length hs 1 (s ++ t) (by omega) (by simp; omega)]
  simp only
  rw [if_neg (by simp), List.drop_left]
  simp
theorem gB3_inv {l : List UInt8} (h : (gB3 l).2.2 = 0) : (gB3 l).2.1 ≤ l.length ∧ 1 ≤ (gB3 l).2.1 ∧ l.take (gB3 l).2.1 = eB (gB3 l).1 ∧ (gB3 l).1.length ≤ 9223372036854775807 := by
  have h0 := gB3_ok h
  refine ⟨h0.1, h0.2, ?_⟩
  unfold gB3 at h h0 ⊢
  by_cases he : (gLen l 1).2.2 ≠ 0
  · rw [if_pos he] at h; exact absurd h he
  · rw [if_neg he] at h0 ⊢
    obtain ⟨h1, h2, h3, h4⟩ := gLen_ok (by simpa using he) (by omega)
    obtain ⟨g1, g2, g3, g4, g5⟩ := gI_ok h1
    rw [h4] at h0 ⊢
    simp only at h0 ⊢
    generalize gI l = r at *
    obtain ⟨n, u, e⟩ := r
    simp only at *
    obtain ⟨k, rfl⟩ := Int.eq_ofNat_of_zero_le h2
    have hlen : ((l.drop u).take k).length = k := by simp; omega
    simp only [Int.toNat_natCast] at *
    unfold eB
    unfold inI at g1
    rw [hlen]
    exact ⟨by rw [← g5, List.take_add], by omega⟩
theorem gB3_cut (s : List UInt8) (hs : s.length ≤ 9223372036854775807) (i : Nat) (hi : i < (eB s).length) : (gB3 ((eB s).take i)).2.2 = 3 := by
  have key : (gLen ((eB s).take i) 1).2.2 = 3 := by
    unfold eB at hi ⊢
    by_cases h : i < (en s.length).length
    · rw [List.take_append_of_le_length (by omega)]
      exact gLen_cut _ _ _ h
    · rw [List.take_append, List.take_of_length_le (by omega)]
      rw [List.length_append] at hi
      exact gLen_short _ hs 1 _ (by omega) (by simp; omega)
  unfold gB3
  rw [if_pos (by rw [key]; omega)]
  exact key

/-! ## lists, over whatever elements -/
structure Codec {α : Type} (wd : Nat) (enc : α → List UInt8) (vals : α → List Value) (valid : α → Prop) (el : List UInt8 → Nat × Int) (step : List (List Value) → List UInt8 → List (List Value)) : Prop where
  wide : ∀ a, valid a → wd ≤ (enc a).length
  read : ∀ a t, valid a → el (enc a ++ t) = ((enc a).length, 0)
  left : ∀ a t s, valid a → step s (enc a ++ t) = s ++ [vals a]
  inv : ∀ r, wd ≤ r.length ∨ wd = 1 → (el r).2 = 0 → ∃ a, valid a ∧ (el r).1 ≤ r.length ∧ r.take (el r).1 = enc a ∧ ∀ s, step s r = s ++ [vals a]

section
variable {α : Type} {wd : Nat} {enc : α → List UInt8} {vals : α → List Value} {valid : α → Prop} {el : List UInt8 → Nat × Int} {step : List (List Value) → List UInt8 → List (List Value)}

def eLs (enc : α → List UInt8) (xs : List α) : List UInt8 := en xs.length ++ xs.flatMap enc

theorem flatMap_wide (C : Codec wd enc vals valid el step) (xs : List α) (h : ∀ a ∈ xs, valid a) : xs.length * wd ≤ (xs.flatMap enc).length := by
  induction xs with
  | nil => simp
  | cons a r ih =>
    have h1 := C.wide a (h a (by simp))
    have h2 := ih (fun b hb => h b (by simp [hb]))
    rw [List.length_cons, List.flatMap_cons, List.length_append, Nat.add_mul]
    omega
theorem gLoop_en (C : Codec wd enc vals valid el step) (xs : List α) (h : ∀ a ∈ xs, valid a) : ∀ (p t : List UInt8) (s : List (List Value)),
    gLoop el (p ++ (xs.flatMap enc ++ t)) xs.length p.length = (p.length + (xs.flatMap enc).length, 0) ∧ sLoop step el (p ++ (xs.flatMap enc ++ t)) xs.length p.length s = s ++ xs.map vals := by
  induction xs with
  | nil => intro p t s; simp [gLoop, sLoop]
  | cons a r ih =>
    intro p t s
    have ha := h a (by simp)
    have hd : (p ++ ((a :: r).flatMap enc ++ t)).drop p.length = enc a ++ (r.flatMap enc ++ t) := by rw [List.drop_left, List.flatMap_cons, List.append_assoc]
    have hp : p ++ ((a :: r).flatMap enc ++ t) = (p ++ enc a) ++ (r.flatMap enc ++ t) := by rw [List.flatMap_cons]; simp
    have h2 := ih (fun b hb => h b (by simp [hb])) (p ++ enc a) t (s ++ [vals a])
    rw [List.length_cons, gLoop, sLoop, hd, C.read a _ ha, C.left a _ s ha]
    simp only
    rw [if_neg (by simp), hp, ← List.length_append, h2.1, h2.2]
    simp [List.flatMap_cons, Nat.add_assoc]
theorem gList_en (C : Codec wd enc vals valid el step) (hw : 1 ≤ wd) (xs : List α) (h : ∀ a ∈ xs, valid a) (hn : xs.length ≤ 9223372036854775807) (t : List UInt8) :
    gList el (eLs enc xs ++ t) wd = ((eLs enc xs).length, 0) ∧ sList step el (eLs enc xs ++ t) wd [] = xs.map vals := by
  have hL : gLen (eLs enc xs ++ t) wd = ((xs.length : Int), (en xs.length).length, 0) := by
    unfold eLs
    rw [List.append_assoc]
    refine gLen_en xs.length hn wd _ (by omega) ?_
    have := flatMap_wide C xs h
    rw [List.length_append]
    have h2 : ((xs.length * wd : Nat) : Int) ≤ ((xs.flatMap enc).length + t.length : Nat) := by omega
    simpa using h2
  have hG := gLoop_en C xs h (en xs.length) t []
  unfold gList sList
  rw [hL]
  simp only
  rw [if_neg (by simp), Int.toNat_natCast]
  unfold eLs
  rw [List.append_assoc, hG.1, hG.2]
  simp

theorem gLoop_inv (C : Codec wd enc vals valid el step) (l : List UInt8) : ∀ (n u : Nat) (s : List (List Value)), u ≤ l.length → (n * wd ≤ l.length - u ∨ wd = 1) → (gLoop el l n u).2 = 0 → (wd ≠ 1 → ∀ a, valid a → (enc a).length = wd) →
    ∃ xs : List α, xs.length = n ∧ (∀ a ∈ xs, valid a) ∧ (gLoop el l n u).1 ≤ l.length ∧ l.take (gLoop el l n u).1 = l.take u ++ xs.flatMap enc ∧ sLoop step el l n u s = s ++ xs.map vals := by
  intro n
  induction n with
  | zero => intro u s hu _ _ _; exact ⟨[], rfl, by simp, by simpa [gLoop] using hu, by simp [gLoop], by simp [sLoop]⟩
  | succ n ih =>
    intro u s hu hr h hfix
    rw [gLoop] at h ⊢
    rw [sLoop]
    by_cases he : (el (l.drop u)).2 ≠ 0
    · rw [if_pos he] at h; exact absurd h he
    · rw [if_neg he] at h ⊢
      have he0 : (el (l.drop u)).2 = 0 := by simpa using he
      obtain ⟨a, ha, hle, htake, hstep⟩ := C.inv (l.drop u) (by rcases hr with hr | hr
                                                                · left; rw [List.length_drop, Nat.add_mul] at *; omega
                                                                · exact .inr hr) he0
      rw [List.length_drop] at hle
      have hlen : (enc a).length = (el (l.drop u)).1 := by rw [← htake]; simp; omega
      obtain ⟨xs, h1, h2, h3, h4, h5⟩ := ih (u + (el (l.drop u)).1) (step s (l.drop u)) (by omega) (by
        rcases hr with hr | hr
        · by_cases hw1 : wd = 1
          · exact .inr hw1
          · left
            have := hfix hw1 a ha
            rw [Nat.add_mul] at hr
            omega
        · exact .inr hr) h hfix
      refine ⟨a :: xs, by simp [h1], by simpa [ha] using h2, h3, ?_, ?_⟩
      · rw [h4, List.take_add, htake, List.flatMap_cons, List.append_assoc]
      · rw [h5, hstep]; simp
theorem gList_inv (C : Codec wd enc vals valid el step) (hw : 1 ≤ wd) (hfix : wd ≠ 1 → ∀ a, valid a → (enc a).length = wd) (l : List UInt8) (h : (gList el l wd).2 = 0) :
    ∃ xs : List α, (∀ a ∈ xs, valid a) ∧ (gList el l wd).1 ≤ l.length ∧ l.take (gList el l wd).1 = eLs enc xs ∧ sList step el l wd [] = xs.map vals ∧ xs.length ≤ l.length := by
  unfold gList at h ⊢
  unfold sList
  by_cases he : (gLen l wd).2.2 ≠ 0
  · rw [if_pos he] at h; exact absurd h he
  · rw [if_neg he] at h ⊢
    obtain ⟨h1, h2, h3, h4⟩ := gLen_ok (by simpa using he) (by omega)
    obtain ⟨g1, g2, g3, g4, g5⟩ := gI_ok h1
    rw [h4] at h ⊢
    simp only at h ⊢
    obtain ⟨k, hk⟩ := Int.eq_ofNat_of_zero_le h2
    have hk' : (gI l).1.toNat = k := by rw [hk]; rfl
    rw [hk'] at h ⊢
    have hkw : k * wd ≤ l.length - (gI l).2.1 := by
      rw [hk] at h3
      have : ((k * wd : Nat) : Int) ≤ (l.length : Int) - ((gI l).2.1 : Int) := by simpa using h3
      omega
    obtain ⟨xs, a1, a2, a3, a4, a5⟩ := gLoop_inv C l k (gI l).2.1 [] g2 (.inl hkw) h hfix
    have hkl : k ≤ l.length := by
      have : k * 1 ≤ k * wd := Nat.mul_le_mul_left k hw
      omega
    exact ⟨xs, a2, a3, by rw [a4, g5, hk, eLs, a1], by simpa using a5, by omega⟩

theorem gLoop_cut (C : Codec wd enc vals valid el step) (hcut : ∀ a i, valid a → i < (enc a).length → (el ((enc a).take i)).2 = 3) (xs : List α) (h : ∀ a ∈ xs, valid a) : ∀ (p : List UInt8) (i : Nat), i < (xs.flatMap enc).length →
    (gLoop el (p ++ (xs.flatMap enc).take i) xs.length p.length).2 = 3 := by
  induction xs with
  | nil => intro p i hi; simp at hi
  | cons a r ih =>
    intro p i hi
    have ha := h a (by simp)
    rw [List.length_cons, gLoop, List.drop_left]
    rw [List.flatMap_cons] at hi ⊢
    by_cases hia : i < (enc a).length
    · rw [List.take_append_of_le_length (by omega)]
      have h3 := hcut a i ha hia
      rw [if_pos (by rw [h3]; omega)]
      exact h3
    · rw [List.take_append, List.take_of_length_le (by omega), C.read a _ ha]
      simp only
      rw [if_neg (by simp), ← List.append_assoc, ← List.length_append]
      rw [List.length_append] at hi
      exact ih (fun b hb => h b (by simp [hb])) _ _ (by omega)
theorem gList_cut (C : Codec wd enc vals valid el step) (hw : 1 ≤ wd) (hcut : (∀ a i, valid a → i < (enc a).length → (el ((enc a).take i)).2 = 3) ∨ (∀ a, valid a → (enc a).length = wd)) (xs : List α) (h : ∀ a ∈ xs, valid a) (hn : xs.length ≤ 9223372036854775807) (i : Nat) (hi : i < (eLs enc xs).length) :
    (gList el ((eLs enc xs).take i) wd).2 = 3 := by
  unfold eLs at hi ⊢
  by_cases hin : i < (en xs.length).length
  · rw [List.take_append_of_le_length (by omega)]
    have h3 := gLen_cut xs.length wd i hin
    unfold gList
    rw [if_pos (by rw [h3]; omega)]
    exact h3
  · rw [List.take_append, List.take_of_length_le (by omega)]
    rw [List.length_append] at hi
    by_cases hs : (((xs.flatMap enc).take (i - (en xs.length).length)).length : Int) < (xs.length : Int) * wd
    · have h3 := gLen_short xs.length hn wd _ (by omega) hs
      unfold gList
      rw [if_pos (by rw [h3]; omega)]
      exact h3
    · rcases hcut with hcut | hfix
      · unfold gList
        rw [gLen_en xs.length hn wd _ (by omega) (by omega)]
        simp only
        rw [if_neg (by simp), Int.toNat_natCast]
        exact gLoop_cut C hcut xs h _ _ (by omega)
      · exfalso
        have hall : (xs.flatMap enc).length = xs.length * wd := by
          clear hs hn hi hin
          induction xs with
          | nil => simp
          | cons a r ih =>
            have h1 := hfix a (h a (by simp))
            have h2 := ih (fun b hb => h b (by simp [hb]))
            rw [List.length_cons, List.flatMap_cons, List.length_append, Nat.add_mul]
            omega
        rw [List.length_take] at hs
        have h4 : ((xs.length * wd : Nat) : Int) = (xs.length : Int) * wd := by simp
        omega
end

/-! ## the three lists -/
theorem codecI : Codec 1 en (fun n => [.int .i64 n]) inI elI stI where
  wide := fun a _ => (en_length a).1
  read := fun a t ha => by unfold elI; rw [gI_en a ha]
  left := fun a t s ha => by unfold stI; rw [gI_en a ha]
  inv := fun r _ h => by
    obtain ⟨h1, h2, h3, h4, h5⟩ := gI_ok (l := r) h
    exact ⟨(gI r).1, h1, h2, h5, fun s => rfl⟩
theorem codecS : Codec 1 eB (fun s => [.string ⟨s.toArray⟩]) (fun s => s.length ≤ 9223372036854775807) elS stS where
  wide := fun a _ => by have := (en_length a.length).1; simp only [eB, List.length_append]; omega
  read := fun a t ha => by unfold elS; rw [gB3_en a t ha]
  left := fun a t s ha => by unfold stS; rw [gB3_en a t ha]
  inv := fun r _ h => by
    obtain ⟨h1, h2, h3, h4⟩ := gB3_inv (l := r) h
    exact ⟨(gB3 r).1, h4, h1, h3, fun s => rfl⟩
theorem codecD : Codec 16 (fun d => d) bs (fun d => d.length = 16) elD stD where
  wide := fun a h => by omega
  read := fun a t h => by unfold elD; rw [h]
  left := fun a t s h => by unfold stD; rw [← h, List.take_left]
  inv := fun r h _ => by
    have h16 : 16 ≤ r.length := by omega
    refine ⟨r.take 16, by simp; omega, h16, rfl, fun s => rfl⟩
end
end Go.Proofs.YtkaaejfochdjcaaDoor
