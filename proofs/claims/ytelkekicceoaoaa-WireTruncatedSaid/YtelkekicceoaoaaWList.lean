/-
  The walk of wire.getList, over whatever element function is handed in: a contract of it is a premise.
-/
import Derived.Test.YtelkekicceoaoaaWDec
import Derived.Deep.LoopGhost
namespace Go.Proofs.Ytelkekicceoaoaa
open Go.RowKit
set_option linter.unusedVariables false

def ret2 (r : Nat × Int) : Ending := .returned (.tuple #[.int .i64 r.1, .int .i64 r.2])
/-- n elements are still to come, the first at 'used'. -/
def gLoop (el : List UInt8 → Nat × Int) (l : List UInt8) : Nat → Nat → Nat × Int
  | 0, used => (used, 0)
  | n + 1, used => if (el (l.drop used)).2 ≠ 0 then (0, (el (l.drop used)).2) else gLoop el l n (used + (el (l.drop used)).1)
def gList (el : List UInt8 → Nat × Int) (l : List UInt8) (wd : Int) : Nat × Int :=
  if (gLen l wd).2.2 ≠ 0 then (0, (gLen l wd).2.2) else gLoop el l (gLen l wd).1.toNat (gLen l wd).2.1
/-- what the elements leave, one after the other -/
def sLoop {σ : Type} (step : σ → List UInt8 → σ) (el : List UInt8 → Nat × Int) (l : List UInt8) : Nat → Nat → σ → σ
  | 0, _, s => s
  | n + 1, used, s => sLoop step el l n (used + (el (l.drop used)).1) (step s (l.drop used))
def sList {σ : Type} (step : σ → List UInt8 → σ) (el : List UInt8 → Nat × Int) (l : List UInt8) (wd : Int) (s : σ) : σ := sLoop step el l (gLen l wd).1.toNat (gLen l wd).2.1 s

def LPost {σ : Type} (Inv : Nat → σ → World → Prop) (r : Nat × Int) (fin : σ) (e : Ending) (w : World) : Prop := e = ret2 r ∧ ∃ k s, Inv k s w ∧ (r.2 = 0 → s = fin)

structure Elem {σ : Type} (F B : Nat) (Inv : Nat → σ → World → Prop) (step : σ → List UInt8 → σ) (el : List UInt8 → Nat × Int) (ready : Nat → List UInt8 → Prop) : Prop where
  enter : ∀ (args : Array Value) (W : World), (callFunc F args).run Try.prog W = .ok (.enter F args) W
  le : ∀ k r, ready (k + 1) r → (el r).2 = 0 → (el r).1 ≤ r.length
  next : ∀ k r, ready (k + 1) r → (el r).2 = 0 → ready k (r.drop (el r).1)
  call : ∀ (k : Nat) (r : List UInt8) (A : Option Addr) (c : Nat) (s : σ) (W : World), ready (k + 1) r → Inv (k + 1) s W → Rd W A (bs r) → (∀ b o, A = some ⟨b, o, none⟩ → b < B) → r.length ≤ c → c ≤ maxLen →
    Calls Try.prog F #[.slice A r.length c, .pointer (some ⟨B, 0, none⟩)] W fun e W' => e = ret2 (el r) ∧ Inv k (step s r) W'

set_option maxHeartbeats 400000 in
theorem getList_any {σ : Type} (F B : Nat) (Inv : Nat → σ → World → Prop) (step : σ → List UInt8 → σ) (el : List UInt8 → Nat × Int) (ready : Nat → List UInt8 → Prop) (hel : Elem F B Inv step el ready)
    (l : List UInt8) (A : Option Addr) (c : Nat) (wd : Int) (w : World) (s0 : σ) (hw1 : 1 ≤ wd) (hw2 : wd ≤ 16) (hc : l.length ≤ c) (hm : c ≤ maxLen) (hrd : ∀ k s W, Inv k s W → Rd W A (bs l)) (h0 : ∀ k, k ≤ l.length → Inv k s0 w) (hAB : l ≠ [] → ∀ b o, A = some ⟨b, o, none⟩ → b < B)
    (hready : ∀ (k u : Nat), (k : Int) * wd ≤ (l.length : Int) - (u : Int) → ready k (l.drop u)) :
    Calls Try.prog 41 #[.slice A l.length c, .int .i64 wd, .func (.func F) #[] #[.pointer (some ⟨B, 0, none⟩)]] w (LPost Inv (gList el l wd) (sList step el l wd s0)) := by
  have hlen : c ≤ 9223372036854775807 := by unfold maxLen at hm; omega
  have HM := Lib.hid hm; clear hm
  have HRD := Lib.hid hrd; clear hrd
  have HI := Lib.hid h0; clear h0
  have HY := Lib.hid hready; clear hready
  have hent := hel.enter
  have HE := Lib.hid hel; clear hel
  have hG : ∀ h : (gLen l wd).2.2 = 0, 0 ≤ (gLen l wd).1 ∧ (gLen l wd).1 * wd ≤ (l.length : Int) - (gLen l wd).2.1 ∧ 1 ≤ (gLen l wd).2.1 ∧ (gLen l wd).2.1 ≤ l.length := fun h => by
    obtain ⟨h1, h2, h3, h4⟩ := gLen_ok h hw1
    have h5 := gI_ok h1
    rw [h4]
    exact ⟨h2, h3, h5.2.2.1, h5.2.1⟩
  have hL : gList el l wd = if (gLen l wd).2.2 ≠ 0 then (0, (gLen l wd).2.2) else gLoop el l (gLen l wd).1.toNat (gLen l wd).2.1 := rfl
  have hS : sList step el l wd s0 = sLoop step el l (gLen l wd).1.toNat (gLen l wd).2.1 s0 := rfl
  generalize gList el l wd = R at hL ⊢
  generalize sList step el l wd s0 = fin at hS ⊢
  have HL := Lib.hid hL; clear hL
  have HS := Lib.hid hS; clear hS
  go_enter Try.func41, Try.ntmps41
  go_wp2_with fail
  refine (getLength_any l A c wd w hw1 hw2 hc HM.out (HRD.out _ _ _ (HI.out 0 (by omega)))).mono ?_
  rintro e w' ⟨rfl, rfl⟩
  unfold ret3
  generalize gLen l wd = r at hG HL HS ⊢
  obtain ⟨n, u, er⟩ := r
  by_cases he : er = 0
  · subst he
    obtain ⟨hn, hnw, hu1, hu⟩ := hG rfl
    clear hG
    simp only at hn hnw hu1 hu
    obtain ⟨N, rfl⟩ := Int.eq_ofNat_of_zero_le hn
    have hNl : N ≤ l.length := by
      have : (N : Int) * 1 ≤ (N : Int) * wd := Int.mul_le_mul_of_nonneg_left hw1 (by omega)
      omega
    have HF : Hid (R = gLoop el l N u ∧ fin = sLoop step el l N u s0) := ⟨by rw [HL.out, if_neg (by simp)]; rfl, by rw [HS.out]; rfl⟩
    have HYN := Lib.hid (HY.out N u hnw)
    obtain ⟨b, o, rfl, _⟩ := (HRD.out _ _ _ (HI.out 0 (by omega))).open (by intro e; have := congrArg List.length e; rw [bs_length, List.length_nil] at this; omega)
    have hbB : b < B := hAB (by intro e; rw [e, List.length_nil] at hu; omega) b o rfl
    clear hnw HL HS hAB
    go_wp2_with fail
    go_loopg [9, 24] N (fun g s9 s24 wr => ∃ (j v : Nat) (s : σ), j + g = N ∧ s24 = .int .i64 j ∧ s9 = .int .i64 v ∧ v ≤ l.length ∧ Hid (Inv g s wr ∧ ready g (l.drop v) ∧ R = gLoop el l g v ∧ fin = sLoop step el l g v s))
    case atStart => exact ⟨0, u, s0, by omega, rfl, rfl, hu, HI.out N hNl, HYN.out, HF.out.1, HF.out.2⟩
    case round =>
      obtain ⟨j, v, s, hj, rfl, rfl, hv, H⟩ := hrel
      cases gk with
      | zero =>
        have hlt : ¬ (j < N) := by omega
        go_wp2_with fail
        go_ret2
        exact ⟨by rw [H.out.2.2.1]; rfl, 0, s, H.out.1, fun _ => H.out.2.2.2.symm⟩
      | succ g =>
        have hlt : j < N := by omega
        have hle : ∀ h : (el (l.drop v)).2 = 0, (el (l.drop v)).1 ≤ l.length - v := fun h => by have := HE.out.le g _ H.out.2.1 h; simpa using this
        have HLE := Lib.hid hle; clear hle
        have hdl : (l.drop v).length = l.length - v := by simp
        have HDL := Lib.hid hdl; clear hdl
        have hcv : v ≤ c := by omega
        obtain ⟨A', hA', hrdA⟩ : ∃ A', (if c = v then some (⟨b, o, none⟩ : Addr) else some ⟨b, o + v, none⟩) = A' ∧ Rd wr A' (bs (l.drop v)) := by
          refine ⟨_, rfl, ?_⟩
          have hrd := HRD.out _ _ _ H.out.1
          rcases hrd with hx | ⟨b', o', hb', hx⟩
          · exact .inl (by rw [← bs_drop, hx]; simp)
          · obtain ⟨rfl, rfl⟩ : b = b' ∧ o = o' := by simpa using hb'
            split
            · rename_i hcv'
              refine .inl ?_
              rw [List.drop_of_length_le (by omega)]; rfl
            · have := Rd.drop b o hx v
              rw [bs_drop] at this
              exact this
        have HA := Lib.hid hrdA; clear hrdA
        by_cases hcu : c = v
        · rw [if_pos hcu] at hA'
          subst hA'
          have HCU := Lib.hid hcu
          obtain rfl : c = v := hcu
          have hcall := HE.out.call g (l.drop c) (some ⟨b, o, none⟩) 0 s wr H.out.2.1 H.out.1 HA.out (by rintro b' o' h; injection h with h; injection h with h; omega) (by rw [HDL.out]; omega) (Nat.zero_le _)
          rw [HDL.out, show l.length - c = 0 from by omega] at hcall
          have HCALL := Lib.hid hcall; clear hcall
          go_wp2_with fail
          refine HCALL.out.mono ?_
          rintro e W' ⟨rfl, hI⟩
          unfold ret2
          have HI2 := Lib.hid hI; clear hI
          generalize hx : el (l.drop c) = x at HLE
          obtain ⟨sz, ee⟩ := x
          have HX := Lib.hid hx; clear hx
          by_cases hee : ee = 0
          · subst hee
            have hsz := HLE.out rfl
            simp only at hsz
            go_wp2_with fail
            go_roundg g
            case measure => omega
            case rel => exact ⟨j + 1, c + sz, step s (l.drop c), by omega, by go_num, by go_num, by omega, HI2.out, by have := HE.out.next g _ H.out.2.1 (by rw [HX.out]); rw [HX.out, List.drop_drop] at this; exact this, by rw [H.out.2.2.1, gLoop, HX.out, if_neg (by simp)], by rw [H.out.2.2.2, sLoop, HX.out]⟩
          · have h0 : ((ee : Int) != 0) = true := by rw [bne_iff_ne]; exact hee
            have HEE := Lib.hid hee; clear hee
            have HF2 : Hid (R = (0, ee)) := by show _ = _; rw [H.out.2.2.1, gLoop, HX.out, if_pos HEE.out]
            go_wp2_with fail
            go_ret2
            exact ⟨by rw [HF2.out]; rfl, _, _, HI2.out, fun h => absurd (by rw [HF2.out] at h; exact h) HEE.out⟩
        · rw [if_neg hcu] at hA'
          subst hA'
          have hcall := HE.out.call g (l.drop v) (some ⟨b, o + v, none⟩) (c - v) s wr H.out.2.1 H.out.1 HA.out (by rintro b' o' h; injection h with h; injection h with h; omega) (by rw [HDL.out]; omega) (by have := HM.out; omega)
          rw [HDL.out] at hcall
          have HCALL := Lib.hid hcall; clear hcall
          go_wp2_with fail
          refine HCALL.out.mono ?_
          rintro e W' ⟨rfl, hI⟩
          unfold ret2
          have HI2 := Lib.hid hI; clear hI
          generalize hx : el (l.drop v) = x at HLE
          obtain ⟨sz, ee⟩ := x
          have HX := Lib.hid hx; clear hx
          by_cases hee : ee = 0
          · subst hee
            have hsz := HLE.out rfl
            simp only at hsz
            go_wp2_with fail
            go_roundg g
            case measure => omega
            case rel => exact ⟨j + 1, v + sz, step s (l.drop v), by omega, by go_num, by go_num, by omega, HI2.out, by have := HE.out.next g _ H.out.2.1 (by rw [HX.out]); rw [HX.out, List.drop_drop] at this; exact this, by rw [H.out.2.2.1, gLoop, HX.out, if_neg (by simp)], by rw [H.out.2.2.2, sLoop, HX.out]⟩
          · have h0 : ((ee : Int) != 0) = true := by rw [bne_iff_ne]; exact hee
            have HEE := Lib.hid hee; clear hee
            have HF2 : Hid (R = (0, ee)) := by show _ = _; rw [H.out.2.2.1, gLoop, HX.out, if_pos HEE.out]
            go_wp2_with fail
            go_ret2
            exact ⟨by rw [HF2.out]; rfl, _, _, HI2.out, fun h => absurd (by rw [HF2.out] at h; exact h) HEE.out⟩
  · have h0 : ((er : Int) != 0) = true := by rw [bne_iff_ne]; exact he
    have HF : Hid (R = (0, er)) := by show _ = _; rw [HL.out, if_pos he]
    clear hG
    have HE := Lib.hid he; clear he
    go_wp2_with fail
    go_ret2
    exact ⟨by rw [HF.out]; rfl, 0, s0, HI.out 0 (by omega), fun h => absurd (by rw [HF.out] at h; exact h) HE.out⟩

end Go.Proofs.Ytelkekicceoaoaa
