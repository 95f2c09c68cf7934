/-
  The walks of wire.GetInts, GetStrings, GetDigests and of their closures.
-/
import Derived.Test.YtelkekicceoaoaaWList
import Derived.Deep.MidRow
import Derived.Deep.RegionLaw
namespace Go.Proofs.Ytelkekicceoaoaa
open Go.RowKit
set_option linter.unusedVariables false

theorem Try.info3 : (Try.prog.info? 3).map (fun i => (i.zero, i.size, i.bytes)) = some (some (.int .i64 0), 1, 8) := by kernel_rfl
theorem Try.info9 : (Try.prog.info? 9).map (fun i => (i.zero, i.size, i.bytes)) = some (some (.string ByteArray.empty), 1, 16) := by kernel_rfl

/-- What the captured variable holds: a row of the call's own, of k elements at most more than it has. -/
def Box (w0 : World) (B top : Nat) (t e : TypeId) (size : Nat) (k : Nat) (s : List (List Value)) (W : World) : Prop :=
  ∃ v, W.heap[B]? = some (.cells #[v] t (0, 0)) ∧ W.ownsRow (B + 1) e size v s.length s.flatten ∧ Below B w0 W ∧ s.length + k ≤ top
theorem Box.start {w0 : World} {B top : Nat} {t e : TypeId} {size k : Nat} (hB : B = w0.heap.size) (hk : k ≤ top) : Box w0 B top t e size k [] (w0.alloc (.cells #[.slice none 0 0] t)) := by
  subst hB
  exact ⟨_, heap_alloc_new _ _, World.ownsRow_nil _ _ _ _, (Below.refl _ _).alloc (Nat.le_refl _) _, by simpa using hk⟩
theorem Box.rd {w0 : World} {B top : Nat} {t e : TypeId} {size k : Nat} {s : List (List Value)} {W : World} (h : Box w0 B top t e size k s W) (hB : B = w0.heap.size) {A : Option Addr} {xs : List Value} (hr : Rd w0 A xs) : Rd W A xs := by
  subst hB
  obtain ⟨v, _, _, hb, _⟩ := h
  exact hr.below hb

def elI (r : List UInt8) : Nat × Int := ((gI r).2.1, (gI r).2.2)
def stI (s : List (List Value)) (r : List UInt8) : List (List Value) := s ++ [[.int .i64 (gI r).1]]

set_option maxHeartbeats 400000 in
theorem elI_call (w0 : World) (B top : Nat) (ht : top ≤ 1099511627776) (k : Nat) (r : List UInt8) (A : Option Addr) (c : Nat) (s : List (List Value)) (W : World) (hI : Box w0 B top 22 3 1 (k + 1) s W) (hr : Rd W A (bs r)) (_hAB : ∀ b o, A = some ⟨b, o, none⟩ → b < B) (hc : r.length ≤ c) (hm : c ≤ maxLen) :
    Calls Try.prog 42 #[.slice A r.length c, .pointer (some ⟨B, 0, none⟩)] W fun e W' => e = ret2 (elI r) ∧ Box w0 B top 22 3 1 k (stI s r) W' := by
  obtain ⟨i0, hi0, hz0, hz1, hz2⟩ := info_parts Try.info3
  obtain ⟨v, hB, hown, hb, hl⟩ := hI
  have hcell : W.cell? ⟨B, 0, none⟩ = some v := by rw [cell_of_row W B 0 _ _ _ hB]; rfl
  have hBlt : B < W.heap.size := (Array.getElem?_eq_some_iff.1 hB).1
  have HR := Lib.hid hr; clear hr
  have HM := Lib.hid hm; clear hm
  have HC := Lib.hid hc; clear hc
  have HO := Lib.hid hown; clear hown
  have HB := Lib.hid hB; clear hB
  have hR : elI r = ((gI r).2.1, (gI r).2.2) := rfl
  have hS : stI s r = s ++ [[.int .i64 (gI r).1]] := rfl
  generalize elI r = R at hR ⊢
  generalize stI s r = S' at hS ⊢
  have HRR := Lib.hid hR; clear hR
  have HSS := Lib.hid hS; clear hS
  go_enter Try.func42, Try.ntmps42
  go_wp2_with fail
  refine (getInt_any r A c W HC.out HM.out HR.out).mono ?_
  rintro e w' ⟨rfl, rfl⟩
  unfold ret3
  generalize gI r = x at HRR HSS ⊢
  obtain ⟨n, u, er⟩ := x
  go_wp2_with (at_builtin; refine wpList_own_src rfl (.tmp 14) (.tmp 16) 22 22 rfl (B + 1) 3 i0 _ 1 8 Try.underlying22 hi0 hz0 hz1 hz2 rfl _ _ _ rfl (HO.out.alloc _) _ 1 [.int .i64 n] rfl (src_one Try.underlying22 hz1 _ _ _ rfl) ?c1 ?c2 ?c3 ?_)
  case c1 => unfold maxLen; omega
  case c2 => omega
  case c3 => simp; omega
  intro v1 w1 hown1 hg1 hb1
  have hne : ∀ g, v.ownBlock = some g → B + 1 ≤ g := fun g hg => (HO.out.lt g hg).1
  have hB1 : w1.heap[B]? = some (.cells #[v] 22 (0, 0)) := (hg1.block B (by simp; omega) (fun e => by have := hne B e.symm; omega)).trans ((Below.heap_alloc W _ B hBlt).trans HB.out)
  have hc1 : w1.cell? ⟨B, 0, none⟩ = some v := by rw [cell_of_row w1 B 0 _ _ _ hB1]; rfl
  have hf1 : w1.frozen? ⟨B, 0, none⟩ = false := by simp [World.frozen?, hB1]
  have hbw1 : Below B w0 w1 := (hb.alloc (by omega) _).grown hg1 (by simp; omega) (fun g hg => by have := hne g hg; omega)
  obtain ⟨A1, c1, rfl, hrd1, hcc1, hmm1⟩ := Rd.of_own hown1
  have HO1 := Lib.hid hown1; clear hown1 hrd1
  have HB1 := Lib.hid hB1; clear hB1
  clear hb1 hg1 hne
  go_wp2_with fail
  go_ret2
  refine ⟨by rw [HRR.out]; rfl, .slice A1 (s.length + 1) c1, ?_, ?_, hbw1.setCell (Nat.le_refl _) _, by rw [HSS.out]; simp; omega⟩
  · rw [heap_setCell_same w1 B 0 _ _ _ HB1.out]; rfl
  · have := ownsRow_setCell_below HO1.out (a := ⟨B, 0, none⟩) (by simp) (.slice A1 (s.length + 1) c1)
    rw [HSS.out]
    simpa using this

theorem elI_enter (args : Array Value) (W : World) : (callFunc 42 args).run Try.prog W = .ok (.enter 42 args) W := by
  kernel_rfl

def elS (r : List UInt8) : Nat × Int := ((gB3 r).2.1, (gB3 r).2.2)
def stS (s : List (List Value)) (r : List UInt8) : List (List Value) := s ++ [[.string ⟨(gB3 r).1.toArray⟩]]

set_option maxHeartbeats 400000 in
theorem elS_call (w0 : World) (B top : Nat) (ht : top ≤ 1099511627776) (k : Nat) (r : List UInt8) (A : Option Addr) (c : Nat) (s : List (List Value)) (W : World) (hI : Box w0 B top 23 9 1 (k + 1) s W) (hr : Rd W A (bs r)) (_hAB : ∀ b o, A = some ⟨b, o, none⟩ → b < B) (hc : r.length ≤ c) (hm : c ≤ maxLen) :
    Calls Try.prog 43 #[.slice A r.length c, .pointer (some ⟨B, 0, none⟩)] W fun e W' => e = ret2 (elS r) ∧ Box w0 B top 23 9 1 k (stS s r) W' := by
  obtain ⟨i0, hi0, hz0, hz1, hz2⟩ := info_parts Try.info9
  obtain ⟨v, hB, hown, hb, hl⟩ := hI
  have hcell : W.cell? ⟨B, 0, none⟩ = some v := by rw [cell_of_row W B 0 _ _ _ hB]; rfl
  have hBlt : B < W.heap.size := (Array.getElem?_eq_some_iff.1 hB).1
  have HR := Lib.hid hr; clear hr
  have HM := Lib.hid hm; clear hm
  have HC := Lib.hid hc; clear hc
  have HO := Lib.hid hown; clear hown
  have HB := Lib.hid hB; clear hB
  have hR : elS r = ((gB3 r).2.1, (gB3 r).2.2) := rfl
  have hS : stS s r = s ++ [[.string ⟨(gB3 r).1.toArray⟩]] := rfl
  generalize elS r = R at hR ⊢
  generalize stS s r = S' at hS ⊢
  have HRR := Lib.hid hR; clear hR
  have HSS := Lib.hid hS; clear hS
  go_enter Try.func43, Try.ntmps43
  go_wp2_with fail
  refine (getBytes_any r A c W HC.out HM.out HR.out).mono ?_
  rintro e w' ⟨rfl, rfl⟩
  unfold retS
  generalize gB3 r = x at HRR HSS ⊢
  obtain ⟨n, u, er⟩ := x
  go_wp2_with (at_builtin; refine wpList_own_src rfl (.tmp 14) (.tmp 16) 23 23 rfl (B + 1) 9 i0 _ 1 16 Try.underlying23 hi0 hz0 hz1 hz2 rfl _ _ _ rfl (HO.out.alloc _) _ 1 [.string ⟨n.toArray⟩] rfl (src_one Try.underlying23 hz1 _ _ _ rfl) ?c1 ?c2 ?c3 ?_)
  case c1 => unfold maxLen; omega
  case c2 => omega
  case c3 => simp; omega
  intro v1 w1 hown1 hg1 hb1
  have hne : ∀ g, v.ownBlock = some g → B + 1 ≤ g := fun g hg => (HO.out.lt g hg).1
  have hB1 : w1.heap[B]? = some (.cells #[v] 23 (0, 0)) := (hg1.block B (by simp; omega) (fun e => by have := hne B e.symm; omega)).trans ((Below.heap_alloc W _ B hBlt).trans HB.out)
  have hc1 : w1.cell? ⟨B, 0, none⟩ = some v := by rw [cell_of_row w1 B 0 _ _ _ hB1]; rfl
  have hf1 : w1.frozen? ⟨B, 0, none⟩ = false := by simp [World.frozen?, hB1]
  have hbw1 : Below B w0 w1 := (hb.alloc (by omega) _).grown hg1 (by simp; omega) (fun g hg => by have := hne g hg; omega)
  obtain ⟨A1, c1, rfl, hrd1, hcc1, hmm1⟩ := Rd.of_own hown1
  have HO1 := Lib.hid hown1; clear hown1 hrd1
  have HB1 := Lib.hid hB1; clear hB1
  clear hb1 hg1 hne
  go_wp2_with fail
  go_ret2
  refine ⟨by rw [HRR.out]; rfl, .slice A1 (s.length + 1) c1, ?_, ?_, hbw1.setCell (Nat.le_refl _) _, by rw [HSS.out]; simp; omega⟩
  · rw [heap_setCell_same w1 B 0 _ _ _ HB1.out]; rfl
  · have := ownsRow_setCell_below HO1.out (a := ⟨B, 0, none⟩) (by simp) (.slice A1 (s.length + 1) c1)
    rw [HSS.out]
    simpa using this

theorem elS_enter (args : Array Value) (W : World) : (callFunc 43 args).run Try.prog W = .ok (.enter 43 args) W := by
  kernel_rfl

end Go.Proofs.Ytelkekicceoaoaa
