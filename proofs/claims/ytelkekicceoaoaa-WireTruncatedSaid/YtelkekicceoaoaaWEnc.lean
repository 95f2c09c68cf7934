/-
  The walks of wire.Bytes, Ints, Strings: the encodings of byte strings and lists.
-/
import Derived.Test.YtelkekicceoaoaaWApp
namespace Go.Proofs.Ytelkekicceoaoaa
open Go.RowKit
set_option linter.unusedVariables false

def eB (s : List UInt8) : List UInt8 := en s.length ++ s
def eL (l : List Int) : List UInt8 := en l.length ++ l.flatMap en
def eS (l : List (List UInt8)) : List UInt8 := en l.length ++ l.flatMap eB
theorem en_len9 (n : Int) : (en n).length ≤ 9 := (en_length n).2
theorem inI_nat (n : Nat) (h : n ≤ 9223372036854775807) : inI (n : Int) := by unfold inI; omega
theorem flatMap_en_len (l : List Int) : (l.flatMap en).length ≤ 9 * l.length := by
  induction l with
  | nil => simp
  | cons a r ih => have := en_len9 a; simp only [List.flatMap_cons, List.length_append, List.length_cons]; omega

set_option maxHeartbeats 400000 in
theorem bytes_any (s : ByteArray) (w : World) (hs : s.size ≤ 1099511627776) :
    Calls Try.prog 16 #[.string s] w fun e w' => ∃ v', e = .returned v' ∧ w'.ownsRow w.heap.size 5 1 v' (eB s.data.toList).length (bs (eB s.data.toList)) ∧ Below w.heap.size w w' := by
  obtain ⟨i0, hi0, hz0, hz1, hz2⟩ := info_parts Try.info5
  have h9 := en_len9 s.size
  go_enter Try.func16, Try.ntmps16
  go_wp2_with fail
  refine (int_any s.size (inI_nat _ (by omega)) w).mono ?_
  rintro e w1 ⟨v1, rfl, hown, hb⟩
  have HO := Lib.hid hown; clear hown
  go_wp2_with (at_builtin; refine wpList_own_src rfl (.tmp 5) (.tmp 6) 28 9 rfl w.heap.size 5 i0 _ 1 1 Try.underlying28 hi0 hz0 hz1 hz2 rfl _ _ _ rfl HO.out _ s.size (byteCells s) rfl (by rw [hz1]; exact Src.ofString w1 Try.underlying9 s) ?c1 ?c2 ?c3 ?_)
  case c1 => unfold maxLen; omega
  case c2 => omega
  case c3 => exact hb.size
  intro v2 w2 hown2 hg2 hb2
  have HO2 := Lib.hid hown2; clear hown2
  go_wp2
  go_ret
  refine ⟨_, rfl, ?_, hb.grown hg2 hb.size (fun g hg => (HO.out.lt g hg).1)⟩
  have h := HO2.out
  rw [byteCells_bs, ← bs_append] at h
  have e : (eB s.data.toList).length = (en s.size).length + s.size := by simp [eB]
  rw [e]
  exact h

set_option maxHeartbeats 400000 in
theorem ints_any (l : List Int) (A : Option Addr) (c : Nat) (w : World) (hl : l.length ≤ 1099511627776) (hi : ∀ n ∈ l, inI n) (hr : Rd w A (l.map (Value.int .i64))) :
    Calls Try.prog 18 #[.slice A l.length c] w fun e w' => ∃ v', e = .returned v' ∧ w'.ownsRow w.heap.size 5 1 v' (eL l).length (bs (eL l)) ∧ Below w.heap.size w w' := by
  have HI := Lib.hid hi; clear hi
  have HR := Lib.hid hr; clear hr
  go_enter Try.func18, Try.ntmps18
  go_wp2_with fail
  refine (int_any l.length (inI_nat _ (by omega)) w).mono ?_
  rintro e w1 ⟨v1, rfl, hown, hb⟩
  have HO := Lib.hid hown; clear hown
  go_wp2_with fail
  go_loopg [3, 11] l.length (fun g v i wr => ∃ (j : Nat) (M : List UInt8), j + g = l.length ∧ i = .int .i64 j ∧ Hid (M = en l.length ++ (l.take j).flatMap en) ∧ wr.ownsRow w.heap.size 5 1 v M.length (bs M) ∧ Below w.heap.size w wr)
  case atStart => exact ⟨0, _, by omega, rfl, by simp [Hid], HO.out, hb⟩
  case round =>
    obtain ⟨j, M, hj, rfl, HM, hown, hbw⟩ := hrel
    obtain ⟨A0, c0, rfl, hrd0, hc0, hm0⟩ := Rd.of_own hown
    have HO := Lib.hid hown; clear hown hrd0
    cases gk with
    | zero =>
      have hj' : ¬ (j < l.length) := by omega
      go_wp2
      go_ret
      refine ⟨_, rfl, ?_, hbw⟩
      have e : M = eL l := by rw [HM.out, List.take_of_length_le (by omega)]; rfl
      rw [← e]
      exact HO.out
    | succ g =>
      have hlt : j < l.length := by omega
      obtain ⟨b, o, rfl, hc⟩ := HR.out.open (by intro e; rw [List.map_eq_nil_iff] at e; subst e; simp at hlt)
      have h0 := hc j (.int .i64 l[j]) (by simp [hlt])
      have hcell : wr.cell? ⟨b, o + j, none⟩ = some (.int .i64 l[j]) := (hbw.cell (p := ⟨b, o + j, none⟩) (World.block_lt_of_cell? w _ h0)).trans h0
      have hfl := flatMap_en_len (l.take j)
      have hlt' : (l.take j).length ≤ l.length := by simp; omega
      have h9 := en_len9 l.length
      have hbd : M.length + 9 ≤ 70368744177664 := by rw [HM.out, List.length_append]; omega
      have HB := Lib.hid hbd
      clear hc h0 hfl hlt' h9 hbd
      go_wp2_with fail
      refine (appendInt_any l[j] (HI.out _ (by simp)) w.heap.size _ c0 _ A0 wr HO.out HB.out hbw.size).mono ?_
      rintro e w2 ⟨v2, rfl, hown2, hg2⟩
      have HO2 := Lib.hid hown2; clear hown2
      have hb2 : Below w.heap.size w w2 := Grew.below hbw hg2 (fun g hg => (HO.out.lt g hg).1)
      go_wp2_with fail
      go_roundg g
      case measure => omega
      case rel =>
        refine ⟨j + 1, M ++ en l[j], by omega, by go_num, ?_, ?_, hb2⟩
        · show _ = _
          rw [List.take_succ_eq_append_getElem hlt, List.flatMap_append, HM.out]
          simp
        · rw [bs_append, List.length_append]
          exact HO2.out

end Go.Proofs.Ytelkekicceoaoaa
