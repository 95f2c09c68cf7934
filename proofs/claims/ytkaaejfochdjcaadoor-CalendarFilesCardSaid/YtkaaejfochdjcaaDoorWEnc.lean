/-
  The walks of wire.Bytes, Ints, Strings: the encodings of byte strings and lists.
-/
import Derived.Test.YtkaaejfochdjcaaDoorWApp
namespace Go.Proofs.YtkaaejfochdjcaaDoor
open Go.RowKit
set_option linter.unusedVariables false

def eB (s : List UInt8) : List UInt8 := en s.length ++ s
def eL (l : List Int) : List UInt8 := en l.length ++ l.flatMap en
def eS (l : List (List UInt8)) : List UInt8 := en l.length ++ l.flatMap eB
theorem en_len9 (n : Int) : (en n).length ≤ 9 := (en_length n).2
theorem inI_nat (n : Nat) (h : n ≤ 9223372036854775807) : inI (n : Int) := by unfold inI; omega
theorem flatMap_en_len (l : List Int) : (l.flatMap en).length ≤ 9 * l.length := by
  induction l with
  | nil => simp
  | cons a r ih => have := en_len9 a; simp only [List.flatMap_cons, List.length_append, List.length_cons]; omega

set_option maxHeartbeats 400000 in
theorem bytes_any (s : ByteArray) (w : World) (hs : s.size ≤ 1099511627776) :
    Calls Tryd.prog 62 #[.string s] w fun e w' => ∃ v', e = .returned v' ∧ w'.ownsRow w.heap.size 5 1 v' (eB s.data.toList).length (bs (eB s.data.toList)) ∧ Below w.heap.size w w' := by
  obtain ⟨i0, hi0, hz0, hz1, hz2⟩ := info_parts Tryd.info5
  have h9 := en_len9 s.size
  go_enter Tryd.func62, Tryd.ntmps62
  go_wp2_with fail
  refine (int_any s.size (inI_nat _ (by omega)) w).mono ?_
  rintro e w1 ⟨v1, rfl, hown, hb⟩
  have HO := Lib.hid hown; clear hown
  go_wp2_with (at_builtin; refine wpList_own_src rfl (.tmp 5) (.tmp 6) 53 9 rfl w.heap.size 5 i0 _ 1 1 Tryd.underlying53 hi0 hz0 hz1 hz2 rfl _ _ _ rfl HO.out _ s.size (byteCells s) rfl (by rw [hz1]; exact Src.ofString w1 Tryd.underlying9 s) ?c1 ?c2 ?c3 ?_)
  case c1 => unfold maxLen; omega
  case c2 => omega
  case c3 => exact hb.size
  intro v2 w2 hown2 hg2 hb2
  have HO2 := Lib.hid hown2; clear hown2
  go_wp2
  go_ret
  refine ⟨_, rfl, ?_, hb.grown hg2 hb.size (fun g hg => (HO.out.lt g hg).1)⟩
  have h := HO2.out
  rw [byteCells_bs, ← bs_append] at h
  have e : (eB s.data.toList).length = (en s.size).length + s.size := by simp [eB]
  rw [e]
  exact h

end Go.Proofs.YtkaaejfochdjcaaDoor
