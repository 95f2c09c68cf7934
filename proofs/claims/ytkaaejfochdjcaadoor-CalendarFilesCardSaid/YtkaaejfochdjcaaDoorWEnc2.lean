/-
  The walks of wire.Strings, Digests.
-/
import Derived.Test.YtkaaejfochdjcaaDoorWEnc
import Derived.Deep.MidRow
namespace Go.Proofs.YtkaaejfochdjcaaDoor
open Go.RowKit
set_option linter.unusedVariables false

theorem eB_len (s : List UInt8) : (eB s).length ≤ 9 + s.length := by have := en_len9 s.length; simp only [eB, List.length_append]; omega
theorem flatMap_eB_len (l : List (List UInt8)) : (l.flatMap eB).length ≤ 9 * l.length + l.flatten.length := by
  induction l with
  | nil => simp
  | cons a r ih => have := eB_len a; simp only [List.flatMap_cons, List.length_append, List.length_cons, List.flatten_cons]; omega
theorem flatten_take_len (l : List (List UInt8)) (j : Nat) : (l.take j).flatten.length ≤ l.flatten.length := by
  conv => rhs; rw [← List.take_append_drop j l]
  rw [List.flatten_append, List.length_append]; omega
theorem take_snoc {α : Type} {l : List α} {j : Nat} {x : α} (h : l[j]? = some x) : l.take (j + 1) = l.take j ++ [x] := by rw [List.take_add_one, h]; rfl
def lists (l : List ByteArray) : List (List UInt8) := l.map (·.data.toList)

set_option maxHeartbeats 400000 in
theorem strings_any (l : List ByteArray) (A : Option Addr) (c : Nat) (w : World) (hl : l.length ≤ 1099511627776) (hi : (lists l).flatten.length ≤ 1099511627776) (hr : Rd w A (l.map Value.string)) :
    Calls Tryd.prog 33 #[.slice A l.length c] w fun e w' => ∃ v', e = .returned v' ∧ w'.ownsRow w.heap.size 5 1 v' (eS (lists l)).length (bs (eS (lists l))) ∧ Below w.heap.size w w' := by
  obtain ⟨i0, hi0, hz0, hz1, hz2⟩ := info_parts Tryd.info5
  have HI := Lib.hid hi; clear hi
  have HR := Lib.hid hr; clear hr
  go_enter Tryd.func33, Tryd.ntmps33
  go_wp2_with fail
  refine (int_any l.length (inI_nat _ (by omega)) w).mono ?_
  rintro e w1 ⟨v1, rfl, hown, hb⟩
  have HO := Lib.hid hown; clear hown
  go_wp2_with fail
  go_loopg [3, 11] l.length (fun g v i wr => ∃ (j : Nat) (M : List UInt8), j + g = l.length ∧ i = .int .i64 j ∧ Hid (M = en l.length ++ ((lists l).take j).flatMap eB) ∧ wr.ownsRow w.heap.size 5 1 v M.length (bs M) ∧ Below w.heap.size w wr)
  case atStart => exact ⟨0, _, by omega, rfl, by simp [Hid], HO.out, hb⟩
  case round =>
    obtain ⟨j, M, hj, rfl, HM, hown, hbw⟩ := hrel
    obtain ⟨A0, c0, rfl, hrd0, hc0, hm0⟩ := Rd.of_own hown
    have HO := Lib.hid hown; clear hown hrd0
    cases gk with
    | zero =>
      have hj' : ¬ (j < l.length) := by omega
      go_wp2
      go_ret
      refine ⟨_, rfl, ?_, hbw⟩
      have e : M = eS (lists l) := by rw [HM.out, List.take_of_length_le (by simp [lists]; omega)]; simp [eS, lists]
      rw [← e]
      exact HO.out
    | succ g =>
      have hlt : j < l.length := by omega
      obtain ⟨b, o, rfl, hc⟩ := HR.out.open (by intro e; rw [List.map_eq_nil_iff] at e; subst e; simp at hlt)
      obtain ⟨x, hx⟩ : ∃ x, l[j]? = some x := ⟨_, List.getElem?_eq_getElem hlt⟩
      have h0 := hc j (.string x) (by simp [hx])
      have hcell : wr.cell? ⟨b, o + j, none⟩ = some (.string x) := (hbw.cell (p := ⟨b, o + j, none⟩) (World.block_lt_of_cell? w _ h0)).trans h0
      have hxl : (lists l)[j]? = some x.data.toList := by simp [lists, hx]
      have hfl := flatMap_eB_len ((lists l).take j)
      have hft := flatten_take_len (lists l) j
      have hlt' : ((lists l).take j).length ≤ l.length := by simp [lists]; omega
      have h9 := en_len9 l.length
      have hsz : x.size ≤ (lists l).flatten.length := by
        have h1 := List.sublist_flatten_of_mem (List.mem_of_getElem? hxl)
        exact h1.length_le
      have hi := HI.out
      have hbd : M.length + 9 ≤ 20000000000000 := by rw [HM.out, List.length_append]; omega
      have hs40 : x.size ≤ 1099511627776 := by omega
      have HB := Lib.hid hbd
      have HXL := Lib.hid hxl
      clear hc h0 hfl hlt' h9 hbd hft hsz hi hx hxl
      go_wp2_with fail
      refine (appendInt_any x.size (inI_nat _ (by omega)) w.heap.size _ c0 _ A0 wr HO.out (by have := HB.out; omega) hbw.size).mono ?_
      rintro e w2 ⟨v2, rfl, hown2, hg2⟩
      have h9 := en_len9 x.size
      have HO2 := Lib.hid hown2; clear hown2
      have hb2 : Below w.heap.size w w2 := Grew.below hbw hg2 (fun g hg => (HO.out.lt g hg).1)
      go_wp2_with (at_builtin; refine wpList_own_src rfl (.tmp 18) (.tmp 19) 53 9 rfl w.heap.size 5 i0 _ 1 1 Tryd.underlying53 hi0 hz0 hz1 hz2 rfl _ _ _ rfl HO2.out _ x.size (byteCells x) rfl (by rw [hz1]; exact Src.ofString w2 Tryd.underlying9 x) ?c1 ?c2 ?c3 ?_)
      case c1 => have := HB.out; unfold maxLen; omega
      case c2 => have := HB.out; omega
      case c3 => exact hb2.size
      intro v3 w3 hown3 hg3 hb3
      have HO3 := Lib.hid hown3; clear hown3
      have hb4 : Below w.heap.size w w3 := hb2.grown hg3 hb2.size (fun g hg => (HO2.out.lt g hg).1)
      go_wp2_with fail
      go_roundg g
      case measure => omega
      case rel =>
        refine ⟨j + 1, M ++ eB x.data.toList, by omega, by go_num, ?_, ?_, hb4⟩
        · show _ = _
          rw [take_snoc HXL.out, List.flatMap_append, HM.out]
          simp
        · have h := HO3.out
          rw [byteCells_bs] at h
          have e : (M ++ eB x.data.toList).length = M.length + (en x.size).length + x.size := by simp [eB]; omega
          have e2 : bs (M ++ eB x.data.toList) = bs M ++ (bs (en x.size) ++ bs x.data.toList) := by simp [eB, bs]
          rw [e, e2]
          simpa using h

theorem Tryd.infoD : (Tryd.prog.info? 58).map (·.size) = some 16 := by kernel_rfl
theorem flat16 (l : List (List UInt8)) (hl : ∀ d ∈ l, d.length = 16) : ∀ (j : Nat) (x : List UInt8), l[j]? = some x → ∀ (i : Nat) (c : UInt8), x[i]? = some c → l.flatten[j * 16 + i]? = some c := by
  induction l with
  | nil => intro j x h; simp at h
  | cons a r ih =>
    intro j x h i c hi
    have ha : a.length = 16 := hl a (by simp)
    rw [List.flatten_cons]
    cases j with
    | zero =>
      have e : a = x := by simpa using h
      subst e
      have hlt : i < a.length := (List.getElem?_eq_some_iff.1 hi).1
      rw [List.getElem?_append_left (by omega)]
      simpa using hi
    | succ j =>
      rw [List.getElem?_append_right (by omega), show (j + 1) * 16 + i - a.length = j * 16 + i from by omega]
      exact ih (fun d hd => hl d (by simp [hd])) j x (by simpa using h) i c hi
theorem flat16_len (l : List (List UInt8)) (hl : ∀ d ∈ l, d.length = 16) (j : Nat) : (l.take j).flatten.length ≤ 16 * j := by
  induction l generalizing j with
  | nil => simp
  | cons a r ih =>
    cases j with
    | zero => simp
    | succ j =>
      have h1 := ih (fun d hd => hl d (by simp [hd])) j
      have h2 := hl a (by simp)
      simp only [List.take_succ_cons, List.flatten_cons, List.length_append]
      omega
theorem boxed_heap (w : World) (zs cs : Array Value) (t : TypeId) : ((w.alloc (.cells zs t)).setRow w.heap.size cs).heap[w.heap.size]? = some (.cells cs t (0, 0)) := setRow_heap _ _ zs cs t _ (heap_alloc_new w _)
theorem boxed_grown (w : World) (zs cs : Array Value) (t : TypeId) (row : Option Nat) : w.grownBy ((w.alloc (.cells zs t)).setRow w.heap.size cs) row :=
  ⟨rfl, rfl, rfl, by simp, fun k hk _ => (setRow_other _ _ k cs (by omega)).trans (Below.heap_alloc w _ k hk)⟩
theorem own_boxed {w : World} {base : Nat} {e : TypeId} {size n : Nat} {v : Value} {xs : List Value} (h : w.ownsRow base e size v n xs) (zs cs : Array Value) (t : TypeId) : ((w.alloc (.cells zs t)).setRow w.heap.size cs).ownsRow base e size v n xs := by
  refine h.kept (boxed_grown w zs cs t none) ?_
  cases hv : v.ownBlock <;> simp
def eD (l : List (List UInt8)) : List UInt8 := en l.length ++ l.flatten

end Go.Proofs.YtkaaejfochdjcaaDoor
