/-
  wire.Ints and the reference's Ints, walked.
-/
import Derived.Test.YtbgcnfikcddcpaaDoorHWire
import Derived.Deep.MidRow
namespace Go.Proofs.YtbgcnfikcddcpaaDoor
open Go.RowKit
set_option linter.unusedVariables false
theorem rd_new (w : World) (C : Array Value) (t : TypeId) (xs : List Value) (h : C.toList = xs) : Rd (w.alloc (.cells C t)) (some ⟨w.heap.size, 0, none⟩) xs := by
  subst h
  refine .inr ⟨w.heap.size, 0, rfl, fun k v hv => ?_⟩
  rw [cell_of_row _ w.heap.size (0 + k) C t (0, 0) (heap_alloc_new w _)]
  simpa using hv
theorem rd_at {w : World} {C : Array Value} {t : TypeId} {xs : List Value} {g : Nat} (h : C.toList = xs) (hg : g = w.heap.size) : Rd (w.alloc (.cells C t)) (some ⟨g, 0, none⟩) xs := by
  subst hg
  exact rd_new w C t xs h
theorem below_new {w w' : World} {o : Obj} (h : Below (w.alloc o).heap.size (w.alloc o) w') : Below w.heap.size w w' := ((Below.refl _ _).alloc (Nat.le_refl _) o).trans (h.mono (by simp))
theorem st_own {w : World} {f : FuncId} {args : Array Value} {W : World} {l : List UInt8} (h : Calls Tryd.prog f args W fun e w' => ∃ v', e = .returned v' ∧ w'.ownsRow W.heap.size 5 1 v' l.length (bs l) ∧ Below W.heap.size W w') (l' : List UInt8) (hl : l = l') (hb : Below w.heap.size w W) :
    Calls Tryd.prog f args W fun e w' => ∃ A c, e = .returned (.slice A l'.length c) ∧ (Rd w' A (bs l') ∧ l'.length ≤ c ∧ c ≤ maxLen) ∧ Below w.heap.size w w' := by
  subst hl
  exact h.mono fun e w' ⟨v, he, hown, hb'⟩ => by
    obtain ⟨A, c, rfl, hr, h1, h2⟩ := Rd.of_own hown
    exact ⟨A, c, he, ⟨hr, h1, h2⟩, below_next hb hb'⟩
set_option maxHeartbeats 400000 in
theorem ints_any (l : List Int) (A : Option Addr) (c : Nat) (w : World) (hl : l.length ≤ 1099511627776) (hi : ∀ n ∈ l, inI n) (hr : Rd w A (l.map (Value.int .i64))) :
    Calls Tryd.prog 53 #[.slice A l.length c] w fun e w' => ∃ v', e = .returned v' ∧ w'.ownsRow w.heap.size 5 1 v' (eL l).length (bs (eL l)) ∧ Below w.heap.size w w' := by
  have HI := Lib.hid hi; clear hi
  have HR := Lib.hid hr; clear hr
  go_enter Tryd.func53, Tryd.ntmps53
  go_wp2_with fail
  refine (int_any l.length (inI_nat _ (by omega)) w).mono ?_
  rintro e w1 ⟨v1, rfl, hown, hb⟩
  have HO := Lib.hid hown; clear hown
  go_wp2_with fail
  go_loopg [3, 11] l.length (fun g v i wr => ∃ (j : Nat) (M : List UInt8), j + g = l.length ∧ i = .int .i64 j ∧ Hid (M = en l.length ++ (l.take j).flatMap en) ∧ wr.ownsRow w.heap.size 5 1 v M.length (bs M) ∧ Below w.heap.size w wr)
  case atStart => exact ⟨0, _, by omega, rfl, by simp [Hid], HO.out, hb⟩
  case round =>
    obtain ⟨j, M, hj, rfl, HM, hown, hbw⟩ := hrel
    obtain ⟨A0, c0, rfl, hrd0, hc0, hm0⟩ := Rd.of_own hown
    have HO := Lib.hid hown; clear hown hrd0
    cases gk with
    | zero =>
      have hj' : ¬ (j < l.length) := by omega
      go_wp2
      go_ret
      refine ⟨_, rfl, ?_, hbw⟩
      have e : M = eL l := by rw [HM.out, List.take_of_length_le (by omega)]; rfl
      rw [← e]
      exact HO.out
    | succ g =>
      have hlt : j < l.length := by omega
      obtain ⟨b, o, rfl, hc⟩ := HR.out.open (by intro e; rw [List.map_eq_nil_iff] at e; subst e; simp at hlt)
      have h0 := hc j (.int .i64 l[j]) (by simp [hlt])
      have hcell : wr.cell? ⟨b, o + j, none⟩ = some (.int .i64 l[j]) := (hbw.cell (p := ⟨b, o + j, none⟩) (World.block_lt_of_cell? w _ h0)).trans h0
      have hfl := flatMap_en_len (l.take j)
      have hlt' : (l.take j).length ≤ l.length := by simp; omega
      have h9 := en_len9 l.length
      have hbd : M.length + 9 ≤ 70368744177664 := by rw [HM.out, List.length_append]; omega
      have HB := Lib.hid hbd
      clear hc h0 hfl hlt' h9 hbd
      go_wp2_with fail
      refine (appendInt_any l[j] (HI.out _ (by simp)) w.heap.size _ c0 _ A0 wr HO.out HB.out hbw.size).mono ?_
      rintro e w2 ⟨v2, rfl, hown2, hg2⟩
      have HO2 := Lib.hid hown2; clear hown2
      have hb2 : Below w.heap.size w w2 := Grew.below hbw hg2 (fun g hg => (HO.out.lt g hg).1)
      go_wp2_with fail
      go_roundg g
      case measure => omega
      case rel =>
        refine ⟨j + 1, M ++ en l[j], by omega, by go_num, ?_, ?_, hb2⟩
        · show _ = _
          rw [List.take_succ_eq_append_getElem hlt, List.flatMap_append, HM.out]
          simp
        · rw [bs_append, List.length_append]
          exact HO2.out
theorem take_snoc {α : Type} {l : List α} {j : Nat} {x : α} (h : l[j]? = some x) : l.take (j + 1) = l.take j ++ [x] := by rw [List.take_add_one, h]; rfl
set_option maxHeartbeats 400000 in
theorem rints_any (l : List Int) (A : Option Addr) (c : Nat) (w : World) (hl : l.length ≤ 1099511627776) (hi : ∀ n ∈ l, inI n) (hr : Rd w A (l.map (Value.int .i64))) :
    Calls Tryd.prog 68 #[.slice A l.length c] w fun e w' => ∃ v', e = .returned v' ∧ w'.ownsRow w.heap.size 5 1 v' (eL l).length (bs (eL l)) ∧ Below w.heap.size w w' := by
  obtain ⟨i0, hi0, hz0, hz1, hz2⟩ := info_parts Tryd.info5
  have HI := Lib.hid hi; clear hi
  have HR := Lib.hid hr; clear hr
  go_enter Tryd.func68, Tryd.ntmps68
  go_wp2_with fail
  refine (rint_any l.length (inI_nat _ (by omega)) w).mono ?_
  rintro e w1 ⟨v1, rfl, hown, hb⟩
  have HO := Lib.hid hown; clear hown
  go_wp2_with fail
  go_loopg [3, 4] l.length (fun g v i wr => ∃ (j : Nat) (M : List UInt8), j + g = l.length ∧ i = .int .i64 j ∧ Hid (M = en l.length ++ (l.take j).flatMap en) ∧ wr.ownsRow w.heap.size 5 1 v M.length (bs M) ∧ Below w.heap.size w wr)
  case atStart => exact ⟨0, _, by omega, rfl, by simp [Hid], HO.out, hb⟩
  case round =>
    obtain ⟨j, M, hj, rfl, HM, hown, hbw⟩ := hrel
    obtain ⟨A0, c0, rfl, hrd0, hc0, hm0⟩ := Rd.of_own hown
    have HO := Lib.hid hown; clear hown hrd0
    cases gk with
    | zero =>
      have hj' : ¬ (j < l.length) := by omega
      go_wp2_with fail
      go_ret
      refine ⟨_, rfl, ?_, hbw⟩
      have e : M = eL l := by rw [HM.out, List.take_of_length_le (by omega)]; rfl
      rw [← e]
      exact HO.out
    | succ g =>
      have hlt : j < l.length := by omega
      obtain ⟨x, hx⟩ : ∃ x, l[j]? = some x := ⟨_, List.getElem?_eq_getElem hlt⟩
      obtain ⟨b, o, rfl, hc⟩ := HR.out.open (by intro e; rw [List.map_eq_nil_iff] at e; subst e; simp at hlt)
      have h0 := hc j (.int .i64 x) (by simp [hx])
      have hcell : wr.cell? ⟨b, o + j, none⟩ = some (.int .i64 x) := (hbw.cell (p := ⟨b, o + j, none⟩) (World.block_lt_of_cell? w _ h0)).trans h0
      have hfl := flatMap_en_len (l.take j)
      have hlt' : (l.take j).length ≤ l.length := by simp; omega
      have h9 := en_len9 l.length
      have h9x := en_len9 x
      have hbd : M.length + 9 ≤ 70368744177664 := by rw [HM.out, List.length_append]; omega
      have HB := Lib.hid hbd
      have HX := Lib.hid hx
      clear hc h0 hfl hlt' h9 hbd hx
      go_wp2_with fail
      refine (rint_any x (HI.out _ (List.mem_of_getElem? HX.out)) wr).mono ?_
      rintro e w2 ⟨v2, rfl, hown2, hb2⟩
      obtain ⟨A2, c2, rfl, hrd2, hc2, hm2⟩ := Rd.of_own hown2
      have hA2 : A2 = none → en x = [] := fun h => by
        subst h
        rcases hrd2 with h | ⟨b, o, h, _⟩
        · simpa [bs] using h
        · cases h
      have HO2 := Lib.hid (own_keep HO.out hb2)
      have HR2 := Lib.hid hrd2
      have HA2 := Lib.hid hA2
      have hb2' := below_next hbw hb2
      obtain ⟨EX, hEX⟩ : ∃ EX, EX = en x := ⟨_, rfl⟩
      rw [← hEX] at HR2 HA2 hc2 h9x ⊢
      have HEX := Lib.hid hEX
      clear hown2 hrd2 hb2 hA2 hEX
      go_wp2_with (at_builtin; refine wpList_own_src rfl (.tmp 14) (.tmp 19) 58 58 rfl w.heap.size 5 i0 _ 1 1 Tryd.underlying58 hi0 hz0 hz1 hz2 rfl _ _ _ rfl HO2.out _ EX.length (bs EX) rfl (src_rd Tryd.underlying58 hz1 HR2.out HA2.out c2) ?c1 ?c2 ?c3 ?_)
      case c1 => have := HB.out; unfold maxLen; omega
      case c2 => have := HB.out; omega
      case c3 => exact hb2'.size
      intro v3 w3 hown3 hg3 hat3
      have HO3 := Lib.hid hown3
      have hb3 : Below w.heap.size w w3 := below_own hb2' hg3 (fun g hg => (HO2.out.lt g hg).1)
      clear hown3 hg3 hat3
      go_wp2_with fail
      go_roundg g
      case measure => omega
      case rel =>
        refine ⟨j + 1, M ++ EX, by omega, by go_num, ?_, ?_, hb3⟩
        · show _ = _
          rw [take_snoc HX.out, List.flatMap_append, HM.out, HEX.out]
          simp
        · rw [bs_append, List.length_append]
          exact HO3.out
end Go.Proofs.YtbgcnfikcddcpaaDoor
