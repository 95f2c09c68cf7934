/-
  A strings.Builder that the call itself has made: WriteString, Write, String, walked at this program; its frame reaches up to the builder's own block.
-/
import Derived.Test.YtbgcnfikcddcpaaDoorHStr
import Derived.Test.YtbgcnfikcddcpaaDoorWBase2
import Derived.Lib.Builder
import Derived.Lib.UnsafeStr
import Derived.Laws.Externs
import Derived.RegionTactic
namespace Go.Proofs.YtbgcnfikcddcpaaDoor
open Go.RowKit
set_option linter.unusedVariables false
theorem Tryd.sizeBld : (Tryd.prog.info? 60).map (·.size) = some 2 := by kernel_rfl
theorem Tryd.liesBld : liesAt Tryd.prog Tryd.prog.depth 60 (2 / Tryd.prog.cellsOf 60) 0 60 1 = true := by kernel_rfl
theorem Tryd.cellsByte : Tryd.prog.cellsOf 5 = 1 := by kernel_rfl
theorem Tryd.infoByte : (Tryd.prog.info? 5).map (fun i => (i.zero, i.size, i.bytes)) = some (some (.int .u8 0), 1, 1) := by kernel_rfl
/-- The builder in block b holds l; all that it owns lies from b on. -/
def Bld (w : World) (b : Nat) (l : List UInt8) : Prop := Lib.IsBuilder 60 5 b b (bs l) w
def BldU (w : World) (b : Nat) (l : List UInt8) : Prop := Lib.BuilderAt 60 5 b b (.pointer (some ⟨b, 0, none⟩)) (bs l) w
section
variable {w w' : World} {b : Nat} {l : List UInt8}
theorem BldU.bld (h : BldU w b l) : Bld w b l := .inr h
theorem BldU.lt (h : BldU w b l) : b < w.heap.size := Lib.BuilderAt.lt h
theorem Bld.lt (h : Bld w b l) : b < w.heap.size := by rcases h with h | h <;> exact Lib.BuilderAt.lt h
theorem bldAt_keep {p : Value} (h : Lib.BuilderAt 60 5 b b p (bs l) w) (hb : Below w.heap.size w w') : Lib.BuilderAt 60 5 b b p (bs l) w' := by
  have hlt := h.lt
  obtain ⟨hB, v, hbk, hown, hne⟩ := h
  exact ⟨hB, v, (hb.block b hlt).trans hbk, own_keep hown hb, hne⟩
theorem Bld.keep (h : Bld w b l) (hb : Below w.heap.size w w') : Bld w' b l := h.imp (fun h => bldAt_keep h hb) (fun h => bldAt_keep h hb)
theorem BldU.keep (h : BldU w b l) (hb : Below w.heap.size w w') : BldU w' b l := bldAt_keep h hb
theorem Bld.new (w : World) : Bld (w.alloc (.cells #[.pointer none, .slice none 0 0] 60)) w.heap.size [] :=
  .inl ⟨Nat.le_refl _, .slice none 0 0, heap_alloc_new w _, World.ownsRow_nil _ _ _ _, by simp [Value.ownBlock]⟩
theorem Bld.alloc (h : Bld w b l) (o : Obj) : Bld (w.alloc o) b l := h.keep ((Below.refl _ _).alloc (Nat.le_refl _) o)
theorem BldU.alloc (h : BldU w b l) (o : Obj) : BldU (w.alloc o) b l := h.keep ((Below.refl _ _).alloc (Nat.le_refl _) o)
end
theorem srcs {P : Program} {w : World} {size : Nat} {tx : TypeId} (hk : P.underlying tx = some .string) (hs : size = 1) (l : List UInt8) : Src P size tx (.string (sb l)) l.length (bs l) w := by
  subst hs
  have h := Src.ofString (P := P) (w := w) hk (sb l)
  rw [byteCells_bs, sb_list, sb_size] at h
  exact h

set_option maxHeartbeats 1000000 in
set_option maxRecDepth 100000 in
theorem cc_used (b : Nat) (w : World) (h0 : w.cell? ⟨b, 0, none⟩ = some (.pointer (some ⟨b, 0, none⟩))) :
    Calls Tryd.prog 54 #[.pointer (some ⟨b, 0, none⟩)] w fun e w' => e = .returned (.tuple #[]) ∧ w' = w := by
  obtain ⟨j, hj, _⟩ := Option.map_eq_some_iff.1 Tryd.sizeBld
  go_enter Tryd.func54, Tryd.ntmps54
  go_wp2
  rw [Lib.run_neq_ptr_same w _ Tryd.underlying57 hj]
  go_wp2
  go_end0
  exact ⟨rfl, rfl⟩

set_option maxHeartbeats 1000000 in
set_option maxRecDepth 100000 in
theorem cc_fresh (b : Nat) (w : World) (h0 : w.cell? ⟨b, 0, none⟩ = some (.pointer none)) (hsh : w.shape? b = some (60, 2)) (hfz : w.frozen? ⟨b, 0, none⟩ = false) :
    Calls Tryd.prog 54 #[.pointer (some ⟨b, 0, none⟩)] w fun e w' => e = .returned (.tuple #[]) ∧ w' = w.setCell ⟨b, 0, none⟩ (.pointer (some ⟨b, 0, none⟩)) := by
  obtain ⟨j, hj, hjs⟩ := Option.map_eq_some_iff.1 Tryd.sizeBld
  go_enter Tryd.func54, Tryd.ntmps54
  go_wp2
  rw [Lib.run_to_unsafe w ⟨b, 0, none⟩ Tryd.underlying57 Tryd.underlying106 hj (by rw [hjs]; decide) hsh (Nat.zero_lt_succ 1)]
  simp only [Result.andThen]
  rw [Oper.upon_value]
  go_wp2
  rw [run_callFunc_extern Tryd.func67 (by kernel_rfl) (by kernel_rfl) (by kernel_rfl) (e := Extern.AbiNoEscape.same) (by kernel_rfl)]
  rw [Lib.run_noEscape]
  simp only [Result.andThen]
  rw [Oper.upon_value]
  go_wp2
  rw [Lib.run_from_unsafe w ⟨b, 0, none⟩ Tryd.underlying106 Tryd.underlying57 hj hsh Tryd.liesBld]
  simp only [Result.andThen]
  rw [Oper.upon_value]
  go_wp2
  go_end0
  exact ⟨rfl, rfl⟩
theorem cc_any (b : Nat) (l : List UInt8) (w : World) (h : Bld w b l) :
    Calls Tryd.prog 54 #[.pointer (some ⟨b, 0, none⟩)] w fun e w' => e = .returned (.tuple #[]) ∧ BldU w' b l ∧ Below b w w' ∧ w'.heap.size = w.heap.size ∧ ∀ k, k ≠ b → w'.heap[k]? = w.heap[k]? := by
  rcases h with h | h
  · refine (cc_fresh b w h.cell0 h.shape h.frozen0).mono ?_
    rintro e w' ⟨rfl, rfl⟩
    exact ⟨rfl, h.used _, (Below.refl b w).setCell (p := ⟨b, 0, none⟩) h.1 _, by simp [World.setCell], fun k hk => Below.heap_setCell _ _ _ _ hk⟩
  · refine (cc_used b w h.cell0).mono ?_
    rintro e w' ⟨rfl, rfl⟩
    exact ⟨rfl, h, Below.refl b _, rfl, fun _ _ => rfl⟩

set_option maxHeartbeats 2000000 in
set_option maxRecDepth 100000 in
theorem bld_str (b : Nat) (l s : List UInt8) (w : World) (h : Bld w b l) (hlen : l.length + s.length ≤ 70368744177664) :
    Calls Tryd.prog 33 #[.pointer (some ⟨b, 0, none⟩), .string (sb s)] w fun e w' => e = .returned (.tuple #[.int .i64 s.length, .nilIface]) ∧ BldU w' b (l ++ s) ∧ Below b w w' := by
  obtain ⟨i0, hi, hz0, hz1, hz2⟩ := info_parts Tryd.infoByte
  have hsz := sb_size s
  go_enter Tryd.func33, Tryd.ntmps33
  go_wp2_with ((go_at_call 54; refine (cc_any b l _ h).mono ?_))
  rintro e w1 ⟨rfl, h1, hb1, hz1', hk1⟩
  obtain ⟨hB, v, hbk, hown, hne⟩ := h1
  have hlt : b < w1.heap.size := (Array.getElem?_eq_some_iff.1 hbk).1
  have c0 : w1.cell? ⟨b, 0, none⟩ = some (.pointer (some ⟨b, 0, none⟩)) := by rw [Lib.cell_of_heap hbk]; rfl
  have c1 : w1.cell? ⟨b, 1, none⟩ = some v := by rw [Lib.cell_of_heap hbk]; rfl
  rw [bs_length] at hown
  have HO := Lib.hid hown; clear hown
  go_wp2_with (at_builtin; refine wpList_own_src rfl (.tmp 12) (.tmp 13) 58 9 rfl b 5 i0 _ 1 1 Tryd.underlying58 hi hz0 hz1 hz2 rfl _ l.length _ rfl HO.out _ s.length (bs s) rfl (srcs Tryd.underlying9 hz1 s) ?c1 ?c2 ?c3 ?_)
  case c1 => unfold maxLen; omega
  case c2 => omega
  case c3 => omega
  intro v' w2 hown' hgrow _
  have hb2 : w2.heap[b]? = some (.cells #[.pointer (some ⟨b, 0, none⟩), v] 60 (0, 0)) := by
    rw [hgrow.block b hlt (fun e => hne e.symm)]
    exact hbk
  have d0 : w2.cell? ⟨b, 0, none⟩ = some (.pointer (some ⟨b, 0, none⟩)) := by rw [Lib.cell_of_heap hb2]; rfl
  have d1 : w2.cell? ⟨b, 1, none⟩ = some v := by rw [Lib.cell_of_heap hb2]; rfl
  have f1 : w2.frozen? ⟨b, 1, none⟩ = false := Lib.frozen_of_heap hb2 1
  have HO2 : Hid (w2.ownsRow b 5 1 v' (bs (l ++ s)).length (bs (l ++ s))) := Lib.hid (by rw [bs_length, List.length_append, bs_append]; exact hown')
  have HB : Hid (Below b w w2) := Lib.hid (hb1.grown hgrow (by omega) (fun k hk => (HO.out.lt k hk).1))
  have HK := Lib.hid hb2; clear hb2
  obtain ⟨ao, n', cap, hv⟩ : ∃ ao n' cap, v' = .slice ao n' cap := by
    obtain ⟨A, c, h, _⟩ := Rd.of_own hown'
    exact ⟨_, _, _, h⟩
  subst hv
  clear hown' hgrow
  go_wp2_with fail
  go_ret2
  exact ⟨by rw [← hsz]; rfl, Lib.BuilderAt.put (T := 60) (e := 5) hB HK.out HO2.out (by decide), HB.out.setCell (p := ⟨b, 1, none⟩) hB _⟩

set_option maxHeartbeats 2000000 in
set_option maxRecDepth 100000 in
theorem bld_bytes (b : Nat) (l s : List UInt8) (A : Option Addr) (n c : Nat) (hn : n = s.length) (w : World) (h : Bld w b l) (hlen : l.length + s.length ≤ 70368744177664) (hr : Rd w A (bs s)) (hA : A = none → s = []) (hAb : ∀ a, A = some a → a.block ≠ b) :
    Calls Tryd.prog 31 #[.pointer (some ⟨b, 0, none⟩), .slice A n c] w fun e w' => e = .returned (.tuple #[.int .i64 s.length, .nilIface]) ∧ BldU w' b (l ++ s) ∧ Below b w w' := by
  subst hn
  obtain ⟨i0, hi, hz0, hz1, hz2⟩ := info_parts Tryd.infoByte
  have HR := Lib.hid (And.intro hr (And.intro hA hAb)); clear hr hA hAb
  go_enter Tryd.func31, Tryd.ntmps31
  go_wp2_with ((go_at_call 54; refine (cc_any b l _ h).mono ?_))
  rintro e w1 ⟨rfl, h1, hb1, hz1', hk1⟩
  obtain ⟨hB, v, hbk, hown, hne⟩ := h1
  have hlt : b < w1.heap.size := (Array.getElem?_eq_some_iff.1 hbk).1
  have hrd1 : Rd w1 A (bs s) := by
    rcases HR.out.1 with h | ⟨g, o, rfl, hc⟩
    · exact .inl h
    · refine .inr ⟨g, o, rfl, fun k u hu => ?_⟩
      rw [← hc k u hu]
      unfold World.cell?
      rw [hk1 g (HR.out.2.2 _ rfl)]
  have c0 : w1.cell? ⟨b, 0, none⟩ = some (.pointer (some ⟨b, 0, none⟩)) := by rw [Lib.cell_of_heap hbk]; rfl
  have c1 : w1.cell? ⟨b, 1, none⟩ = some v := by rw [Lib.cell_of_heap hbk]; rfl
  rw [bs_length] at hown
  have HO := Lib.hid hown; clear hown
  have HR1 := Lib.hid hrd1; clear hrd1 hk1
  go_wp2_with (at_builtin; refine wpList_own_src rfl (.tmp 12) (.tmp 13) 58 58 rfl b 5 i0 _ 1 1 Tryd.underlying58 hi hz0 hz1 hz2 rfl _ l.length _ rfl HO.out _ s.length (bs s) rfl (src_rd (l := s) Tryd.underlying58 hz1 HR1.out HR.out.2.1 c) ?c1 ?c2 ?c3 ?_)
  case c1 => unfold maxLen; omega
  case c2 => omega
  case c3 => omega
  intro v' w2 hown' hgrow _
  have hb2 : w2.heap[b]? = some (.cells #[.pointer (some ⟨b, 0, none⟩), v] 60 (0, 0)) := by
    rw [hgrow.block b hlt (fun e => hne e.symm)]
    exact hbk
  have d0 : w2.cell? ⟨b, 0, none⟩ = some (.pointer (some ⟨b, 0, none⟩)) := by rw [Lib.cell_of_heap hb2]; rfl
  have d1 : w2.cell? ⟨b, 1, none⟩ = some v := by rw [Lib.cell_of_heap hb2]; rfl
  have f1 : w2.frozen? ⟨b, 1, none⟩ = false := Lib.frozen_of_heap hb2 1
  have HO2 : Hid (w2.ownsRow b 5 1 v' (bs (l ++ s)).length (bs (l ++ s))) := Lib.hid (by rw [bs_length, List.length_append, bs_append]; exact hown')
  have HB : Hid (Below b w w2) := Lib.hid (hb1.grown hgrow (by omega) (fun k hk => (HO.out.lt k hk).1))
  have HK := Lib.hid hb2; clear hb2
  obtain ⟨ao, n', cap, hv⟩ : ∃ ao n' cap, v' = .slice ao n' cap := by
    obtain ⟨A, c, h, _⟩ := Rd.of_own hown'
    exact ⟨_, _, _, h⟩
  subst hv
  clear hown' hgrow
  go_wp2_with fail
  go_ret2
  exact ⟨rfl, Lib.BuilderAt.put (T := 60) (e := 5) hB HK.out HO2.out (by decide), HB.out.setCell (p := ⟨b, 1, none⟩) hB _⟩

set_option maxHeartbeats 1000000 in
set_option maxRecDepth 100000 in
theorem bld_string (b : Nat) (l : List UInt8) (w : World) (h : Bld w b l) (h0 : l ≠ []) :
    Calls Tryd.prog 35 #[.pointer (some ⟨b, 0, none⟩)] w fun e w' => e = .returned (.string (sb l)) ∧ Below b w w' := by
  obtain ⟨p, hAt⟩ : ∃ p, Lib.BuilderAt 60 5 b b p (bs l) w := by rcases h with h | h <;> exact ⟨_, h⟩
  obtain ⟨hB, v, hbk, hown, hne⟩ := hAt
  have hl0 : l.length ≠ 0 := by simpa using h0
  rw [bs_length] at hown
  obtain ⟨g, cap, cur, rfl, hbg, hg, hnc, hcm, hcs, htake⟩ : ∃ g cap cur, v = .slice (some ⟨g, 0, none⟩) l.length cap ∧ b ≤ g ∧ w.heap[g]? = some (.cells cur 5 (0, 0)) ∧ l.length ≤ cap ∧ cap ≤ maxLen ∧ cur.size = cap * 1 ∧ cur.toList.take (l.length * 1) = bs l := by
    rcases hown.2 with ⟨_, hz⟩ | ⟨g, cap, cur, hv, r⟩
    · exact absurd hz hl0
    · exact ⟨g, cap, cur, hv, r⟩
  have c1 : w.drew.cell? ⟨b, 1, none⟩ = some (.slice (some ⟨g, 0, none⟩) l.length cap) := by
    have : w.drew.heap[b]? = some (.cells #[p, .slice (some ⟨g, 0, none⟩) l.length cap] 60 (0, 0)) := hbk
    rw [Lib.cell_of_heap this]; rfl
  have hSD : (Builtin.unsafeSliceData_ #[58] 87 #[.slice (some ⟨g, 0, none⟩) l.length cap]).run Tryd.prog w.drew = .ok (.pointer (some ⟨g, 0, none⟩)) w.drew :=
    Lib.run_unsafeSliceData_row _ _ _ _ _ _ (by omega)
  have hUS : (Builtin.unsafeString_ #[87, 3] 9 #[.pointer (some ⟨g, 0, none⟩), .int .i64 l.length]).run Tryd.prog w.drew = .ok (.string (sb l)) (w.drew.freeze ⟨g, 0, none⟩ l.length) := by
    refine Lib.run_unsafeString_row w.drew 87 3 9 5 Tryd.underlying87 Tryd.cellsByte g cur.size (by have hg' : w.drew.heap[g]? = some (.cells cur 5 (0, 0)) := hg; simp [World.shape?, hg']) l h0 (by omega) (by unfold maxLen at hcm; omega) ?_
    intro j x hx
    have := hown.cells (g := g) rfl j (.int .u8 x.toNat) (by simp [bs, by8, hx])
    exact this
  go_enter Tryd.func35, Tryd.ntmps35
  go_wp2
  go_region
  all_goals (go_wp2; go_ret; exact ⟨rfl, Lib.below_freeze (Below.drew (Below.refl b w)) (p := ⟨g, 0, none⟩) hbg _⟩)
end Go.Proofs.YtbgcnfikcddcpaaDoor
