/-
  The reference's count of parts (Few) and its input of a digest (Input), walked.
-/
import Derived.Test.YtbgcnfikcddcpaaDoorHOf
namespace Go.Proofs.YtbgcnfikcddcpaaDoor
open Go.RowKit
open Sha
set_option linter.unusedVariables false
def fewB (l : List (List UInt8)) : Bool := decide (l.length ≤ 12) && l.all fun p => decide (p.length ≤ 400)
theorem strs_cell {w : World} {A : Option Addr} {l : List (List UInt8)} (h : Rd w A (l.map fun p => .string (sb p))) (j : Nat) (hj : j < l.length) : ∃ b o, A = some ⟨b, o, none⟩ ∧ w.cell? ⟨b, o + j, none⟩ = some (.string (sb l[j])) := by
  obtain ⟨b, o, rfl, hc⟩ := h.open (by intro e; rw [List.map_eq_nil_iff] at e; subst e; simp at hj)
  exact ⟨b, o, rfl, hc j _ (by simp [hj])⟩

theorem few_length {l : List (List UInt8)} (h : fewB l = true) : l.length ≤ 12 ∧ ∀ p ∈ l, p.length ≤ 400 := by
  unfold fewB at h
  rw [Bool.and_eq_true] at h
  exact ⟨by simpa using h.1, by simpa using h.2⟩
theorem eB_le (p : List UInt8) : (eB p).length ≤ p.length + 9 := by have := en_len9 p.length; simp [eB]; omega
theorem flat_le (l : List (List UInt8)) (h : ∀ p ∈ l, p.length ≤ 400) : (l.flatMap eB).length ≤ 409 * l.length := by
  induction l with
  | nil => simp
  | cons a r ih =>
    have h1 := eB_le a
    have h2 := h a (by simp)
    have h3 := ih fun p hp => h p (by simp [hp])
    simp only [List.flatMap_cons, List.length_append, List.length_cons]
    omega
/-- Parts whose input is no longer than 10^9 bytes. -/
def Mod (l : List (List UInt8)) : Prop := l.length ≤ 900 ∧ ∀ p ∈ l, p.length ≤ 1000000
theorem flat_mod (l : List (List UInt8)) (h : ∀ p ∈ l, p.length ≤ 1000000) : (l.flatMap eB).length ≤ 1000009 * l.length := by
  induction l with
  | nil => simp
  | cons a r ih =>
    have h1 := eB_le a
    have h2 := h a (by simp)
    have h3 := ih fun p hp => h p (by simp [hp])
    simp only [List.flatMap_cons, List.length_append, List.length_cons]
    omega
theorem mod_input {l : List (List UInt8)} (h : Mod l) (tag : Int) : (input tag l).length ≤ 900008101 := by
  have h2 := flat_mod l h.2
  have h1 := h.1
  rw [input, List.length_cons]
  omega
theorem Mod.of_few {l : List (List UInt8)} (h : fewB l = true) : Mod l := by
  have := few_length h
  exact ⟨by omega, fun p hp => by have := this.2 p hp; omega⟩
theorem few_input {l : List (List UInt8)} (h : fewB l = true) (tag : Int) : (input tag l).length ≤ 4909 := by
  have := few_length h
  have h2 := flat_le l this.2
  rw [input, List.length_cons]
  omega

theorem own_rd {w : World} {base : Nat} {e : TypeId} {v : Value} {l : List UInt8} (h : w.ownsRow base e 1 v l.length (bs l)) : ∃ A c, v = .slice A l.length c ∧ Rd w A (bs l) ∧ (A = none → l = []) := by
  obtain ⟨A, c, hv, hrd, _, _⟩ := Rd.of_own h
  refine ⟨A, c, hv, hrd, fun hA => ?_⟩
  rcases h.2 with ⟨h1, h2⟩ | ⟨g, cap, cur, h1, _⟩
  · exact List.eq_nil_of_length_eq_zero h2
  · rw [hv, hA] at h1
    simp at h1
set_option maxRecDepth 100000 in
set_option maxHeartbeats 1000000 in
theorem rinput_aux (tag : Int) (parts : List (List UInt8)) (I : List UInt8) (hI : I = input tag parts) (A : Option Addr) (c : Nat) (hf : Mod parts) (w : World) (hr : Rd w A (parts.map fun p => .string (sb p))) :
    Calls Tryd.prog 63 #[.int .i64 tag, .slice A parts.length c] w fun e w' => ∃ v', e = .returned v' ∧ w'.ownsRow w.heap.size 5 1 v' I.length (bs I) ∧ Below w.heap.size w w' := by
  obtain ⟨i0, hi0, hz0, hz1, hz2⟩ := info_parts Tryd.info5
  obtain ⟨hl12, hp400⟩ := hf
  obtain ⟨tb, htb⟩ : ∃ b, b = tagb tag := ⟨_, rfl⟩
  have htn := tagb_toNat tag
  rw [← htb] at htn
  have hwr : IntKind.u8.wrap tag = (tb.toNat : Int) := by rw [IntKind.wrap_u8, htn]
  have htn' := htn.symm
  clear htn
  rw [input, ← htb] at hI
  have HI := Lib.hid hI; clear hI htb
  have HR := Lib.hid hr; clear hr
  have HP := Lib.hid hp400; clear hp400
  have HO0 : Hid ((w.alloc (.cells #[.int .u8 tb.toNat] 5)).ownsRow w.heap.size 5 1 (.slice (some ⟨w.heap.size, 0, none⟩) 1 1) 1 (bs [tb])) := Lib.hid (World.ownsRow_lit w #[.int .u8 tb.toNat] 1 (Nat.le_refl _) (by unfold maxLen; omega) rfl)
  go_enter Tryd.func63, Tryd.ntmps63
  go_wp2_with fail
  go_loopg [5, 6] parts.length (fun g s5 s6 wr => ∃ j : Nat, j + g = parts.length ∧ s6 = .int .i64 j ∧ wr.ownsRow w.heap.size 5 1 s5 (tb :: (parts.take j).flatMap eB).length (bs (tb :: (parts.take j).flatMap eB)) ∧ Below w.heap.size w wr)
  case atStart => exact ⟨0, by omega, rfl, by first | exact HO0.out | exact HO0.out.drew, by first | exact below_a1 _ _ | exact (below_a1 _ _).drew⟩
  case round =>
    clear HO0
    obtain ⟨j, hj, rfl, hO, hBl⟩ := hrel
    by_cases hlt : j < parts.length
    · obtain ⟨g, rfl⟩ : ∃ g, gk = g + 1 := ⟨gk - 1, by omega⟩
      obtain ⟨b, o, rfl, hcell⟩ := strs_cell (HR.out.below hBl) j hlt
      obtain ⟨p, hpe⟩ : ∃ p, p = parts[j] := ⟨_, rfl⟩
      rw [← hpe] at hcell
      obtain ⟨M, hM⟩ : ∃ M, M = tb :: (parts.take j).flatMap eB := ⟨_, rfl⟩
      rw [← hM] at hO
      have hps : p.length ≤ 1000000 := HP.out p (by rw [hpe]; simp)
      have hMl : M.length ≤ 1 + 1000009 * j := by
        have := flat_mod (parts.take j) fun p hp => HP.out p (List.mem_of_mem_take hp)
        rw [List.length_take] at this
        rw [hM, List.length_cons]
        omega
      have hN : tb :: (parts.take (j + 1)).flatMap eB = M ++ eB p := by
        rw [List.take_succ_eq_append_getElem hlt, List.flatMap_append, hM, hpe, List.flatMap_singleton]
        rfl
      have hel := eB_le p
      have HPE := Lib.hid (And.intro hpe (And.intro hM hN)); clear hpe hM hN
      have HBL := Lib.hid hBl; clear hBl
      have HO := Lib.hid hO; clear hO
      have hbs := fun W => rbytes_any (sb p) W (by rw [sb_size]; omega)
      rw [sb_list] at hbs
      have HBY := Lib.hid hbs; clear hbs
      go_wp2_with fail
      refine (HBY.out _).mono ?_
      rintro e x1 ⟨u1, rfl, hown1, hb1⟩
      obtain ⟨A1, c1, rfl, hrd1, hne1⟩ := own_rd hown1
      have HR1 := Lib.hid (And.intro hrd1 hne1); clear hrd1 hown1 hne1
      have HX1 : Hid (Below w.heap.size w x1 ∧ x1.ownsRow w.heap.size 5 1 _ M.length (bs M)) := Lib.hid ⟨below_next HBL.out hb1, own_keep HO.out hb1⟩
      clear hb1
      go_wp2_with (at_builtin; refine wpList_own_src rfl (.tmp 16) (.tmp 21) 58 58 rfl w.heap.size 5 i0 _ 1 1 Tryd.underlying58 hi0 hz0 hz1 hz2 rfl _ _ _ rfl HX1.out.2 _ (eB p).length (bs (eB p)) rfl (src_rd (l := eB p) Tryd.underlying58 hz1 HR1.out.1 HR1.out.2 c1) ?c1 ?c2 ?c3 ?_)
      case c1 => unfold maxLen; omega
      case c2 => omega
      case c3 => exact HX1.out.1.size
      intro v3 w3 hown3 hg3 hat3
      have HO3 := Lib.hid hown3
      have HB3 : Hid (Below w.heap.size w w3) := Lib.hid (below_own HX1.out.1 hg3 (fun g hg => (HX1.out.2.lt g hg).1))
      clear hown3 hg3 hat3
      go_wp2_with fail
      go_roundg g
      case rel => exact ⟨j + 1, by omega, by go_num, by rw [HPE.out.2.2, List.length_append, bs_append]; exact HO3.out, HB3.out⟩
      case measure => omega
    · obtain rfl : j = parts.length := by omega
      rw [List.take_length, ← HI.out] at hO
      have HO := Lib.hid hO; clear hO
      have HBL := Lib.hid hBl; clear hBl
      go_wp2_with fail
      go_ret
      exact ⟨_, rfl, HO.out, HBL.out⟩
theorem rinput_mod (tag : Int) (parts : List (List UInt8)) (A : Option Addr) (n c : Nat) (hn : n = parts.length) (hf : Mod parts) (w : World) (hr : Rd w A (parts.map fun p => .string (sb p))) :
    Calls Tryd.prog 63 #[.int .i64 tag, .slice A n c] w fun e w' => ∃ v', e = .returned v' ∧ w'.ownsRow w.heap.size 5 1 v' (input tag parts).length (bs (input tag parts)) ∧ Below w.heap.size w w' := by
  subst hn
  exact rinput_aux tag parts _ rfl A c hf w hr
theorem rinput_any (tag : Int) (parts : List (List UInt8)) (A : Option Addr) (n c : Nat) (hn : n = parts.length) (hf : fewB parts = true) (w : World) (hr : Rd w A (parts.map fun p => .string (sb p))) :
    Calls Tryd.prog 63 #[.int .i64 tag, .slice A n c] w fun e w' => ∃ v', e = .returned v' ∧ w'.ownsRow w.heap.size 5 1 v' (input tag parts).length (bs (input tag parts)) ∧ Below w.heap.size w w' :=
  rinput_mod tag parts A n c hn (Mod.of_few hf) w hr
end Go.Proofs.YtbgcnfikcddcpaaDoor
