/-
  calendar.readDate: the longest date at the beginning of a text.
-/
import Derived.Test.YtkaaejfochdjcaaDoorCRead
import Derived.Test.YtkaaejfochdjcaaDoorWBase2
namespace Go.Proofs.YtkaaejfochdjcaaDoor
open Go.RowKit
open Cal
set_option linter.unusedVariables false
set_option linter.unusedSimpArgs false

theorem Tryd.infoInt : (Tryd.prog.info? 3).map (fun i => (i.zero, i.size, i.bytes)) = some (some (.int .i64 0), 1, 8) := by kernel_rfl
theorem part_enter (args : Array Value) (W : World) : (callFunc 66 args).run Tryd.prog W = .ok (.enter 66 args) W := by kernel_rfl
theorem hp_dash (r : List UInt8) : Lib.hasPrefix r [45] = decide (r.head? = some 45) := by
  cases r with
  | nil => rfl
  | cons c t =>
    by_cases h : c = 45
    · subst h; rfl
    · have h2 : ((45 : UInt8) == c) = false := beq_eq_false_iff_ne.2 (Ne.symm h)
      have h3 : ¬ ((c :: t).head? = some 45) := fun e => h (Option.some.inj e)
      rw [decide_eq_false h3]
      simp [Lib.hasPrefix, List.isPrefixOf, h2]
theorem dash_yes (t : List UInt8) (w : World) : Calls Tryd.prog 67 #[.string (tb (45 :: t)), .string ⟨#[45]⟩] w fun e w' => e = .returned (.bool true) ∧ w = w' :=
  (Tryd.strings_HasPrefix _ _ w).mono fun e w' ⟨he, hw⟩ => ⟨by rw [he, tb_list]; show Ending.returned (.bool (Lib.hasPrefix (45 :: t) [45])) = _; rw [hp_dash]; rfl, hw.symm⟩
theorem dash_no (r : List UInt8) (h : r.head? ≠ some 45) (w : World) : Calls Tryd.prog 67 #[.string (tb r), .string ⟨#[45]⟩] w fun e w' => e = .returned (.bool false) ∧ w = w' :=
  (Tryd.strings_HasPrefix _ _ w).mono fun e w' ⟨he, hw⟩ => ⟨by rw [he, tb_list]; show Ending.returned (.bool (Lib.hasPrefix r [45])) = _; rw [hp_dash, decide_eq_false h], hw.symm⟩
theorem Two.own {w w' : World} {T O base : Nat} {e : TypeId} {size n : Nat} {v : Value} {xs : List Value} (h : Two w w' T O) (hT : T < base) (hO : O < base) (ho : w.ownsRow base e size v n xs) : w'.ownsRow base e size v n xs := by
  refine ⟨ho.1, ?_⟩
  rcases ho.2 with hn | ⟨g, cap, cur, h1, h2, h3, h4⟩
  · exact .inl hn
  · exact .inr ⟨g, cap, cur, h1, h2, (h.1 g (by omega) (by omega)).trans h3, h4⟩
theorem blk_own {w : World} {g base : Nat} {x : Value} {e : TypeId} (h : Blk w g [x] e) (hb : base ≤ g) : w.ownsRow base e 1 (.slice (some ⟨g, 0, none⟩) 1 1) 1 [x] :=
  ⟨rfl, .inr ⟨g, 1, #[x], rfl, hb, h, Nat.le_refl _, by unfold maxLen; omega, rfl, rfl⟩⟩
theorem blk_grown {w w' : World} {row : Option Nat} {g : Nat} {C : List Value} {T : TypeId} (h : Blk w g C T) (hg : w.grownBy w' row) (hr : row ≠ some g) : Blk w' g C T := (hg.block g h.lt (Ne.symm hr)).trans h

def RdPost (w : World) (R : Option (List Int × List UInt8)) (e : Ending) (w' : World) : Prop :=
  ∃ (A : Option Addr) (c n : Nat) (p : List Int) (r : List UInt8) (b : Bool), e = .returned (.tuple #[.slice A n c, .string (tb r), .bool b]) ∧ n = p.length ∧ Rd w' A (iv p) ∧ n ≤ c ∧ c ≤ maxLen ∧ Below w.heap.size w w' ∧ (b = true ∧ R = some (p, r) ∨ b = false ∧ R = none)
/-- What readDate keeps in its loop. -/
def RdI (w : World) (R : Option (List Int × List UInt8)) (j : Nat) (v : Value) (p : List Int) (r : List UInt8) (b : Bool) (wr : World) : Prop :=
  wr.ownsRow (w.heap.size + 2) 3 1 v p.length (iv p) ∧ Blk wr w.heap.size [.string (tb r)] 9 ∧ Blk wr (w.heap.size + 1) [.bool b] 4 ∧ Below w.heap.size w wr ∧ w.heap.size + 2 ≤ wr.heap.size ∧ (b = true ∧ R = rdGo j p r ∨ b = false ∧ R = none)
set_option maxRecDepth 100000 in
set_option maxHeartbeats 2000000 in
theorem readDate_aux (l : List UInt8) (R : Option (List Int × List UInt8)) (hR : R = rd l) (w : World) : Calls Tryd.prog 43 #[.string (tb l)] w (RdPost w R) := by
  have HR := Lib.hid hR
  clear hR
  obtain ⟨i0, hi0, hz0, hz1, hz2⟩ := info_parts Tryd.infoInt
  have hent := part_enter
  have HPC : Hid (∀ (K : Nat), K ≤ 4 → ∀ (r : List UInt8) (b : Bool) (W : World), Blk W w.heap.size [.string (tb r)] 9 → Blk W (w.heap.size + 1) [.bool b] 4 → Calls Tryd.prog 66 #[.int .i64 K, .pointer (some ⟨w.heap.size, 0, none⟩), .pointer (some ⟨w.heap.size + 1, 0, none⟩)] W (PartPost W w.heap.size (w.heap.size + 1) b (nk K 0 r))) :=
    Lib.hid fun K hK r b W h1 h2 => part_any K hK r _ _ (by omega) b W h1 h2
  go_enter Tryd.func43, Tryd.ntmps43
  go_wp2_with (refine (HPC.out 4 (by omega) l true _ ((Blk.at w [.string (tb l)] _ 9 _ rfl rfl).alloc _) (Blk.at _ [.bool true] _ 4 _ rfl (by simp))).mono ?_; rintro e w1 ⟨n1, r1, b1, rfl, hT1, hO1, hTw1, hc1⟩; have HX1 : Hid (Blk w1 w.heap.size [.string (tb r1)] 9 ∧ Blk w1 (w.heap.size + 1) [.bool b1] 4 ∧ Below w.heap.size w w1 ∧ w1.heap.size = w.heap.size + 2 ∧ (nk 4 0 l = some (n1, r1) ∧ b1 = true ∨ nk 4 0 l = none ∧ b1 = false)) := Lib.hid ⟨hT1, hO1, hTw1.below (below_al (below_a1 _ _) _) (by omega) (by omega), by rw [hTw1.size]; simp, hc1⟩; clear hT1 hO1 hTw1 hc1)
  go_loopg [7] 2 (fun g s7 wr => ∃ (p : List Int) (r : List UInt8) (b : Bool), p.length + g = 3 ∧ 1 ≤ p.length ∧ RdI w R g s7 p r b wr)
  case atStart =>
    obtain ⟨hT, hO, hB, hsz, hc⟩ := HX1.out
    refine ⟨[n1], r1, b1, rfl, Nat.le_refl _, blk_own (Blk.at w1 [.int .i64 n1] _ 3 _ rfl rfl) (by omega), hT.alloc _, hO.alloc _, below_al hB _, by simp; omega, ?_⟩
    rw [HR.out]
    unfold rd
    rcases hc with ⟨h1, h2⟩ | ⟨h1, h2⟩
    · exact .inl ⟨h2, by rw [h1]⟩
    · exact .inr ⟨h2, by rw [h1]⟩
  case round =>
    clear HX1
    obtain ⟨p, r, b, hpl, hp1, hI⟩ := hrel
    obtain ⟨m, hm⟩ : ∃ m, m = p.length := ⟨_, rfl⟩
    have HI := Lib.hid hI.2
    obtain ⟨A, c, hv, hrd, hmc, hcm⟩ := Rd.of_own hI.1
    subst hv
    rw [← hm] at hpl hp1 hmc
    have hcT : wr.cell? ⟨w.heap.size, 0, none⟩ = some (.string (tb r)) := hI.2.1.cell rfl
    have hcO : wr.cell? ⟨w.heap.size + 1, 0, none⟩ = some (.bool b) := hI.2.2.1.cell rfl
    have HRD := Lib.hid hrd
    have hcm' : c ≤ 9223372036854775807 := by unfold maxLen at hcm; omega
    have HOWN : Hid (wr.ownsRow (w.heap.size + 2) 3 1 (.slice A m c) m (iv p)) := Lib.hid (by rw [hm]; exact hI.1)
    rw [← hm]
    have HM := Lib.hid hm
    clear hI hrd hm
    by_cases hlt : m < 3
    · obtain ⟨g, rfl⟩ : ∃ g, gk = g + 1 := ⟨gk - 1, by omega⟩
      by_cases hd : r.head? = some 45
      · obtain ⟨t, rfl⟩ : ∃ t, r = 45 :: t := by cases r <;> simp at hd; subst hd; exact ⟨_, rfl⟩
        clear hd
        have hsz : (tb (45 :: t)).size = t.length + 1 := by rw [tb_size]; rfl
        have hcut := tb_cut 45 t
        go_wp2_with (first
          | ((with_reducible refine (dash_yes t _).mono ?_); rintro e w2 ⟨rfl, rfl⟩)
          | (refine wpList_store_one rfl 9 (.tmp 1) (.tmp 20) rfl w.heap.size 0 rfl (.string (tb t)) rfl rfl rfl HI.out.1 (by simp) Tryd.sizeStr ?_; intro w1 hst1; have HX2 : Hid (Blk w1 w.heap.size [.string (tb t)] 9 ∧ Blk w1 (w.heap.size + 1) [.bool b] 4 ∧ Two wr w1 w.heap.size (w.heap.size + 1)) := Lib.hid ⟨hst1.1, hst1.other HI.out.2.1 (by omega), (Two.refl _ _ _).one hst1⟩; clear hst1 hcT hcO)
          | (refine (HPC.out 2 (by omega) t b _ HX2.out.1 HX2.out.2.1).mono ?_; rintro e w3 ⟨n3, r3, b3, rfl, hT3, hO3, hTw3, hc3⟩; have HX3 : Hid (Blk w3 w.heap.size [.string (tb r3)] 9 ∧ Blk w3 (w.heap.size + 1) [.bool b3] 4 ∧ Below w.heap.size w w3 ∧ w.heap.size + 2 ≤ w3.heap.size ∧ w3.ownsRow (w.heap.size + 2) 3 1 (.slice A m c) m (iv p) ∧ (nk 2 0 t = some (n3, r3) ∧ b3 = b ∨ nk 2 0 t = none ∧ b3 = false)) := Lib.hid ⟨hT3, hO3, hTw3.below (HX2.out.2.2.below HI.out.2.2.1 (by omega) (by omega)) (by omega) (by omega), by rw [hTw3.size, HX2.out.2.2.size]; exact HI.out.2.2.2.1, hTw3.own (by omega) (by omega) (HX2.out.2.2.own (by omega) (by omega) HOWN.out), hc3⟩; clear hT3 hO3 hTw3 hc3)
          | (at_builtin; refine wpList_own_src rfl (.tmp 21) (.tmp 24) 47 47 rfl (w.heap.size + 2) 3 i0 _ 1 8 Tryd.underlying47 hi0 hz0 hz1 hz2 rfl _ _ _ rfl (HX3.out.2.2.2.2.1.alloc _) _ 1 [.int .i64 n3] rfl (src_one Tryd.underlying47 hz1 _ _ _ rfl) (by unfold maxLen; omega) (by omega) (by simp; have := HX3.out.2.2.2.1; omega) ?_; intro v4 w4 hown4 hg4 hat4; have HX4 : Hid (w4.ownsRow (w.heap.size + 2) 3 1 v4 (m + 1) (iv p ++ [.int .i64 n3]) ∧ Blk w4 w.heap.size [.string (tb r3)] 9 ∧ Blk w4 (w.heap.size + 1) [.bool b3] 4 ∧ Below w.heap.size w w4 ∧ w.heap.size + 2 ≤ w4.heap.size) := Lib.hid ⟨hown4, blk_grown (HX3.out.1.alloc _) hg4 (fun e => by have := (HX3.out.2.2.2.2.1.lt _ e).1; omega), blk_grown (HX3.out.2.1.alloc _) hg4 (fun e => by have := (HX3.out.2.2.2.2.1.lt _ e).1; omega), below_own (below_al HX3.out.2.2.1 _) hg4 (fun g hg => by have := (HX3.out.2.2.2.2.1.lt _ hg).1; omega), by have := hg4.size; simp at this; have := HX3.out.2.2.2.1; omega⟩; clear hown4 hg4 hat4))
        go_roundg g
        case rel =>
          refine ⟨p ++ [n3], r3, b3, by rw [List.length_append, ← HM.out]; simp; omega, by rw [List.length_append]; simp, ?_, HX4.out.2.1, HX4.out.2.2.1, HX4.out.2.2.2.1, HX4.out.2.2.2.2, ?_⟩
          · rw [List.length_append, ← HM.out]
            simpa [iv] using HX4.out.1
          · rcases HI.out.2.2.2.2 with ⟨hb, hr⟩ | ⟨hb, hr⟩
            · rcases HX3.out.2.2.2.2.2 with ⟨h1, h2⟩ | ⟨h1, h2⟩
              · exact .inl ⟨by rw [h2, hb], by rw [hr, rdGo_dash, h1]⟩
              · exact .inr ⟨h2, by rw [hr, rdGo_dash, h1]⟩
            · rcases HX3.out.2.2.2.2.2 with ⟨h1, h2⟩ | ⟨h1, h2⟩
              · exact .inr ⟨by rw [h2, hb], hr⟩
              · exact .inr ⟨h2, hr⟩
        case measure => omega
      · have HF : Hid (b = true ∧ R = some (p, r) ∨ b = false ∧ R = none) := Lib.hid (by
          rcases HI.out.2.2.2.2 with ⟨hb, hr⟩ | h
          · exact .inl ⟨hb, by rw [hr, rdGo_stop _ _ hd]⟩
          · exact .inr h)
        have HD := Lib.hid hd
        clear hd
        go_wp2_with ((with_reducible refine (dash_no r HD.out _).mono ?_); rintro e w2 ⟨rfl, rfl⟩)
        go_quiet (fail)
        go_wp2_with fail
        go_ret3
        exact ⟨A, c, m, p, r, b, rfl, HM.out, HRD.out, hmc, hcm, below_drewN HI.out.2.2.1 _, HF.out⟩
    · obtain rfl : m = 3 := by omega
      obtain rfl : gk = 0 := by omega
      have HF : Hid (b = true ∧ R = some (p, r) ∨ b = false ∧ R = none) := Lib.hid (by
        rcases HI.out.2.2.2.2 with ⟨hb, hr⟩ | h
        · exact .inl ⟨hb, by rw [hr]; unfold rdGo; rfl⟩
        · exact .inr h)
      go_wp2_with fail
      go_quiet (fail)
      go_wp2_with fail
      go_ret3
      exact ⟨A, c, 3, p, r, b, rfl, HM.out, HRD.out, hmc, hcm, below_drewN HI.out.2.2.1 _, HF.out⟩
theorem readDate_any (l : List UInt8) (w : World) : Calls Tryd.prog 43 #[.string (tb l)] w (RdPost w (rd l)) := readDate_aux l _ rfl w
end Go.Proofs.YtkaaejfochdjcaaDoor
