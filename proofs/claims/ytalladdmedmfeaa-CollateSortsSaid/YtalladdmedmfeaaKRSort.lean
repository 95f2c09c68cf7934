/-
  The reference's Sort: insertion.
-/
import Derived.Test.YtalladdmedmfeaaKSort
import Derived.Test.YtalladdmedmfeaaKRef2
import Derived.Laws.OwnMore
import Derived.BigQuiet
import Derived.BigRegion
namespace Go.Proofs.Ytalladdmedmfeaa
open Go.RowKit
open Alp
open Col
set_option linter.unusedVariables false
set_option linter.unusedSimpArgs false

namespace KRS
theorem own_form {base T s : Nat} {W : World} {v : Value} {q : Nat} {xs : List Value} (h : W.ownsRow base T s v q xs) (hq : 1 ≤ q) : ∃ g c, v = .slice (some ⟨g, 0, none⟩) q c ∧ base ≤ g ∧ q ≤ c ∧ c ≤ 9223372036854775807 := by
  rcases h.2 with ⟨_, h0⟩ | ⟨g, cap, cur, e, h1, _, h2, h3, _⟩
  · omega
  · exact ⟨g, cap, e, h1, h2, by unfold maxLen at h3; exact h3⟩
/-- The row of the places: p, what stands at k, q. -/
def Row (w : World) (g c i k : Nat) (p q : List Int) (x : Int) (wr : World) : Prop := wr.ownsRow w.heap.size 3 1 (.slice (some ⟨g, 0, none⟩) (i + 1) c) (i + 1) (iv (p ++ x :: q)) ∧ p.length = k ∧ Below w.heap.size w wr
theorem iv_mid (p q : List Int) (x : Int) (k : Nat) (h : p.length = k) : (iv (p ++ x :: q))[k]? = some (.int .i64 x) := by
  subst h
  simp [iv]
theorem iv_set (p q : List Int) (x y : Int) (k : Nat) (h : p.length = k) : (iv (p ++ x :: q)).set k (.int .i64 y) = iv (p ++ y :: q) := by
  subst h
  simp [iv]
section
variable {w wr W : World} {g c i k : Nat} {p q : List Int} {x : Int}
theorem Row.below (h : Row w g c i k p q x wr) (hb : Below wr.heap.size wr W) : Row w g c i k p q x W := ⟨own_keep h.1 hb, h.2.1, below_next h.2.2 hb⟩
theorem Row.lt (h : Row w g c i k p q x wr) : k < i + 1 := by
  have := h.1.1
  rw [iv_length, List.length_append, List.length_cons, h.2.1] at this
  omega
theorem Row.cell (h : Row w g c i k p q x wr) : wr.cell? ⟨g, k, none⟩ = some (.int .i64 x) ∧ wr.frozen? ⟨g, k, none⟩ = false :=
  ⟨by rw [h.1.cellAt k (by have := h.lt; omega)]; exact iv_mid p q x k h.2.1, h.1.frozenAt k⟩
theorem Row.prev (h : Row w g c i k p q x wr) {p0 : List Int} {y : Int} {j : Nat} (hp : p = p0 ++ [y]) (hj : j + 1 = k) : wr.cell? ⟨g, j, none⟩ = some (.int .i64 y) ∧ p0.length = j := by
  have hl : p0.length = j := by have := h.2.1; rw [hp, List.length_append, List.length_singleton] at this; omega
  refine ⟨?_, hl⟩
  rw [h.1.cellAt j (by have := h.lt; omega), hp, List.append_assoc]
  exact iv_mid p0 (x :: q) y j hl
theorem Row.set (h : Row w g c i k p q x wr) (hg : w.heap.size ≤ g) (y : Int) : Row w g c i k p q y (wr.setCell ⟨g, k, none⟩ (.int .i64 y)) := by
  have h1 := (h.1.stored k (.int .i64 y)).1
  rw [iv_set p q x y k h.2.1] at h1
  exact ⟨h1, h.2.1, h.2.2.setCell hg _⟩
theorem Row.back (h : Row w g c i k p q x wr) {p0 : List Int} {y : Int} {j : Nat} (hp : p = p0 ++ [y]) (hj : j + 1 = k) (hx : x = y) : Row w g c i j p0 (y :: q) y wr := by
  have hl := (h.prev hp hj).2
  have h1 := h.1
  rw [hp, hx, List.append_assoc] at h1
  exact ⟨h1, hl, h.2.2⟩
end
theorem upL_succ (i : Nat) : upL (i + 1) = upL i ++ [(i : Int)] := by unfold upL; rw [List.range_succ, List.map_append]; rfl
theorem up_mem {i : Nat} {d : List Int} (h : d.Perm (upL i)) {x : Int} (hx : x ∈ d) : ∃ k : Nat, x = k ∧ k < i := by
  have h2 := h.mem_iff.1 hx
  unfold upL at h2
  obtain ⟨k, hk, e⟩ := List.mem_map.1 h2
  exact ⟨k, e.symm, List.mem_range.1 hk⟩
theorem ins_perm {i : Nat} {d p q : List Int} (h : d.Perm (upL i)) (e : d = p ++ q) : (p ++ (i : Int) :: q).Perm (upL (i + 1)) := by
  rw [upL_succ]
  refine (perm_ins p q i).trans ?_
  rw [← e]
  exact h.append_right _
theorem ins_sd {c : Int → Int → Int} (hc : Cmp c) {i : Nat} {d p q : List Int} (h : d.Perm (upL i)) (hd : Sd c d) (e : d = p ++ q) (hq : ∀ y ∈ q, 0 < c y i) (hp : ∀ y, p.getLast? = some y → c y i ≤ 0) : Sd c (p ++ (i : Int) :: q) := by
  rw [e] at hd
  refine ins_done hc hd (fun y hy => .inl (by have := hc.neg y i; have := hq y hy; omega)) (fun y hy => ?_)
  have hm : y ∈ d := by rw [e]; exact List.mem_append_left _ (List.mem_of_getLast? hy)
  obtain ⟨k, rfl, hk⟩ := up_mem h hm
  have := hp _ hy
  by_cases h0 : c (k : Int) i < 0
  · exact .inl h0
  · exact .inr ⟨by omega, by omega⟩
set_option maxRecDepth 1000000 in
set_option maxHeartbeats 16000000 in
theorem rsort_yes (L : List Lt) (hV : valP L = true) (A A1 : Option Addr) (q cq n c1 : Nat) (ws : List (List Int)) (w : World) (ha : AlR w L A q cq) (hws : WsR w ws A1 n c1) :
    Calls Try.prog 29 #[.slice A q cq, .slice A1 n c1] w (SoPost w L ws) := by
  obtain ⟨i0, hi0, hz0, hz1, hz2⟩ := info_parts Try.infoInt
  obtain ⟨b4, o4, hA4⟩ := ws_or hws
  have HA4 := Lib.hid hA4
  have HW : Hid (AlR w L A q cq ∧ n = ws.length) := Lib.hid ⟨ha, hws.len⟩
  have hn1000 : n ≤ 1000 := hws.few
  have hnc : n ≤ c1 := hws.cap
  have hcm : c1 ≤ 9223372036854775807 := by have := hws.max; unfold maxLen at this; exact this
  have HV : Hid (Calls Try.prog 46 #[.slice A q cq] w (BoolB w true)) := Lib.hid (rvalid_of ha true hV.symm)
  obtain ⟨c, hc⟩ : ∃ c, c = cmpW L ws := ⟨_, rfl⟩
  have HC : Hid (c = cmpW L ws ∧ Cmp c) := Lib.hid ⟨hc, by rw [hc]; exact cmpW_cmp L ws⟩
  clear ha hws hV hA4 hc
  go_enter Try.func29, Try.ntmps29
  go_wp2_with ((with_reducible refine HV.out.mono ?_); rintro e w1 hp; obtain ⟨rfl, hb1⟩ := boolb_out hp; have HB1 : Hid (Below w.heap.size w w1) := Lib.hid hb1; clear hp hb1)
  go_loopg [5, 6, 7] n (fun g s5 s6 s7 wr => ∃ (i : Nat) (d : List Int), i + g = n ∧ s6 = .int .i64 (i : Int) ∧ Hid (wr.ownsRow w.heap.size 3 1 s5 i (iv d) ∧ d.Perm (upL i) ∧ Sd c d ∧ Below w.heap.size w wr))
  case atStart => exact ⟨0, [], by omega, rfl, Lib.hid ⟨⟨rfl, .inl ⟨rfl, rfl⟩⟩, List.Perm.refl _, sd_nil, HB1.out⟩⟩
  case round =>
    obtain ⟨i, d, hi, rfl, HI⟩ := hrel
    obtain ⟨A5, c5, hv, hrd, hmc, hm2⟩ := Rd.of_own HI.out.1
    subst hv
    have HRD := Lib.hid hrd
    clear hrd
    by_cases hlt : i < n
    · obtain ⟨g, rfl⟩ : ∃ g, gk = g + 1 := ⟨gk - 1, by omega⟩
      obtain ⟨rfl, hwa⟩ : A1 = some ⟨b4, o4, none⟩ ∧ WsAt w b4 o4 ws := by
        rcases HA4.out with h | h
        · omega
        · exact h
      have HWA : Hid (∀ k, k < n → ∃ A n c, Hid (∀ W, Below w.heap.size w W → W.cell? ⟨b4, o4 + k, none⟩ = some (.slice A n c) ∧ WdR W (ws.getD k []) A n c)) := Lib.hid fun k hk => by
        obtain ⟨A, n, c, h1, h2⟩ := hwa k (by rw [← HW.out.2]; exact hk)
        exact ⟨A, n, c, Lib.hid fun W hb => ⟨(hb.cell (p := ⟨b4, o4 + k, none⟩) (World.block_lt_of_cell? w _ h1)).trans h1, h2.below hb⟩⟩
      obtain ⟨Ai, ni, ci, HWI⟩ := HWA.out i hlt
      have hs1 : i + 1 ≤ maxLen := by unfold maxLen; omega
      have hs2 : (i + 1) * 8 ≤ 140737488355328 := by omega
      have d1 : decide ((i : Int) < (n : Int)) = true := decide_eq_true (by omega)
      have d2 : decide (i < n) = true := decide_eq_true hlt
      clear hwa
      go_wp2_with (at_builtin; refine wpList_own_src rfl (.tmp 20) (.tmp 22) 22 22 rfl w.heap.size 3 i0 _ 1 8 Try.underlying22 hi0 hz0 hz1 hz2 rfl _ _ _ rfl (own_alc HI.out.1 _) _ 1 [.int .i64 (i : Int)] rfl (src_one Try.underlying22 hz1 _ _ _ rfl) hs1 hs2 (below_al HI.out.2.2.2 _).size ?_; intro v4 w4 hown4 hg4 hat4; have HO4 : Hid (w4.ownsRow w.heap.size 3 1 v4 (i + 1) (iv d ++ [.int .i64 (i : Int)]) ∧ Below w.heap.size w w4) := Lib.hid ⟨hown4, below_own (below_al HI.out.2.2.2 _) hg4 (fun g hg => (HI.out.1.lt _ hg).1)⟩; clear hown4 hg4 hat4; obtain ⟨g4, c4, hv4, hg4, hic4, hcm4⟩ := own_form HO4.out.1 (by omega); subst hv4)
      go_loopg [7] i (fun g s7 wr => ∃ (k : Nat) (p q : List Int) (x : Int), k = g ∧ k ≤ i ∧ s7 = .int .i64 (k : Int) ∧ Hid (Row w g4 c4 i k p q x wr ∧ d = p ++ q ∧ ∀ y ∈ q, 0 < c y i))
      case atStart =>
        exact ⟨i, d, [], (i : Int), rfl, Nat.le_refl _, rfl, Lib.hid ⟨⟨by have := HO4.out.1; simpa [iv] using this, by have := HI.out.2.1.length_eq; rw [upL_length] at this; exact this, HO4.out.2⟩, by simp, fun y hy => by cases hy⟩⟩
      case round =>
        obtain ⟨k, p, qs, x, hkg, hki, rfl, HR⟩ := hrel
        subst hkg
        have HOW : Hid (∀ W, Below wr.heap.size wr W → Row w g4 c4 i k p qs x W ∧ W.cell? ⟨g4, k, none⟩ = some (.int .i64 x) ∧ W.frozen? ⟨g4, k, none⟩ = false) := Lib.hid fun W hb => ⟨HR.out.1.below hb, (HR.out.1.below hb).cell⟩
        have HFIN : Hid ((∀ y, p.getLast? = some y → c y i ≤ 0) → (p ++ (i : Int) :: qs).Perm (upL (i + 1)) ∧ Sd c (p ++ (i : Int) :: qs)) := Lib.hid fun h => ⟨ins_perm HI.out.2.1 HR.out.2.1, ins_sd HC.out.2 HI.out.2.1 HI.out.2.2.1 HR.out.2.1 HR.out.2.2 h⟩
        have HB0 : Hid (Below wr.heap.size wr wr) := Lib.hid (Below.refl _ _)
        by_cases hk0 : k = 0
        · have HE := Lib.hid (HFIN.out (fun y hy => by
            have hl := HR.out.1.2.1
            rw [hk0] at hl
            rw [List.eq_nil_of_length_eq_zero hl] at hy
            cases hy))
          subst hk0
          have hce : ∀ W, Below wr.heap.size wr W → W.cell? ⟨g4, 0, none⟩ = some (.int .i64 x) := fun W hb => (HOW.out W hb).2.1
          have hfz : ∀ W, Below wr.heap.size wr W → W.frozen? ⟨g4, 0, none⟩ = false := fun W hb => (HOW.out W hb).2.2
          have HCE := Lib.hid hce
          have HFZ := Lib.hid hfz
          clear hce hfz
          go_wp2_with fail
          haveI : Nonempty (Wo (Below wr.heap.size wr)) := ⟨⟨wr, HB0.out⟩⟩
          refine wp_region_wo (Below wr.heap.size wr) mixedTry (by kernel_rfl) (below_drewN HB0.out 1) ?_
          repeat (go_big_quiet_step ((fail)))
          refine wpQuiet_nil ?_
          intro x1 hw2
          obtain ⟨⟨x1x, hok⟩, hw3⟩ := hw2
          have hw4 : x1 = x1x := hw3
          subst hw4
          have Hx1 := Lib.hid hok
          clear hw3 hok
          have hce := HCE.out _ Hx1.out
          have hfz := HFZ.out _ Hx1.out
          go_wp2_with fail
          go_roundg g
          case rel => exact ⟨i + 1, p ++ (i : Int) :: qs, by omega, by go_num, Lib.hid ⟨((HOW.out _ Hx1.out).1.set hg4 i).1, HE.out.1, HE.out.2, ((HOW.out _ Hx1.out).1.set hg4 i).2.2⟩⟩
          case measure => omega
        · obtain ⟨jp, hjp⟩ : ∃ jp, jp + 1 = k := ⟨k - 1, by omega⟩
          rcases app_cases p with hp0 | ⟨p0, y, hp0⟩
          · exfalso
            have := HR.out.1.2.1
            rw [hp0] at this
            exact hk0 this.symm
          obtain ⟨yn, hyn, hyi⟩ := up_mem HI.out.2.1 (x := y) (by rw [HR.out.2.1, hp0]; simp)
          subst hyn
          have hyn : yn < n := by omega
          obtain ⟨Ay, ny, cy, HWY⟩ := HWA.out yn hyn
          obtain ⟨R, hR⟩ : ∃ R, R = c (yn : Int) (i : Int) := ⟨_, rfl⟩
          have HU : Hid (∀ W, Below wr.heap.size wr W → Calls Try.prog 49 #[.slice A q cq, .slice Ay ny cy, .slice Ai ni ci, .int .i64 4] W fun e w' => e = .returned (.int .i64 R) ∧ Below wr.heap.size wr w') := Lib.hid fun W hb => (upto_any L A Ay Ai q cq ny cy ni ci 4 (by omega) (ws.getD yn []) (ws.getD i []) R (by rw [hR, HC.out.1]; unfold cmpW wordAt; rw [Int.toNat_natCast, Int.toNat_natCast]) W (HW.out.1.below (below_next HR.out.1.2.2 hb)) (HWY.out W (below_next HR.out.1.2.2 hb)).2 (HWI.out W (below_next HR.out.1.2.2 hb)).2).mono fun e w' hp => ⟨hp.1, below_next hb hp.2⟩
          have l1 : ∀ p : Wo (Below wr.heap.size wr), p.wo.cell? ⟨g4, jp, none⟩ = some (.int .i64 (yn : Int)) := fun p => ((HR.out.1.below p.ok).prev hp0 hjp).1
          have l2 : ∀ p : Wo (Below wr.heap.size wr), p.wo.cell? ⟨b4, o4 + yn, none⟩ = some (.slice Ay ny cy) := fun p => (HWY.out _ (below_next HR.out.1.2.2 p.ok)).1
          have l3 : ∀ p : Wo (Below wr.heap.size wr), p.wo.cell? ⟨b4, o4 + i, none⟩ = some (.slice Ai ni ci) := fun p => (HWI.out _ (below_next HR.out.1.2.2 p.ok)).1
          have hd1 : decide (0 < (k : Int)) = true := decide_eq_true (by omega)
          have hd2 : decide (0 < k) = true := decide_eq_true (by omega)
          have hji : jp < i := by omega
          have z1 : (k : Int) - 1 = (jp : Int) := by omega
          have z2 : IntKind.i64.wrap (jp : Int) = (jp : Int) := by rw [IntKind.wrap_i64]; omega
          have HP0 := Lib.hid hp0
          have HJP := Lib.hid hjp
          have HRV := Lib.hid hR
          clear hp0 hR
          by_cases hr0 : 0 < R
          · have hd3 : decide (0 < R) = true := decide_eq_true hr0
            go_wp2_with fail
            haveI : Nonempty (Wo (Below wr.heap.size wr)) := ⟨⟨wr, HB0.out⟩⟩
            refine wp_region_wo (Below wr.heap.size wr) mixedTry (by kernel_rfl) (below_drewN HB0.out 1) ?_
            repeat (go_big_quiet_step ((go_at_call 49; exact calls_wo HU.out _)))
            refine wpQuiet_nil ?_
            intro x1 hw2
            obtain ⟨⟨x1x, hok⟩, hw3⟩ := hw2
            have hw4 : x1 = x1x := hw3
            subst hw4
            have Hx1 := Lib.hid hok
            clear hw3 hok
            have hce := (HOW.out _ Hx1.out).2.1
            have hfz := (HOW.out _ Hx1.out).2.2
            have hcp := ((HOW.out _ Hx1.out).1.prev HP0.out HJP.out).1
            clear l1 l2 l3
            go_wp2_with fail
            go_roundg (k - 1)
            case rel => exact ⟨jp, p0, (yn : Int) :: qs, (yn : Int), by omega, by omega, by go_num, Lib.hid ⟨((HOW.out _ Hx1.out).1.set hg4 (yn : Int)).back HP0.out HJP.out rfl, by rw [HR.out.2.1, HP0.out]; simp, fun u hu => by
              rcases List.mem_cons.1 hu with rfl | hu
              · rw [← HRV.out]; exact hr0
              · exact HR.out.2.2 u hu⟩⟩
            case measure => omega
          · have hd3 : decide (0 < R) = false := decide_eq_false hr0
            have HE := Lib.hid (HFIN.out (fun u hu => by
              rw [HP0.out] at hu
              simp at hu
              rw [← hu, ← HRV.out]
              omega))
            go_wp2_with fail
            haveI : Nonempty (Wo (Below wr.heap.size wr)) := ⟨⟨wr, HB0.out⟩⟩
            refine wp_region_wo (Below wr.heap.size wr) mixedTry (by kernel_rfl) (below_drewN HB0.out 1) ?_
            repeat (go_big_quiet_step ((go_at_call 49; exact calls_wo HU.out _)))
            refine wpQuiet_nil ?_
            intro x1 hw2
            obtain ⟨⟨x1x, hok⟩, hw3⟩ := hw2
            have hw4 : x1 = x1x := hw3
            subst hw4
            have Hx1 := Lib.hid hok
            clear hw3 hok
            have hce := (HOW.out _ Hx1.out).2.1
            have hfz := (HOW.out _ Hx1.out).2.2
            clear l1 l2 l3
            go_wp2_with fail
            go_roundg g
            case rel => exact ⟨i + 1, p ++ (i : Int) :: qs, by omega, by go_num, Lib.hid ⟨((HOW.out _ Hx1.out).1.set hg4 i).1, HE.out.1, HE.out.2, ((HOW.out _ Hx1.out).1.set hg4 i).2.2⟩⟩
            case measure => omega
    · obtain rfl : i = n := by omega
      go_wp2_with fail
      go_ret
      exact ⟨d, A5, i, c5, rfl, HW.out.2, HI.out.2.1, by rw [← HC.out.1]; exact HI.out.2.2.1, HRD.out, hmc, hm2, HI.out.2.2.2⟩
set_option maxRecDepth 1000000 in
theorem rsort_no (L : List Lt) (A A1 : Option Addr) (q c n c1 : Nat) (hV : valP L = false) (w : World) (ha : AlR w L A q c) :
    Calls Try.prog 29 #[.slice A q c, .slice A1 n c1] w (LPost w []) := by
  have HV : Hid (Calls Try.prog 46 #[.slice A q c] w (BoolB w false)) := Lib.hid (rvalid_of ha false hV.symm)
  clear hV ha
  go_enter Try.func29, Try.ntmps29
  go_wp2_with ((with_reducible refine HV.out.mono ?_); rintro e w1 hp; obtain ⟨rfl, hb1⟩ := boolb_out hp; have HB1 : Hid (Below w.heap.size w w1) := Lib.hid hb1; clear hp hb1)
  go_ret
  exact ⟨none, 0, 0, rfl, rfl, .inl rfl, Nat.le_refl _, Nat.zero_le _, HB1.out⟩
/-- Both sorts give the same list. -/
theorem sort_both (L : List Lt) (ws : List (List Int)) : ∃ d : List Int, ∀ (A A1 : Option Addr) (q cq n c1 : Nat) (w : World), AlR w L A q cq → WsR w ws A1 n c1 →
    (Calls Try.prog 28 #[.slice A q cq, .slice A1 n c1] w (LPost w d)) ∧ (Calls Try.prog 29 #[.slice A q cq, .slice A1 n c1] w (LPost w d)) := by
  cases hV : valP L with
  | false => exact ⟨[], fun A A1 q cq n c1 w ha hw => ⟨sort_no L A A1 q cq n c1 hV w ha, rsort_no L A A1 q cq n c1 hV w ha⟩⟩
  | true =>
    by_cases hex : ∃ d : List Int, d.Perm (upL ws.length) ∧ Sd (cmpW L ws) d
    · obtain ⟨d, hd1, hd2⟩ := hex
      have key : ∀ w e w', SoPost w L ws e w' → LPost w d e w' := fun w e w' hp => by
        obtain ⟨d', A5, n5, c5, he, h1, h2, h3, h4, h5, h6, hb⟩ := so_out hp
        rw [h1] at h2
        have e1 : d' = d := sd_unique (cmpW_cmp L ws) (h2.trans hd1.symm) h3 hd2
        rw [e1] at h4
        exact ⟨A5, c5, n5, he, by rw [h1, hd1.length_eq, upL_length], h4, h5, h6, hb⟩
      exact ⟨d, fun A A1 q cq n c1 w ha hw => ⟨(sort_yes L hV A A1 q cq n c1 ws w ha hw).mono fun e w' hp => key w e w' hp, (rsort_yes L hV A A1 q cq n c1 ws w ha hw).mono fun e w' hp => key w e w' hp⟩⟩
    · refine ⟨[], fun A A1 q cq n c1 w ha hw => ⟨(sort_yes L hV A A1 q cq n c1 ws w ha hw).mono fun e w' hp => ?_, (rsort_yes L hV A A1 q cq n c1 ws w ha hw).mono fun e w' hp => ?_⟩⟩ <;>
      · obtain ⟨d', A5, n5, c5, he, h1, h2, h3, h4, h5, h6, hb⟩ := so_out hp
        rw [h1] at h2
        exact absurd ⟨d', h2, h3⟩ hex
end KRS
end Go.Proofs.Ytalladdmedmfeaa
