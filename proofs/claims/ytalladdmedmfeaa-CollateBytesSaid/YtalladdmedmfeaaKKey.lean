/-
  collate.Key, the reference's Key.
-/
import Derived.Test.YtalladdmedmfeaaKRef2
import Derived.Test.YtalladdmedmfeaaKFresh
namespace Go.Proofs.Ytalladdmedmfeaa
open Go.RowKit
open Alp
open Col
set_option linter.unusedVariables false
set_option linter.unusedSimpArgs false

def kd (L : List Lt) (w : List Int) : Nat → List Int
  | 0 => []
  | j + 1 => keyN L w j
def kb (L : List Lt) (w : List Int) : Nat → List Int
  | 0 => []
  | j + 1 => keyN L w j ++ [0]
theorem keyN_eq (L : List Lt) (w : List Int) (j : Nat) : keyN L w j = kb L w j ++ inc (lev L j w) := by
  cases j with
  | zero => rfl
  | succ j => show keyN L w j ++ 0 :: inc _ = (keyN L w j ++ [0]) ++ inc _; simp
theorem kd_len (L : List Lt) (w : List Int) (n : Nat) (hn : (ltr L.length w).length = n) (j : Nat) : (kd L w j).length ≤ j * (n + 1) ∧ (kb L w j).length ≤ j * (n + 1) := by
  induction j with
  | zero => exact ⟨Nat.zero_le _, Nat.zero_le _⟩
  | succ j ih =>
    have e : (keyN L w j).length = (kb L w j).length + n := by rw [keyN_eq, List.length_append]; unfold inc; rw [List.length_map, lev_length, hn]
    have e2 : (j + 1) * (n + 1) = j * (n + 1) + (n + 1) := Nat.succ_mul _ _
    constructor
    · show (keyN L w j).length ≤ _
      omega
    · show (keyN L w j ++ [0]).length ≤ _
      rw [List.length_append]
      simp only [List.length_cons, List.length_nil]
      omega
theorem inc_snoc (l : List Int) (x : Int) : inc (l ++ [x]) = inc l ++ [x + 1] := by simp [inc]
/-- The row of a key that is being built. -/
def KyI (w : World) (D : List Int) (v : Value) (wr : World) : Prop := wr.ownsRow w.heap.size 3 1 v D.length (iv D) ∧ Below w.heap.size w wr
theorem KyI.snoc {w wr : World} {D : List Int} {x : Int} {v : Value} (h : wr.ownsRow w.heap.size 3 1 v (D.length + 1) (iv D ++ [.int .i64 x]) ∧ Below w.heap.size w wr) : KyI w (D ++ [x]) v wr := by
  unfold KyI
  rw [iv_snoc, List.length_append]
  exact h
theorem lev_map {L : List Lt} {q : Nat} (hq : q = L.length) {j : Nat} {w : List Int} : lev L j w = (ltr q w).map (num L j) := by rw [hq]; rfl
theorem KyI.bel {w wr : World} {D : List Int} {v : Value} (h : KyI w D v wr) : Below w.heap.size w wr := h.2
theorem KyI.below {w wr w2 : World} {D : List Int} {v : Value} (h : KyI w D v wr) (hb : Below wr.heap.size wr w2) : KyI w D v w2 := ⟨own_keep h.1 hb, below_next h.2 hb⟩
theorem val_len {L : List Lt} (hV : valP L = true) : L.length ≤ 60 := ((valP_iff L).1 hV).2.1
theorem val_ok {L : List Lt} (hV : valP L = true) {x : Nat} (hx : x < L.length) : (0 ≤ (L.getD x z).base ∧ (L.getD x z).base < L.length) ∧ (0 ≤ (L.getD x z).mark ∧ (L.getD x z).mark ≤ 15) ∧ (0 ≤ (L.getD x z).cas ∧ (L.getD x z).cas ≤ 1) := by
  have h := (lok_iff _ _ _).1 (((valP_iff L).1 hV).2.2.1 x hx)
  exact ⟨h.2.1, h.2.2.2.1, h.2.2.2.2.1⟩
/-- The row v is not the block b3, which is what it was. -/
def Apart (w3 wi : World) (b3 : Nat) (v : Value) : Prop := v.ownBlock ≠ some b3 ∧ wi.heap[b3]? = w3.heap[b3]? ∧ b3 < wi.heap.size
theorem apart_step {w3 wi w4 : World} {b3 n3 : Nat} {v v4 : Value} {o : Obj} (h : n3 = 0 ∨ Apart w3 wi b3 v) (hg : (wi.alloc o).grownBy w4 v.ownBlock) (hat : v4.ownBlock = v.ownBlock ∨ v4.ownBlock = some (wi.alloc o).heap.size) : n3 = 0 ∨ Apart w3 w4 b3 v4 := by
  rcases h with h | ⟨h1, h2, h3⟩
  · exact .inl h
  · have hs : b3 < (wi.alloc o).heap.size := by simp; omega
    refine .inr ⟨?_, ?_, ?_⟩
    · rcases hat with e | e
      · rw [e]; exact h1
      · rw [e]; intro e2; have := Option.some.inj e2; omega
    · exact (hg.block b3 hs (fun e => h1 e.symm)).trans ((Below.heap_alloc wi o b3 h3).trans h2)
    · exact Nat.lt_of_lt_of_le hs hg.size
theorem apart_start {w w3 : World} {R : List Int} {A3 : Option Addr} {n3 c3 b3 o3 : Nat} {v : Value} (h : WdR w3 R A3 n3 c3) (ha : n3 = 0 ∨ (A3 = some ⟨b3, o3, none⟩ ∧ IL w3 b3 o3 R)) (hfr : ∀ p, A3 = some p → w.heap.size ≤ p.block) (hv : ∀ k, v.ownBlock = some k → k < w.heap.size) : n3 = 0 ∨ Apart w3 w3 b3 v := by
  by_cases h0 : n3 = 0
  · exact .inl h0
  · rcases ha with ha | ⟨rfl, hil⟩
    · exact .inl ha
    · have h6 : w.heap.size ≤ b3 := hfr _ rfl
      exact .inr ⟨fun e => by have := hv _ e; omega, rfl, World.block_lt_of_cell? w3 _ (hil 0 (by rw [← h.len]; omega))⟩
theorem apart_cell {w3 wi : World} {b3 o : Nat} {u v : Value} (h : Apart w3 wi b3 u) (hc : w3.cell? ⟨b3, o, none⟩ = some v) : wi.cell? ⟨b3, o, none⟩ = some v := by
  rw [← hc]
  exact World.cell?_of_block h.2.1
theorem num_bd {L : List Lt} (hV : valP L = true) {q : Nat} (hq : q = L.length) (j : Nat) {x : Nat} (hx : x < q) : -9223372036854775808 ≤ num L j (x : Int) ∧ num L j (x : Int) ≤ 9223372036854775806 := by
  subst hq
  have h60 := val_len hV
  have hl := val_ok hV hx
  match j with
  | 0 => show _ ≤ (L.getD ((x : Int)).toNat z).base ∧ (L.getD ((x : Int)).toNat z).base ≤ _; rw [Int.toNat_natCast]; omega
  | 1 => show _ ≤ (L.getD ((x : Int)).toNat z).mark ∧ (L.getD ((x : Int)).toNat z).mark ≤ _; rw [Int.toNat_natCast]; omega
  | 2 => show _ ≤ (L.getD ((x : Int)).toNat z).cas ∧ (L.getD ((x : Int)).toNat z).cas ≤ _; rw [Int.toNat_natCast]; omega
  | j + 3 => show _ ≤ (x : Int) ∧ (x : Int) ≤ _; omega
set_option maxRecDepth 1000000 in
set_option maxHeartbeats 8000000 in
theorem key_no (L : List Lt) (A A1 : Option Addr) (q c n1 c1 : Nat) (hV : valP L = false) (w : World) (ha : AlR w L A q c) :
    Calls Try.prog 18 #[.slice A q c, .slice A1 n1 c1] w (LPost w []) := by
  have HV : Hid (Calls Try.prog 43 #[.slice A q c] w (BoolB w false)) := Lib.hid (valid_of ha false hV.symm)
  clear hV ha
  go_enter Try.func18, Try.ntmps18
  go_wp2_with ((with_reducible refine HV.out.mono ?_); rintro e w1 hp; obtain ⟨rfl, hb1⟩ := boolb_out hp; have HB1 : Hid (Below w.heap.size w w1) := Lib.hid hb1; clear hp hb1)
  go_ret
  exact ⟨none, 0, 0, rfl, rfl, .inl rfl, Nat.le_refl _, Nat.zero_le _, HB1.out⟩
set_option maxRecDepth 1000000 in
set_option maxHeartbeats 16000000 in
theorem key_yes (L : List Lt) (A A1 : Option Addr) (q c n1 c1 : Nat) (l : List Int) (hV : valP L = true) (w : World) (ha : AlR w L A q c) (h1 : WdR w l A1 n1 c1) :
    Calls Try.prog 18 #[.slice A q c, .slice A1 n1 c1] w (LPost w (keyN L l 3)) := by
  obtain ⟨i0, hi0, hz0, hz1, hz2⟩ := info_parts Try.infoInt
  have HV : Hid (Calls Try.prog 43 #[.slice A q c] w (BoolB w true)) := Lib.hid (valid_of ha true hV.symm)
  obtain ⟨b, o, rfl, hrl⟩ := rl_open ha.rd (val_ne hV)
  have HX : Hid (AlR w L (some ⟨b, o, none⟩) q c ∧ RL w b o L ∧ WdR w l A1 n1 c1) := Lib.hid ⟨ha, hrl, h1⟩
  have HNB : Hid (∀ (j : Nat) (x : Nat), x < q → -9223372036854775808 ≤ num L j (x : Int) ∧ num L j (x : Int) ≤ 9223372036854775806) := Lib.hid fun j x hx => num_bd hV ha.len j hx
  have hlq : n1 ≤ 100000 := h1.few
  have HLT : Hid ((ltr q l).length ≤ 100000) := Lib.hid (by have := ltr_length q l; have := h1.len; omega)
  clear ha hV h1 hrl
  go_enter Try.func18, Try.ntmps18
  go_wp2_with (first
    | ((with_reducible refine HV.out.mono ?_); rintro e w1 hp; obtain ⟨rfl, hb1⟩ := boolb_out hp; have HB1 : Hid (Below w.heap.size w w1) := Lib.hid hb1; clear hp hb1)
    | ((with_reducible refine (letters_wd (HX.out.1.below HB1.out) (HX.out.2.2.below HB1.out)).mono ?_); rintro e w3 ⟨A3, n3, c3, rfl, hw3, hb⟩; have HB3 : Hid (WdR w3 (ltr q l) A3 n3 c3 ∧ Below w.heap.size w w3) := Lib.hid ⟨hw3, below_next HB1.out hb⟩; clear hb; have hn3 : n3 ≤ 100000 := (by have := hw3.len; have := HLT.out; omega); have hc3 : n3 ≤ c3 := hw3.cap; have hc3m : c3 ≤ 9223372036854775807 := (by have := hw3.max; unfold maxLen at this; omega); clear hw3)
    | ((with_reducible refine (levels_any _ _ _ _).mono ?_); rintro e w2 hp; obtain ⟨g, rfl, ht, hb⟩ := tab_out hp; have HB2 : Hid (Below w3.heap.size w3 w2 ∧ Below w.heap.size w w2) := Lib.hid ⟨hb, below_next HB3.out.2 hb⟩; obtain ⟨B, htb⟩ := ht; have HT : Hid (TabB w2 (.slice (some ⟨b, o, none⟩) q c) g B) := Lib.hid htb; clear hp hb htb; obtain ⟨N, hN⟩ : ∃ N, N = 4 * (n3 + 1) := ⟨_, rfl⟩; have hNI : 4 * ((n3 : Int) + 1) = (N : Int) := (by omega); have hN2 : N ≤ 1000000 := (by omega); have hmk := fun W => run_make_ints0 N (by omega) W; obtain ⟨Z, hZ⟩ : ∃ Z, Z = (iv (List.replicate N 0)).toArray := ⟨_, rfl⟩; rw [← hZ] at hmk; have HK0 : Hid (KyI w2 [] (.slice (some ⟨w2.heap.size, 0, none⟩) 0 N) (w2.alloc (.cells Z 3))) := Lib.hid ⟨own_made w2 N hN2 Z hZ, below_a1 _ _⟩; clear hZ hN))
  have HW3 : Hid (WdR w2 (ltr q l) A3 n3 c3) := Lib.hid (HB3.out.1.below HB2.out.1)
  obtain ⟨b3, o3, ha3⟩ := il_or HW3.out.len HW3.out.rd
  have HA3 := Lib.hid ha3
  clear ha3
  go_loopg [7, 8, 9, 11, 29] 4 (fun gg s7 s8 s9 s11 s29 wr => ∃ (j : Nat), j + gg = 4 ∧ s29 = .int .i64 (j : Int) ∧ Hid (KyI w2 (kd L l j) s7 wr))
  case atStart => exact ⟨0, by omega, rfl, HK0⟩
  case round =>
    clear HK0
    obtain ⟨j, hj, rfl, HI⟩ := hrel
    by_cases hlt : j < 4
    · obtain ⟨gg, rfl⟩ : ∃ x, gk = x + 1 := ⟨gk - 1, by omega⟩
      rcases (by omega : j = 0 ∨ j = 1 ∨ j = 2 ∨ j = 3) with rfl | rfl | rfl | rfl
      · have hcf : wr.cell? ⟨g, 0, none⟩ = some (.func (.func 56) #[] #[.pointer (some ⟨B, 0, none⟩)]) := by first | exact (TabB.below HT.out HI.out.2).2 0 _ rfl | exact (TabB.below HT.out HI.out.2).2 0 _ (by rfl)
        have HCL : Hid (∀ W, Below w2.heap.size w2 W → ∀ x : Nat, x < q → ∀ y, y = num L 0 (x : Int) → Calls Try.prog 56 #[.int .i64 (x : Int), .pointer (some ⟨B, 0, none⟩)] W fun e w' => e = .returned (.int .i64 y) ∧ w' = W) := Lib.hid fun W hb x hx y hy => lv0_any L b o B x q c HX.out.1.len hx HX.out.1.cap HX.out.1.max y hy W ((hb.cell (p := ⟨B, 0, none⟩) (World.block_lt_of_cell? w2 _ HT.out.1)).trans HT.out.1) (HX.out.2.1.below (below_next HB2.out.2 hb))
        obtain ⟨D, hD⟩ : ∃ D, D = kd L l 0 := ⟨_, rfl⟩
        have HD0 := Lib.hid hD
        have hDl : D.length + n3 ≤ 1000000 := by rw [hD]; have := (kd_len L l n3 (by rw [← HX.out.1.len]; exact HW3.out.len.symm) 0).1; have := hn3; omega
        have HK1 : Hid (KyI w2 D u7 wr) := Lib.hid (by rw [hD]; exact HI.out)
        have hs1 : D.length + 1 ≤ maxLen := by unfold maxLen; omega
        have hs2 : (D.length + 1) * 8 ≤ 140737488355328 := by omega
        clear hD
        obtain ⟨E, hE⟩ : ∃ E, E = D := ⟨_, rfl⟩
        have HE : Hid (E = kb L l 0) := Lib.hid (by rw [hE, HD0.out]; rfl)
        have hEl : E.length + n3 ≤ 1000001 := by rw [hE]; omega
        have HST : Hid (KyI w2 E u7 wr) := Lib.hid (by rw [hE]; exact HK1.out)
        go_wp2_with fail
        clear hE hs1 hs2 hDl HK1 HI 
        go_loopg [7, 11, 41] n3 (fun gi s7 s11 s41 wi => ∃ (i : Nat) (D : List Int), i + gi = n3 ∧ D.length + gi ≤ 1000001 ∧ s41 = .int .i64 (i : Int) ∧ Hid (D = E ++ inc (((ltr q l).take i).map (num L 0)) ∧ KyI w2 D s7 wi))
        case atStart => exact ⟨0, E, by omega, hEl, rfl, Lib.hid ⟨by simp [inc], HST.out⟩⟩
        case round =>
          clear HST hEl
          obtain ⟨i, D, hi, hDl, rfl, HJ⟩ := hrel
          by_cases hlt2 : i < n3
          · obtain ⟨gi, rfl⟩ : ∃ x, gk = x + 1 := ⟨gk - 1, by omega⟩
            have hkl : i < (ltr q l).length := by rw [← HW3.out.len]; exact hlt2
            obtain ⟨x, hx, hxq⟩ := inL_at (inL_ltr q l) hkl
            obtain ⟨rfl, hil⟩ : A3 = some ⟨b3, o3, none⟩ ∧ IL w2 b3 o3 (ltr q l) := by
              rcases HA3.out with h | h
              · omega
              · exact h
            have hcx : wr.cell? ⟨b3, o3 + i, none⟩ = some (.int .i64 (x : Int)) := hil.at HJ.out.2.2 hkl hx
            obtain ⟨y, hy⟩ : ∃ y, y = num L 0 (x : Int) := ⟨_, rfl⟩
            have HCC : Hid (Calls Try.prog 56 #[.int .i64 (x : Int), .pointer (some ⟨B, 0, none⟩)] wr fun e w' => e = .returned (.int .i64 y) ∧ w' = wr) := Lib.hid (HCL.out wr HJ.out.2.2 x hxq y hy)
            have hyb : -9223372036854775808 ≤ y ∧ y ≤ 9223372036854775806 := by rw [hy]; exact HNB.out 0 x hxq
            obtain ⟨hyb1, hyb2⟩ := hyb
            have HS : Hid (D ++ [y + 1] = E ++ inc (((ltr q l).take (i + 1)).map (num L 0))) := Lib.hid (by
              rw [List.take_succ_eq_append_getElem hkl, show (ltr q l)[i] = (x : Int) by rw [hx]; simp [List.getD, hkl], List.map_append, List.map_cons, List.map_nil, inc_snoc, ← hy, HJ.out.1, List.append_assoc])
            have HK2 : Hid (KyI w2 D u7 wr) := Lib.hid HJ.out.2
            have hs1 : D.length + 1 ≤ maxLen := by unfold maxLen; omega
            have hs2 : (D.length + 1) * 8 ≤ 140737488355328 := by omega
            clear hx hil hy
            go_wp2_with (first
              | ((with_reducible refine HCC.out.mono ?_); rintro e w0 ⟨rfl, rfl⟩)
              | (at_builtin; refine wpList_own_src rfl (.tmp 45) (.tmp 50) 22 22 rfl w2.heap.size 3 i0 _ 1 8 Try.underlying22 hi0 hz0 hz1 hz2 rfl _ _ _ rfl (own_alc HK2.out.1 _) _ 1 [.int .i64 (y + 1)] rfl (src_one Try.underlying22 hz1 _ _ _ rfl) hs1 hs2 (below_al HK2.out.2 _).size ?_; intro HYv HYw hown4 hg4 hat4; have HY : Hid (KyI w2 (D ++ [(y + 1)]) HYv HYw) := Lib.hid (KyI.snoc ⟨hown4, below_own (below_al HK2.out.2 _) hg4 (fun g hg => (HK2.out.1.lt _ hg).1)⟩); clear hown4 hg4 hat4))
            go_roundg gi
            case rel => exact ⟨i + 1, D ++ [y + 1], by omega, by simp only [List.length_append, List.length_cons, List.length_nil]; omega, by go_num, Lib.hid ⟨HS.out, HY.out⟩⟩
            case measure => omega
          · obtain rfl : i = n3 := by omega
            have HF : Hid (KyI w2 (kd L l 1) u7 wr) := Lib.hid (by
              have e : kd L l 1 = D := by
                show keyN L l 0 = D
                rw [keyN_eq, HJ.out.1, HE.out, lev_map HX.out.1.len, HW3.out.len, List.take_length]
              rw [e]; exact HJ.out.2)
            go_wp2_with fail
            go_roundg gg
            case rel => exact ⟨0 + 1, by omega, by go_num, HF⟩
            case measure => omega
      · have hcf : wr.cell? ⟨g, 1, none⟩ = some (.func (.func 57) #[] #[.pointer (some ⟨B, 0, none⟩)]) := by first | exact (TabB.below HT.out HI.out.2).2 1 _ rfl | exact (TabB.below HT.out HI.out.2).2 1 _ (by rfl)
        have HCL : Hid (∀ W, Below w2.heap.size w2 W → ∀ x : Nat, x < q → ∀ y, y = num L 1 (x : Int) → Calls Try.prog 57 #[.int .i64 (x : Int), .pointer (some ⟨B, 0, none⟩)] W fun e w' => e = .returned (.int .i64 y) ∧ w' = W) := Lib.hid fun W hb x hx y hy => lv1_any L b o B x q c HX.out.1.len hx HX.out.1.cap HX.out.1.max y hy W ((hb.cell (p := ⟨B, 0, none⟩) (World.block_lt_of_cell? w2 _ HT.out.1)).trans HT.out.1) (HX.out.2.1.below (below_next HB2.out.2 hb))
        obtain ⟨D, hD⟩ : ∃ D, D = kd L l 1 := ⟨_, rfl⟩
        have HD0 := Lib.hid hD
        have hDl : D.length + n3 ≤ 1000000 := by rw [hD]; have := (kd_len L l n3 (by rw [← HX.out.1.len]; exact HW3.out.len.symm) 1).1; have := hn3; omega
        have HK1 : Hid (KyI w2 D u7 wr) := Lib.hid (by rw [hD]; exact HI.out)
        have hs1 : D.length + 1 ≤ maxLen := by unfold maxLen; omega
        have hs2 : (D.length + 1) * 8 ≤ 140737488355328 := by omega
        clear hD
        go_wp2_with (at_builtin; refine wpList_own_src rfl (.tmp 36) (.tmp 37) 22 22 rfl w2.heap.size 3 i0 _ 1 8 Try.underlying22 hi0 hz0 hz1 hz2 rfl _ _ _ rfl (own_alc HK1.out.1 _) _ 1 [.int .i64 0] rfl (src_one Try.underlying22 hz1 _ _ _ rfl) hs1 hs2 (below_al HK1.out.2 _).size ?_; intro HZv HZw hown4 hg4 hat4; have HZ : Hid (KyI w2 (D ++ [0]) HZv HZw) := Lib.hid (KyI.snoc ⟨hown4, below_own (below_al HK1.out.2 _) hg4 (fun g hg => (HK1.out.1.lt _ hg).1)⟩); clear hown4 hg4 hat4)
        obtain ⟨E, hE⟩ : ∃ E, E = D ++ [0] := ⟨_, rfl⟩
        have HE : Hid (E = kb L l 1) := Lib.hid (by rw [hE, HD0.out]; rfl)
        have hEl : E.length + n3 ≤ 1000001 := by rw [hE]; simp only [List.length_append, List.length_cons, List.length_nil]; omega
        have HST : Hid (KyI w2 E HZv HZw) := Lib.hid (by rw [hE]; exact HZ.out)
        clear hE hs1 hs2 hDl HK1 HI HZ
        go_loopg [7, 11, 41] n3 (fun gi s7 s11 s41 wi => ∃ (i : Nat) (D : List Int), i + gi = n3 ∧ D.length + gi ≤ 1000001 ∧ s41 = .int .i64 (i : Int) ∧ Hid (D = E ++ inc (((ltr q l).take i).map (num L 1)) ∧ KyI w2 D s7 wi))
        case atStart => exact ⟨0, E, by omega, hEl, rfl, Lib.hid ⟨by simp [inc], HST.out⟩⟩
        case round =>
          clear HST hEl
          obtain ⟨i, D, hi, hDl, rfl, HJ⟩ := hrel
          by_cases hlt2 : i < n3
          · obtain ⟨gi, rfl⟩ : ∃ x, gk = x + 1 := ⟨gk - 1, by omega⟩
            have hkl : i < (ltr q l).length := by rw [← HW3.out.len]; exact hlt2
            obtain ⟨x, hx, hxq⟩ := inL_at (inL_ltr q l) hkl
            obtain ⟨rfl, hil⟩ : A3 = some ⟨b3, o3, none⟩ ∧ IL w2 b3 o3 (ltr q l) := by
              rcases HA3.out with h | h
              · omega
              · exact h
            have hcx : wr.cell? ⟨b3, o3 + i, none⟩ = some (.int .i64 (x : Int)) := hil.at HJ.out.2.2 hkl hx
            obtain ⟨y, hy⟩ : ∃ y, y = num L 1 (x : Int) := ⟨_, rfl⟩
            have HCC : Hid (Calls Try.prog 57 #[.int .i64 (x : Int), .pointer (some ⟨B, 0, none⟩)] wr fun e w' => e = .returned (.int .i64 y) ∧ w' = wr) := Lib.hid (HCL.out wr HJ.out.2.2 x hxq y hy)
            have hyb : -9223372036854775808 ≤ y ∧ y ≤ 9223372036854775806 := by rw [hy]; exact HNB.out 1 x hxq
            obtain ⟨hyb1, hyb2⟩ := hyb
            have HS : Hid (D ++ [y + 1] = E ++ inc (((ltr q l).take (i + 1)).map (num L 1))) := Lib.hid (by
              rw [List.take_succ_eq_append_getElem hkl, show (ltr q l)[i] = (x : Int) by rw [hx]; simp [List.getD, hkl], List.map_append, List.map_cons, List.map_nil, inc_snoc, ← hy, HJ.out.1, List.append_assoc])
            have HK2 : Hid (KyI w2 D u7 wr) := Lib.hid HJ.out.2
            have hs1 : D.length + 1 ≤ maxLen := by unfold maxLen; omega
            have hs2 : (D.length + 1) * 8 ≤ 140737488355328 := by omega
            clear hx hil hy
            go_wp2_with (first
              | ((with_reducible refine HCC.out.mono ?_); rintro e w0 ⟨rfl, rfl⟩)
              | (at_builtin; refine wpList_own_src rfl (.tmp 45) (.tmp 50) 22 22 rfl w2.heap.size 3 i0 _ 1 8 Try.underlying22 hi0 hz0 hz1 hz2 rfl _ _ _ rfl (own_alc HK2.out.1 _) _ 1 [.int .i64 (y + 1)] rfl (src_one Try.underlying22 hz1 _ _ _ rfl) hs1 hs2 (below_al HK2.out.2 _).size ?_; intro HYv HYw hown4 hg4 hat4; have HY : Hid (KyI w2 (D ++ [(y + 1)]) HYv HYw) := Lib.hid (KyI.snoc ⟨hown4, below_own (below_al HK2.out.2 _) hg4 (fun g hg => (HK2.out.1.lt _ hg).1)⟩); clear hown4 hg4 hat4))
            go_roundg gi
            case rel => exact ⟨i + 1, D ++ [y + 1], by omega, by simp only [List.length_append, List.length_cons, List.length_nil]; omega, by go_num, Lib.hid ⟨HS.out, HY.out⟩⟩
            case measure => omega
          · obtain rfl : i = n3 := by omega
            have HF : Hid (KyI w2 (kd L l 2) u7 wr) := Lib.hid (by
              have e : kd L l 2 = D := by
                show keyN L l 1 = D
                rw [keyN_eq, HJ.out.1, HE.out, lev_map HX.out.1.len, HW3.out.len, List.take_length]
              rw [e]; exact HJ.out.2)
            go_wp2_with fail
            go_roundg gg
            case rel => exact ⟨1 + 1, by omega, by go_num, HF⟩
            case measure => omega
      · have hcf : wr.cell? ⟨g, 2, none⟩ = some (.func (.func 58) #[] #[.pointer (some ⟨B, 0, none⟩)]) := by first | exact (TabB.below HT.out HI.out.2).2 2 _ rfl | exact (TabB.below HT.out HI.out.2).2 2 _ (by rfl)
        have HCL : Hid (∀ W, Below w2.heap.size w2 W → ∀ x : Nat, x < q → ∀ y, y = num L 2 (x : Int) → Calls Try.prog 58 #[.int .i64 (x : Int), .pointer (some ⟨B, 0, none⟩)] W fun e w' => e = .returned (.int .i64 y) ∧ w' = W) := Lib.hid fun W hb x hx y hy => lv2_any L b o B x q c HX.out.1.len hx HX.out.1.cap HX.out.1.max y hy W ((hb.cell (p := ⟨B, 0, none⟩) (World.block_lt_of_cell? w2 _ HT.out.1)).trans HT.out.1) (HX.out.2.1.below (below_next HB2.out.2 hb))
        obtain ⟨D, hD⟩ : ∃ D, D = kd L l 2 := ⟨_, rfl⟩
        have HD0 := Lib.hid hD
        have hDl : D.length + n3 ≤ 1000000 := by rw [hD]; have := (kd_len L l n3 (by rw [← HX.out.1.len]; exact HW3.out.len.symm) 2).1; have := hn3; omega
        have HK1 : Hid (KyI w2 D u7 wr) := Lib.hid (by rw [hD]; exact HI.out)
        have hs1 : D.length + 1 ≤ maxLen := by unfold maxLen; omega
        have hs2 : (D.length + 1) * 8 ≤ 140737488355328 := by omega
        clear hD
        go_wp2_with (at_builtin; refine wpList_own_src rfl (.tmp 36) (.tmp 37) 22 22 rfl w2.heap.size 3 i0 _ 1 8 Try.underlying22 hi0 hz0 hz1 hz2 rfl _ _ _ rfl (own_alc HK1.out.1 _) _ 1 [.int .i64 0] rfl (src_one Try.underlying22 hz1 _ _ _ rfl) hs1 hs2 (below_al HK1.out.2 _).size ?_; intro HZv HZw hown4 hg4 hat4; have HZ : Hid (KyI w2 (D ++ [0]) HZv HZw) := Lib.hid (KyI.snoc ⟨hown4, below_own (below_al HK1.out.2 _) hg4 (fun g hg => (HK1.out.1.lt _ hg).1)⟩); clear hown4 hg4 hat4)
        obtain ⟨E, hE⟩ : ∃ E, E = D ++ [0] := ⟨_, rfl⟩
        have HE : Hid (E = kb L l 2) := Lib.hid (by rw [hE, HD0.out]; rfl)
        have hEl : E.length + n3 ≤ 1000001 := by rw [hE]; simp only [List.length_append, List.length_cons, List.length_nil]; omega
        have HST : Hid (KyI w2 E HZv HZw) := Lib.hid (by rw [hE]; exact HZ.out)
        clear hE hs1 hs2 hDl HK1 HI HZ
        go_loopg [7, 11, 41] n3 (fun gi s7 s11 s41 wi => ∃ (i : Nat) (D : List Int), i + gi = n3 ∧ D.length + gi ≤ 1000001 ∧ s41 = .int .i64 (i : Int) ∧ Hid (D = E ++ inc (((ltr q l).take i).map (num L 2)) ∧ KyI w2 D s7 wi))
        case atStart => exact ⟨0, E, by omega, hEl, rfl, Lib.hid ⟨by simp [inc], HST.out⟩⟩
        case round =>
          clear HST hEl
          obtain ⟨i, D, hi, hDl, rfl, HJ⟩ := hrel
          by_cases hlt2 : i < n3
          · obtain ⟨gi, rfl⟩ : ∃ x, gk = x + 1 := ⟨gk - 1, by omega⟩
            have hkl : i < (ltr q l).length := by rw [← HW3.out.len]; exact hlt2
            obtain ⟨x, hx, hxq⟩ := inL_at (inL_ltr q l) hkl
            obtain ⟨rfl, hil⟩ : A3 = some ⟨b3, o3, none⟩ ∧ IL w2 b3 o3 (ltr q l) := by
              rcases HA3.out with h | h
              · omega
              · exact h
            have hcx : wr.cell? ⟨b3, o3 + i, none⟩ = some (.int .i64 (x : Int)) := hil.at HJ.out.2.2 hkl hx
            obtain ⟨y, hy⟩ : ∃ y, y = num L 2 (x : Int) := ⟨_, rfl⟩
            have HCC : Hid (Calls Try.prog 58 #[.int .i64 (x : Int), .pointer (some ⟨B, 0, none⟩)] wr fun e w' => e = .returned (.int .i64 y) ∧ w' = wr) := Lib.hid (HCL.out wr HJ.out.2.2 x hxq y hy)
            have hyb : -9223372036854775808 ≤ y ∧ y ≤ 9223372036854775806 := by rw [hy]; exact HNB.out 2 x hxq
            obtain ⟨hyb1, hyb2⟩ := hyb
            have HS : Hid (D ++ [y + 1] = E ++ inc (((ltr q l).take (i + 1)).map (num L 2))) := Lib.hid (by
              rw [List.take_succ_eq_append_getElem hkl, show (ltr q l)[i] = (x : Int) by rw [hx]; simp [List.getD, hkl], List.map_append, List.map_cons, List.map_nil, inc_snoc, ← hy, HJ.out.1, List.append_assoc])
            have HK2 : Hid (KyI w2 D u7 wr) := Lib.hid HJ.out.2
            have hs1 : D.length + 1 ≤ maxLen := by unfold maxLen; omega
            have hs2 : (D.length + 1) * 8 ≤ 140737488355328 := by omega
            clear hx hil hy
            go_wp2_with (first
              | ((with_reducible refine HCC.out.mono ?_); rintro e w0 ⟨rfl, rfl⟩)
              | (at_builtin; refine wpList_own_src rfl (.tmp 45) (.tmp 50) 22 22 rfl w2.heap.size 3 i0 _ 1 8 Try.underlying22 hi0 hz0 hz1 hz2 rfl _ _ _ rfl (own_alc HK2.out.1 _) _ 1 [.int .i64 (y + 1)] rfl (src_one Try.underlying22 hz1 _ _ _ rfl) hs1 hs2 (below_al HK2.out.2 _).size ?_; intro HYv HYw hown4 hg4 hat4; have HY : Hid (KyI w2 (D ++ [(y + 1)]) HYv HYw) := Lib.hid (KyI.snoc ⟨hown4, below_own (below_al HK2.out.2 _) hg4 (fun g hg => (HK2.out.1.lt _ hg).1)⟩); clear hown4 hg4 hat4))
            go_roundg gi
            case rel => exact ⟨i + 1, D ++ [y + 1], by omega, by simp only [List.length_append, List.length_cons, List.length_nil]; omega, by go_num, Lib.hid ⟨HS.out, HY.out⟩⟩
            case measure => omega
          · obtain rfl : i = n3 := by omega
            have HF : Hid (KyI w2 (kd L l 3) u7 wr) := Lib.hid (by
              have e : kd L l 3 = D := by
                show keyN L l 2 = D
                rw [keyN_eq, HJ.out.1, HE.out, lev_map HX.out.1.len, HW3.out.len, List.take_length]
              rw [e]; exact HJ.out.2)
            go_wp2_with fail
            go_roundg gg
            case rel => exact ⟨2 + 1, by omega, by go_num, HF⟩
            case measure => omega
      · have hcf : wr.cell? ⟨g, 3, none⟩ = some (.func (.func 59) #[] #[]) := by first | exact (TabB.below HT.out HI.out.2).2 3 _ rfl | exact (TabB.below HT.out HI.out.2).2 3 _ (by rfl)
        have HCL : Hid (∀ W, Below w2.heap.size w2 W → ∀ x : Nat, x < q → ∀ y, y = num L 3 (x : Int) → Calls Try.prog 59 #[.int .i64 (x : Int)] W fun e w' => e = .returned (.int .i64 y) ∧ w' = W) := Lib.hid fun W hb x hx y hy => by rw [hy]; exact lv3_any _ W
        obtain ⟨D, hD⟩ : ∃ D, D = kd L l 3 := ⟨_, rfl⟩
        have HD0 := Lib.hid hD
        have hDl : D.length + n3 ≤ 1000000 := by rw [hD]; have := (kd_len L l n3 (by rw [← HX.out.1.len]; exact HW3.out.len.symm) 3).1; have := hn3; omega
        have HK1 : Hid (KyI w2 D u7 wr) := Lib.hid (by rw [hD]; exact HI.out)
        have hs1 : D.length + 1 ≤ maxLen := by unfold maxLen; omega
        have hs2 : (D.length + 1) * 8 ≤ 140737488355328 := by omega
        clear hD
        go_wp2_with (at_builtin; refine wpList_own_src rfl (.tmp 36) (.tmp 37) 22 22 rfl w2.heap.size 3 i0 _ 1 8 Try.underlying22 hi0 hz0 hz1 hz2 rfl _ _ _ rfl (own_alc HK1.out.1 _) _ 1 [.int .i64 0] rfl (src_one Try.underlying22 hz1 _ _ _ rfl) hs1 hs2 (below_al HK1.out.2 _).size ?_; intro HZv HZw hown4 hg4 hat4; have HZ : Hid (KyI w2 (D ++ [0]) HZv HZw) := Lib.hid (KyI.snoc ⟨hown4, below_own (below_al HK1.out.2 _) hg4 (fun g hg => (HK1.out.1.lt _ hg).1)⟩); clear hown4 hg4 hat4)
        obtain ⟨E, hE⟩ : ∃ E, E = D ++ [0] := ⟨_, rfl⟩
        have HE : Hid (E = kb L l 3) := Lib.hid (by rw [hE, HD0.out]; rfl)
        have hEl : E.length + n3 ≤ 1000001 := by rw [hE]; simp only [List.length_append, List.length_cons, List.length_nil]; omega
        have HST : Hid (KyI w2 E HZv HZw) := Lib.hid (by rw [hE]; exact HZ.out)
        clear hE hs1 hs2 hDl HK1 HI HZ
        go_loopg [7, 11, 41] n3 (fun gi s7 s11 s41 wi => ∃ (i : Nat) (D : List Int), i + gi = n3 ∧ D.length + gi ≤ 1000001 ∧ s41 = .int .i64 (i : Int) ∧ Hid (D = E ++ inc (((ltr q l).take i).map (num L 3)) ∧ KyI w2 D s7 wi))
        case atStart => exact ⟨0, E, by omega, hEl, rfl, Lib.hid ⟨by simp [inc], HST.out⟩⟩
        case round =>
          clear HST hEl
          obtain ⟨i, D, hi, hDl, rfl, HJ⟩ := hrel
          by_cases hlt2 : i < n3
          · obtain ⟨gi, rfl⟩ : ∃ x, gk = x + 1 := ⟨gk - 1, by omega⟩
            have hkl : i < (ltr q l).length := by rw [← HW3.out.len]; exact hlt2
            obtain ⟨x, hx, hxq⟩ := inL_at (inL_ltr q l) hkl
            obtain ⟨rfl, hil⟩ : A3 = some ⟨b3, o3, none⟩ ∧ IL w2 b3 o3 (ltr q l) := by
              rcases HA3.out with h | h
              · omega
              · exact h
            have hcx : wr.cell? ⟨b3, o3 + i, none⟩ = some (.int .i64 (x : Int)) := hil.at HJ.out.2.2 hkl hx
            obtain ⟨y, hy⟩ : ∃ y, y = num L 3 (x : Int) := ⟨_, rfl⟩
            have HCC : Hid (Calls Try.prog 59 #[.int .i64 (x : Int)] wr fun e w' => e = .returned (.int .i64 y) ∧ w' = wr) := Lib.hid (HCL.out wr HJ.out.2.2 x hxq y hy)
            have hyb : -9223372036854775808 ≤ y ∧ y ≤ 9223372036854775806 := by rw [hy]; exact HNB.out 3 x hxq
            obtain ⟨hyb1, hyb2⟩ := hyb
            have HS : Hid (D ++ [y + 1] = E ++ inc (((ltr q l).take (i + 1)).map (num L 3))) := Lib.hid (by
              rw [List.take_succ_eq_append_getElem hkl, show (ltr q l)[i] = (x : Int) by rw [hx]; simp [List.getD, hkl], List.map_append, List.map_cons, List.map_nil, inc_snoc, ← hy, HJ.out.1, List.append_assoc])
            have HK2 : Hid (KyI w2 D u7 wr) := Lib.hid HJ.out.2
            have hs1 : D.length + 1 ≤ maxLen := by unfold maxLen; omega
            have hs2 : (D.length + 1) * 8 ≤ 140737488355328 := by omega
            clear hx hil hy
            go_wp2_with (first
              | ((with_reducible refine HCC.out.mono ?_); rintro e w0 ⟨rfl, rfl⟩)
              | (at_builtin; refine wpList_own_src rfl (.tmp 45) (.tmp 50) 22 22 rfl w2.heap.size 3 i0 _ 1 8 Try.underlying22 hi0 hz0 hz1 hz2 rfl _ _ _ rfl (own_alc HK2.out.1 _) _ 1 [.int .i64 (y + 1)] rfl (src_one Try.underlying22 hz1 _ _ _ rfl) hs1 hs2 (below_al HK2.out.2 _).size ?_; intro HYv HYw hown4 hg4 hat4; have HY : Hid (KyI w2 (D ++ [(y + 1)]) HYv HYw) := Lib.hid (KyI.snoc ⟨hown4, below_own (below_al HK2.out.2 _) hg4 (fun g hg => (HK2.out.1.lt _ hg).1)⟩); clear hown4 hg4 hat4))
            go_roundg gi
            case rel => exact ⟨i + 1, D ++ [y + 1], by omega, by simp only [List.length_append, List.length_cons, List.length_nil]; omega, by go_num, Lib.hid ⟨HS.out, HY.out⟩⟩
            case measure => omega
          · obtain rfl : i = n3 := by omega
            have HF : Hid (KyI w2 (kd L l 4) u7 wr) := Lib.hid (by
              have e : kd L l 4 = D := by
                show keyN L l 3 = D
                rw [keyN_eq, HJ.out.1, HE.out, lev_map HX.out.1.len, HW3.out.len, List.take_length]
              rw [e]; exact HJ.out.2)
            go_wp2_with fail
            go_roundg gg
            case rel => exact ⟨3 + 1, by omega, by go_num, HF⟩
            case measure => omega
    · obtain rfl : j = 4 := by omega
      obtain ⟨A2, c2, hv, hrd, hmc, hm2⟩ := Rd.of_own HI.out.1
      subst hv
      have HRD := Lib.hid hrd
      have HMC := Lib.hid hmc
      clear hrd hmc
      go_wp2_with fail
      go_ret
      exact ⟨A2, c2, _, rfl, rfl, HRD.out, HMC.out, hm2, below_next HB2.out.2 HI.out.2⟩
theorem key_any (L : List Lt) (A A1 : Option Addr) (q c n1 c1 : Nat) (l : List Int) (R : List Int) (hR : R = keyP L l) (w : World) (ha : AlR w L A q c) (h1 : WdR w l A1 n1 c1) :
    Calls Try.prog 18 #[.slice A q c, .slice A1 n1 c1] w (LPost w R) := by
  subst hR
  unfold keyP
  cases hV : valP L
  · exact key_no L A A1 q c n1 c1 hV w ha
  · exact key_yes L A A1 q c n1 c1 l hV w ha h1
set_option maxRecDepth 1000000 in
set_option maxHeartbeats 8000000 in
theorem rkey_no (L : List Lt) (A A1 : Option Addr) (q c n1 c1 : Nat) (hV : valP L = false) (w : World) (ha : AlR w L A q c) :
    Calls Try.prog 19 #[.slice A q c, .slice A1 n1 c1] w (LPost w []) := by
  have HV : Hid (Calls Try.prog 46 #[.slice A q c] w (BoolB w false)) := Lib.hid (rvalid_of ha false hV.symm)
  clear hV ha
  go_enter Try.func19, Try.ntmps19
  go_wp2_with ((with_reducible refine HV.out.mono ?_); rintro e w1 hp; obtain ⟨rfl, hb1⟩ := boolb_out hp; have HB1 : Hid (Below w.heap.size w w1) := Lib.hid hb1; clear hp hb1)
  go_ret
  exact ⟨none, 0, 0, rfl, rfl, .inl rfl, Nat.le_refl _, Nat.zero_le _, HB1.out⟩
set_option maxRecDepth 1000000 in
set_option maxHeartbeats 16000000 in
theorem rkey_yes (L : List Lt) (A A1 : Option Addr) (q c n1 c1 : Nat) (l : List Int) (hV : valP L = true) (w : World) (ha : AlR w L A q c) (h1 : WdR w l A1 n1 c1) :
    Calls Try.prog 19 #[.slice A q c, .slice A1 n1 c1] w (LPost w (keyN L l 3)) := by
  obtain ⟨i0, hi0, hz0, hz1, hz2⟩ := info_parts Try.infoInt
  have HV : Hid (Calls Try.prog 46 #[.slice A q c] w (BoolB w true)) := Lib.hid (rvalid_of ha true hV.symm)
  have HL0 : Hid (∀ W, Below w.heap.size w W → ∀ (j : Nat) (i : Int), j < 4 → i = (j : Int) + 1 → Calls Try.prog 32 #[.slice A q c, .slice A1 n1 c1, .int .i64 i] W fun e w' => ∃ A3 n3 c3, e = .returned (.slice A3 n3 c3) ∧ WdR w' (lev L j l) A3 n3 c3 ∧ Below W.heap.size W w' ∧ ∀ p, A3 = some p → W.heap.size ≤ p.block) := Lib.hid fun W hb j i hj hi => by
    have ha' := ha.below hb
    have h1' := h1.below hb
    refine (level_fr L q c A ha'.len ha'.cap ha'.max l A1 n1 c1 h1'.len h1'.few h1'.cap h1'.max j hj i hi W h1'.rd ha'.rd).mono fun e w' hp => ?_
    obtain ⟨A3, c3, n3, he, hn, hr, h3, h4, hb3, hf⟩ := hp
    exact ⟨A3, n3, c3, he, ⟨hn, by have := lev_length L j l; have := ltr_length L.length l; have := h1.len; have := h1.few; omega, h3, h4, hr⟩, hb3, hf⟩
  have HNB : Hid (∀ (j : Nat) (l : List Int) (y : Int), y ∈ lev L j l → -9223372036854775808 ≤ y ∧ y ≤ 9223372036854775806) := Lib.hid fun j l y hy => by
    obtain ⟨x, hx, rfl⟩ := List.mem_map.1 hy
    have hx' := ltr_mem hx
    obtain ⟨x, rfl⟩ : ∃ k : Nat, x = k := ⟨x.toNat, by omega⟩
    exact num_bd hV rfl j (by omega)
  have HLT : Hid ((ltr L.length l).length ≤ 100000) := Lib.hid (by have := ltr_length L.length l; have := h1.len; have := h1.few; omega)
  clear ha hV h1
  go_enter Try.func19, Try.ntmps19
  go_wp2_with ((with_reducible refine HV.out.mono ?_); rintro e w1 hp; obtain ⟨rfl, hb1⟩ := boolb_out hp; have HB1 : Hid (Below w.heap.size w w1) := Lib.hid hb1; clear hp hb1)
  go_loopg [5, 6, 7, 8] 4 (fun gg s5 s6 s7 s8 wr => ∃ (j : Nat), j + gg = 4 ∧ s6 = .int .i64 ((j : Int) + 1) ∧ Hid (KyI w1 (kd L l j) s5 wr))
  case atStart => exact ⟨0, by omega, by go_num, Lib.hid ⟨⟨rfl, .inl ⟨rfl, rfl⟩⟩, Below.refl _ _⟩⟩
  case round =>
    obtain ⟨j, hj, rfl, HI⟩ := hrel
    by_cases hlt : j < 4
    · obtain ⟨gg, rfl⟩ : ∃ x, gk = x + 1 := ⟨gk - 1, by omega⟩
      obtain ⟨i, hi⟩ : ∃ i, i = (j : Int) + 1 := ⟨_, rfl⟩
      have hi4 : i ≤ 4 := by omega
      have hile : 1 ≤ i := by omega
      have HLV : Hid (∀ W, Below w.heap.size w W → Calls Try.prog 32 #[.slice A q c, .slice A1 n1 c1, .int .i64 i] W fun e w' => ∃ A3 n3 c3, e = .returned (.slice A3 n3 c3) ∧ WdR w' (lev L j l) A3 n3 c3 ∧ Below W.heap.size W w' ∧ ∀ p, A3 = some p → W.heap.size ≤ p.block) := Lib.hid fun W hb => HL0.out W hb j i hlt hi
      obtain ⟨D, hD⟩ : ∃ D, D = kd L l j := ⟨_, rfl⟩
      have HD0 := Lib.hid hD
      have hDl : D.length ≤ 400004 := by
        rw [hD]
        have h5 := (kd_len L l _ rfl j).1
        have h6 := HLT.out
        have h7 : j * ((ltr L.length l).length + 1) ≤ 4 * 100001 := Nat.mul_le_mul (by omega) (by omega)
        omega
      have HK1 : Hid (KyI w1 D u5 wr) := Lib.hid (by rw [hD]; exact HI.out)
      have hs1 : D.length + 1 ≤ maxLen := by unfold maxLen; omega
      have hs2 : (D.length + 1) * 8 ≤ 140737488355328 := by omega
      have hir : i + 1 = ((j + 1 : Nat) : Int) + 1 := by omega
      have HIR := Lib.hid hir
      rw [← hi]
      have HJI : Hid (i = (j : Int) + 1) := Lib.hid hi
      clear hD hir
      by_cases hj0 : j = 0
      · have hi1 : i = 1 := by omega
        subst hi1
        clear hi
        have d1 : True := trivial
        obtain ⟨E, hE⟩ : ∃ E, E = D := ⟨_, rfl⟩
        have HE : Hid (E = kb L l j) := Lib.hid (by rw [hE, HD0.out, hj0]; rfl)
        have HEZ : Hid (E = D) := Lib.hid hE
        have hEl : E.length ≤ 500000 := by rw [hE]; omega
        clear hE
        go_wp2_with ((with_reducible refine (HLV.out _ (below_next HB1.out HK1.out.bel)).mono ?_); rintro e w3 ⟨A3, n3, c3, rfl, hw3, hb, hfr⟩; have HW3 : Hid (WdR w3 (lev L j l) A3 n3 c3 ∧ KyI w1 E u5 w3) := Lib.hid ⟨hw3, by rw [HEZ.out]; exact KyI.below HK1.out hb⟩; have hn3 : n3 ≤ 100000 := hw3.few; have hc3 : n3 ≤ c3 := hw3.cap; have hc3m : c3 ≤ 9223372036854775807 := (by have := hw3.max; unfold maxLen at this; omega); obtain ⟨b3, o3, ha3⟩ := il_or hw3.len hw3.rd; have HA3 := Lib.hid ha3; have HAP := Lib.hid (apart_start hw3 ha3 hfr (v := u5) fun k e => (HK1.out.1.lt k e).2); clear hw3 hb ha3 hfr)
        go_loopg [5, 8] n3 (fun gi s5 s8 wi => ∃ (x : Nat) (D : List Int), x + gi = n3 ∧ D.length + gi ≤ 700000 ∧ s8 = .int .i64 (x : Int) ∧ Hid (D = E ++ inc ((lev L j l).take x) ∧ KyI w1 D s5 wi ∧ (n3 = 0 ∨ Apart w3 wi b3 s5)))
        case atStart => exact ⟨0, E, by omega, by omega, rfl, Lib.hid ⟨by simp [inc], HW3.out.2, HAP.out⟩⟩
        case round =>
          obtain ⟨x, D2, hx, hDx, rfl, HJ⟩ := hrel
          by_cases hlt2 : x < n3
          · obtain ⟨gi, rfl⟩ : ∃ z, gk = z + 1 := ⟨gk - 1, by omega⟩
            have hkl : x < (lev L j l).length := by rw [← HW3.out.1.len]; exact hlt2
            obtain ⟨y, hy⟩ : ∃ y, y = (lev L j l).getD x 0 := ⟨_, rfl⟩
            obtain ⟨rfl, hil⟩ : A3 = some ⟨b3, o3, none⟩ ∧ IL w3 b3 o3 (lev L j l) := by
              rcases HA3.out with h | h
              · omega
              · exact h
            have hcx : wr.cell? ⟨b3, o3 + x, none⟩ = some (.int .i64 y) := by
              rcases HJ.out.2.2 with h | h
              · omega
              · exact apart_cell h (by rw [hy]; exact hil x hkl)
            obtain ⟨hyb1, hyb2⟩ : -9223372036854775808 ≤ y ∧ y ≤ 9223372036854775806 := HNB.out j l y (by rw [hy]; simp [List.getD, hkl])
            have HS : Hid (D2 ++ [y + 1] = E ++ inc ((lev L j l).take (x + 1))) := Lib.hid (by
              rw [List.take_succ_eq_append_getElem hkl, show (lev L j l)[x] = y by rw [hy]; simp [List.getD, hkl], inc_snoc, HJ.out.1, List.append_assoc])
            have HK2 : Hid (KyI w1 D2 u5 wr) := Lib.hid HJ.out.2.1
            have hs1 : D2.length + 1 ≤ maxLen := by unfold maxLen; omega
            have hs2 : (D2.length + 1) * 8 ≤ 140737488355328 := by omega
            clear hy hil
            go_wp2_with (at_builtin; refine wpList_own_src rfl (.tmp 31) (.tmp 37) 22 22 rfl w1.heap.size 3 i0 _ 1 8 Try.underlying22 hi0 hz0 hz1 hz2 rfl _ _ _ rfl (own_alc HK2.out.1 _) _ 1 [.int .i64 (y + 1)] rfl (src_one Try.underlying22 hz1 _ _ _ rfl) hs1 hs2 (below_al HK2.out.2 _).size ?_; intro HYv HYw hown4 hg4 hat4; have HYA := Lib.hid (apart_step HJ.out.2.2 hg4 hat4); have HY : Hid (KyI w1 (D2 ++ [(y + 1)]) HYv HYw) := Lib.hid (KyI.snoc ⟨hown4, below_own (below_al HK2.out.2 _) hg4 (fun g hg => (HK2.out.1.lt _ hg).1)⟩); clear hown4 hg4 hat4)
            go_roundg gi
            case rel => exact ⟨x + 1, D2 ++ [y + 1], by omega, by simp only [List.length_append, List.length_cons, List.length_nil]; omega, by go_num, Lib.hid ⟨HS.out, HY.out, HYA.out⟩⟩
            case measure => omega
          · obtain rfl : x = n3 := by omega
            have HF : Hid (KyI w1 (kd L l (j + 1)) u5 wr) := Lib.hid (by
              have e : kd L l (j + 1) = D2 := by
                show keyN L l j = D2
                rw [keyN_eq, HJ.out.1, HE.out, HW3.out.1.len, List.take_length]
              rw [e]; exact HJ.out.2.1)
            go_wp2_with fail
            go_roundg gg
            case rel => exact ⟨j + 1, by omega, by first | rfl | (congr 1; done) | (congr 1; first | exact HIR.out | omega), HF⟩
            case measure => omega
      · have hi1 : 1 < i := by omega
        clear hi
        have d1 : decide (1 < i) = true := decide_eq_true (by omega)
        obtain ⟨E, hE⟩ : ∃ E, E = D ++ [0] := ⟨_, rfl⟩
        have HE : Hid (E = kb L l j) := Lib.hid (by rw [hE, HD0.out]; obtain ⟨k, rfl⟩ : ∃ k, j = k + 1 := ⟨j - 1, by omega⟩; rfl)
        have HEZ : Hid (E = D ++ [0]) := Lib.hid hE
        have hEl : E.length ≤ 500000 := by rw [hE]; simp only [List.length_append, List.length_cons, List.length_nil]; omega
        clear hE
        go_wp2_with (first | (at_builtin; refine wpList_own_src rfl (.tmp 18) (.tmp 19) 22 22 rfl w1.heap.size 3 i0 _ 1 8 Try.underlying22 hi0 hz0 hz1 hz2 rfl _ _ _ rfl (own_alc HK1.out.1 _) _ 1 [.int .i64 0] rfl (src_one Try.underlying22 hz1 _ _ _ rfl) hs1 hs2 (below_al HK1.out.2 _).size ?_; intro HZv HZw hown4 hg4 hat4; have HZ : Hid (KyI w1 (D ++ [0]) HZv HZw) := Lib.hid (KyI.snoc ⟨hown4, below_own (below_al HK1.out.2 _) hg4 (fun g hg => (HK1.out.1.lt _ hg).1)⟩); clear hown4 hg4 hat4) | ((with_reducible refine (HLV.out _ (below_next HB1.out HZ.out.bel)).mono ?_); rintro e w3 ⟨A3, n3, c3, rfl, hw3, hb, hfr⟩; have HW3 : Hid (WdR w3 (lev L j l) A3 n3 c3 ∧ KyI w1 E HZv w3) := Lib.hid ⟨hw3, by rw [HEZ.out]; exact KyI.below HZ.out hb⟩; have hn3 : n3 ≤ 100000 := hw3.few; have hc3 : n3 ≤ c3 := hw3.cap; have hc3m : c3 ≤ 9223372036854775807 := (by have := hw3.max; unfold maxLen at this; omega); obtain ⟨b3, o3, ha3⟩ := il_or hw3.len hw3.rd; have HA3 := Lib.hid ha3; have HAP := Lib.hid (apart_start hw3 ha3 hfr (v := HZv) fun k e => (HZ.out.1.lt k e).2); clear hw3 hb ha3 hfr))
        go_loopg [5, 8] n3 (fun gi s5 s8 wi => ∃ (x : Nat) (D : List Int), x + gi = n3 ∧ D.length + gi ≤ 700000 ∧ s8 = .int .i64 (x : Int) ∧ Hid (D = E ++ inc ((lev L j l).take x) ∧ KyI w1 D s5 wi ∧ (n3 = 0 ∨ Apart w3 wi b3 s5)))
        case atStart => exact ⟨0, E, by omega, by omega, rfl, Lib.hid ⟨by simp [inc], HW3.out.2, HAP.out⟩⟩
        case round =>
          obtain ⟨x, D2, hx, hDx, rfl, HJ⟩ := hrel
          by_cases hlt2 : x < n3
          · obtain ⟨gi, rfl⟩ : ∃ z, gk = z + 1 := ⟨gk - 1, by omega⟩
            have hkl : x < (lev L j l).length := by rw [← HW3.out.1.len]; exact hlt2
            obtain ⟨y, hy⟩ : ∃ y, y = (lev L j l).getD x 0 := ⟨_, rfl⟩
            obtain ⟨rfl, hil⟩ : A3 = some ⟨b3, o3, none⟩ ∧ IL w3 b3 o3 (lev L j l) := by
              rcases HA3.out with h | h
              · omega
              · exact h
            have hcx : wr.cell? ⟨b3, o3 + x, none⟩ = some (.int .i64 y) := by
              rcases HJ.out.2.2 with h | h
              · omega
              · exact apart_cell h (by rw [hy]; exact hil x hkl)
            obtain ⟨hyb1, hyb2⟩ : -9223372036854775808 ≤ y ∧ y ≤ 9223372036854775806 := HNB.out j l y (by rw [hy]; simp [List.getD, hkl])
            have HS : Hid (D2 ++ [y + 1] = E ++ inc ((lev L j l).take (x + 1))) := Lib.hid (by
              rw [List.take_succ_eq_append_getElem hkl, show (lev L j l)[x] = y by rw [hy]; simp [List.getD, hkl], inc_snoc, HJ.out.1, List.append_assoc])
            have HK2 : Hid (KyI w1 D2 u5 wr) := Lib.hid HJ.out.2.1
            have hs1 : D2.length + 1 ≤ maxLen := by unfold maxLen; omega
            have hs2 : (D2.length + 1) * 8 ≤ 140737488355328 := by omega
            clear hy hil
            go_wp2_with (at_builtin; refine wpList_own_src rfl (.tmp 31) (.tmp 37) 22 22 rfl w1.heap.size 3 i0 _ 1 8 Try.underlying22 hi0 hz0 hz1 hz2 rfl _ _ _ rfl (own_alc HK2.out.1 _) _ 1 [.int .i64 (y + 1)] rfl (src_one Try.underlying22 hz1 _ _ _ rfl) hs1 hs2 (below_al HK2.out.2 _).size ?_; intro HYv HYw hown4 hg4 hat4; have HYA := Lib.hid (apart_step HJ.out.2.2 hg4 hat4); have HY : Hid (KyI w1 (D2 ++ [(y + 1)]) HYv HYw) := Lib.hid (KyI.snoc ⟨hown4, below_own (below_al HK2.out.2 _) hg4 (fun g hg => (HK2.out.1.lt _ hg).1)⟩); clear hown4 hg4 hat4)
            go_roundg gi
            case rel => exact ⟨x + 1, D2 ++ [y + 1], by omega, by simp only [List.length_append, List.length_cons, List.length_nil]; omega, by go_num, Lib.hid ⟨HS.out, HY.out, HYA.out⟩⟩
            case measure => omega
          · obtain rfl : x = n3 := by omega
            have HF : Hid (KyI w1 (kd L l (j + 1)) u5 wr) := Lib.hid (by
              have e : kd L l (j + 1) = D2 := by
                show keyN L l j = D2
                rw [keyN_eq, HJ.out.1, HE.out, HW3.out.1.len, List.take_length]
              rw [e]; exact HJ.out.2.1)
            go_wp2_with fail
            go_roundg gg
            case rel => exact ⟨j + 1, by omega, by first | rfl | (congr 1; done) | (congr 1; first | exact HIR.out | omega), HF⟩
            case measure => omega
    · obtain rfl : j = 4 := by omega
      obtain ⟨A2, c2, hv, hrd, hmc, hm2⟩ := Rd.of_own HI.out.1
      subst hv
      have HRD := Lib.hid hrd
      have HMC := Lib.hid hmc
      clear hrd hmc
      go_wp2_with fail
      go_ret
      exact ⟨A2, c2, _, rfl, rfl, HRD.out, HMC.out, hm2, below_next HB1.out HI.out.2⟩
theorem rkey_any (L : List Lt) (A A1 : Option Addr) (q c n1 c1 : Nat) (l : List Int) (R : List Int) (hR : R = keyP L l) (w : World) (ha : AlR w L A q c) (h1 : WdR w l A1 n1 c1) :
    Calls Try.prog 19 #[.slice A q c, .slice A1 n1 c1] w (LPost w R) := by
  subst hR
  unfold keyP
  cases hV : valP L
  · exact rkey_no L A A1 q c n1 c1 hV w ha
  · exact rkey_yes L A A1 q c n1 c1 l hV w ha h1
end Go.Proofs.Ytalladdmedmfeaa
