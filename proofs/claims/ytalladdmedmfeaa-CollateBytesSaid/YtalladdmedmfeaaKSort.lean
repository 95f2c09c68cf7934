/-
  collate.Sort$1, Sort.
-/
import Derived.Test.YtalladdmedmfeaaKFresh
import Derived.Test.YtalladdmedmfeaaKStab
import Derived.Deep.RegionHeld3
namespace Go.Proofs.Ytalladdmedmfeaa
open Go.RowKit
open Alp
open Col
set_option linter.unusedVariables false
set_option linter.unusedSimpArgs false

def wordAt (ws : List (List Int)) (i : Int) : List Int := ws.getD i.toNat []
def cmpW (L : List Lt) (ws : List (List Int)) (i j : Int) : Int := cmpU L (wordAt ws i) (wordAt ws j) 0 4
theorem cmpW_cmp (L : List Lt) (ws : List (List Int)) : Cmp (cmpW L ws) :=
  ⟨fun a b => (cmpU_cmp L 4 0).rng _ _, fun a b => (cmpU_cmp L 4 0).neg _ _, fun {a b d} h1 h2 => (cmpU_cmp L 4 0).tr (a := wordAt ws a) (b := wordAt ws b) (d := wordAt ws d) h1 h2⟩
theorem region_same {P : Program} : True := trivial
set_option maxRecDepth 1000000 in
set_option maxHeartbeats 8000000 in
theorem sort1_any (L : List Lt) (b o g G2 C1 C2 q cq n x y : Nat) (hL : L ≠ []) (ws : List (List Int)) (A1 A2 : Option Addr) (n1 c1 n2 c2 : Nat) (R : Int) (hR : R = cmpU L (ws.getD x []) (ws.getD y []) 0 4) (hx : x < n) (hy : y < n) (hn : n ≤ 1000000) (w : World) (ha : AlR w L (some ⟨b, o, none⟩) q cq) (ht : Tab w (.slice (some ⟨b, o, none⟩) q cq) g) (hC1 : w.cell? ⟨C1, 0, none⟩ = some (.slice (some ⟨g, 0, none⟩) 4 4)) (hC2 : w.cell? ⟨C2, 0, none⟩ = some (.slice (some ⟨G2, 0, none⟩) n n))
    (hcx : w.cell? ⟨G2, x, none⟩ = some (.slice A1 n1 c1)) (hcy : w.cell? ⟨G2, y, none⟩ = some (.slice A2 n2 c2)) (h1 : WdR w (ltr q (ws.getD x [])) A1 n1 c1) (h2 : WdR w (ltr q (ws.getD y [])) A2 n2 c2) :
    Calls Try.prog 52 #[.int .i64 (x : Int), .int .i64 (y : Int), .pointer (some ⟨C1, 0, none⟩), .pointer (some ⟨C2, 0, none⟩)] w (IPost w R) := by
  have hxn : x < n := hx
  have l1 : ∀ p : Wo (Below w.heap.size w), p.wo.cell? ⟨C1, 0, none⟩ = some (.slice (some ⟨g, 0, none⟩) 4 4) := fun p => (p.ok.cell (p := ⟨C1, 0, none⟩) (World.block_lt_of_cell? w _ hC1)).trans hC1
  have l2 : ∀ p : Wo (Below w.heap.size w), p.wo.cell? ⟨C2, 0, none⟩ = some (.slice (some ⟨G2, 0, none⟩) n n) := fun p => (p.ok.cell (p := ⟨C2, 0, none⟩) (World.block_lt_of_cell? w _ hC2)).trans hC2
  have l3 : ∀ p : Wo (Below w.heap.size w), p.wo.cell? ⟨G2, x, none⟩ = some (.slice A1 n1 c1) := fun p => (p.ok.cell (p := ⟨G2, x, none⟩) (World.block_lt_of_cell? w _ hcx)).trans hcx
  have l4 : ∀ p : Wo (Below w.heap.size w), p.wo.cell? ⟨G2, y, none⟩ = some (.slice A2 n2 c2) := fun p => (p.ok.cell (p := ⟨G2, y, none⟩) (World.block_lt_of_cell? w _ hcy)).trans hcy
  have HCC : Hid (∀ W, Below w.heap.size w W → Calls Try.prog 48 #[.slice (some ⟨g, 0, none⟩) 4 4, .slice A1 n1 c1, .slice A2 n2 c2] W fun e w' => e = .returned (.int .i64 R) ∧ Below w.heap.size w w') := Lib.hid fun W hb => (by_wd (ha.below hb) hL g 4 4 (Nat.le_refl _) (Nat.le_refl _) (by unfold maxLen; omega) (ht.below hb) (h1.below hb) (h2.below hb) R hR).mono fun e w' hp => ⟨hp.1, below_next hb hp.2⟩
  have x0 : (0 : Int) ≤ (x : Int) := by omega
  have x1 : (x : Int) < (n : Int) := by omega
  have y0 : (0 : Int) ≤ (y : Int) := by omega
  have y1 : (y : Int) < (n : Int) := by omega
  clear hR ha ht h1 h2 hC1 hC2 hcx hcy
  go_enter Try.func52, Try.ntmps52
  go_wp2_with fail
  haveI : Nonempty (Wo (Below w.heap.size w)) := ⟨⟨w, Below.refl _ _⟩⟩
  refine wp_region_wo (Below w.heap.size w) mixedTry (by kernel_rfl) (below_drewN (Below.refl _ _) 1) ?_
  repeat (quiet_step (first | (go_at_call 48; exact calls_wo HCC.out _)))
  refine wpQuiet_nil ?_
  intro w2 hw2
  obtain ⟨⟨w2', hok⟩, hw3⟩ := hw2
  have hw4 : w2 = w2' := hw3
  subst hw4
  have HS2 := Lib.hid hok
  clear hw3 hok l1 l2 l3 l4
  go_wp2_with fail
  go_ret
  exact ⟨rfl, HS2.out⟩
/-- Row G1 apart, what is kept. -/
theorem rd_grown {w W : World} {A : Option Addr} {xs : List Value} {G : Nat} (h : Rd w A xs) (hg : w.grownBy W (some G)) (hA : ∀ p, A = some p → p.block ≠ G) : Rd W A xs := by
  rcases h with h | ⟨b, o, rfl, hc⟩
  · exact .inl h
  · refine .inr ⟨b, o, rfl, fun k v hv => ?_⟩
    have h1 := hc k v hv
    have h2 := hA _ rfl
    have hb := hg.block b (World.block_lt_of_cell? w _ h1) (by simpa using fun e => h2 e)
    rw [← h1]
    exact World.cell?_of_block hb
theorem cell_grownBy {w W : World} {b o G : Nat} {v : Value} (h : w.cell? ⟨b, o, none⟩ = some v) (hg : w.grownBy W (some G)) (hA : b ≠ G) : W.cell? ⟨b, o, none⟩ = some v := by
  rw [← h]
  exact World.cell?_of_block (hg.block b (World.block_lt_of_cell? w _ h) (by simpa using hA))
theorem not_int {w : World} {b G : Nat} {d : List Int} {v : Value} {T : TypeId} (h : w.cell? ⟨b, 0, none⟩ = some v) (hB : Blk w G (iv d) T) (hv : ∀ n, v ≠ .int .i64 n) : b ≠ G := by
  rintro rfl
  rw [cell_of_row w b 0 _ _ _ hB] at h
  cases d with
  | nil => simp [iv] at h
  | cons x d => simp [iv] at h; exact hv x h.symm
def idxL (n k : Nat) : List Int := (List.range k).map (fun i : Nat => (i : Int)) ++ List.replicate (n - k) 0
theorem idxL_length {n k : Nat} (h : k ≤ n) : (idxL n k).length = n := by simp [idxL]; omega
theorem idxL_zero (n : Nat) : idxL n 0 = List.replicate n 0 := by simp [idxL]
theorem idxL_step {n k : Nat} (h : k < n) : (idxL n k).set k (k : Int) = idxL n (k + 1) := by
  unfold idxL
  rw [List.set_append, if_neg (by simp), List.length_map, List.length_range, Nat.sub_self, show n - k = (n - (k + 1)) + 1 by omega, List.replicate_succ, List.set_cons_zero, List.range_succ, List.map_append]
  simp
def upL (n : Nat) : List Int := (List.range n).map fun i : Nat => (i : Int)
theorem idxL_full (n : Nat) : idxL n n = upL n := by simp [idxL, upL]
theorem upL_length (n : Nat) : (upL n).length = n := by simp [upL]
theorem upL_up (n : Nat) : Up (upL n) := by
  unfold Up upL
  rw [List.pairwise_map]
  exact List.pairwise_lt_range.imp fun h => by omega
theorem upL_in (n : Nat) : inL n (upL n) := fun x hx => by
  obtain ⟨i, hi, rfl⟩ := List.mem_map.1 hx
  have := List.mem_range.1 hi
  omega
theorem run_make_slices (n : Nat) (hn : n ≤ 100000) (w : World) : (Instr.makeSlice 23 (.int .i64 (n : Int)) (.int .i64 (n : Int))).run Try.prog w = .ok (.slice (some ⟨w.heap.size, 0, none⟩) n n) (w.alloc (.cells (List.replicate n (Value.slice none 0 0)).toArray 22)) := by
  obtain ⟨i0, hi0, hz0, hz1, hz2⟩ := info_parts (show (Try.prog.info? 22).map (fun i => (i.zero, i.size, i.bytes)) = some (some (.slice none 0 0), 1, 24) by kernel_rfl)
  have h := run_make (P := Try.prog) w 23 22 i0 _ Try.underlying23 hi0 hz0 .i64 .i64 (n : Int) (n : Int) (by omega) (Int.le_refl _) (by rw [hz2]; omega) (by omega)
  have e : madeCells (Value.slice none 0 0).cells n = (List.replicate n (Value.slice none 0 0)).toArray := by
    apply Array.ext
    · simp [madeCells]
    · intro i h1 h2
      simp [madeCells, Value.cells, Nat.mod_one]
  rw [h, Int.toNat_natCast, hz1, Nat.mul_one, e]
/-- The first k words' letters lie in block G2; not in block G1. -/
def WsK (w : World) (q G1 G2 n k : Nat) (ws : List (List Int)) : Prop := ∃ xs : List Value, xs.length = n ∧ Blk w G2 xs 22 ∧ ∀ j, j < k → ∃ A m c, xs[j]? = some (.slice A m c) ∧ WdR w (ltr q (ws.getD j [])) A m c ∧ ∀ p, A = some p → p.block ≠ G1 ∧ p.block ≠ G2
/-- What the loop keeps. -/
def SoI (w : World) (q G1 G2 G3 n k : Nat) (ws : List (List Int)) (wr : World) : Prop := Blk wr G1 (iv (idxL n k)) 3 ∧ WsK wr q G1 G2 n k ws ∧ Blk wr G3 [.slice (some ⟨G2, 0, none⟩) n n] 23 ∧ Below w.heap.size w wr
theorem SoI.below {w wr w2 : World} {q G1 G2 G3 n k : Nat} {ws : List (List Int)} (h : SoI w q G1 G2 G3 n k ws wr) (hb : Below wr.heap.size wr w2) : SoI w q G1 G2 G3 n k ws w2 := by
  obtain ⟨h1, ⟨xs, g1, g2, g3⟩, h3, h4⟩ := h
  refine ⟨h1.below hb h1.lt, ⟨xs, g1, g2.below hb g2.lt, fun j hj => ?_⟩, h3.below hb h3.lt, below_next h4 hb⟩
  obtain ⟨A, m, c, e1, e2, e3⟩ := g3 j hj
  exact ⟨A, m, c, e1, e2.below hb, e3⟩
theorem Blk.there' {w : World} {g : Nat} {C : List Value} {T : TypeId} (h : Blk w g C T) (k : Nat) (hk : k < C.length) : w.cell? ⟨g, k, none⟩ = some C[k] ∧ w.frozen? ⟨g, k, none⟩ = false := ⟨h.cell (List.getElem?_eq_getElem hk), h.frozen k⟩
section
variable {w W : World} {q G1 G2 G3 n k : Nat} {ws : List (List Int)}
theorem SoI.g2 (h : SoI w q G1 G2 G3 n k ws W) (hk : k < n) : (∃ v, W.cell? ⟨G2, k, none⟩ = some v) ∧ ∀ u, (∃ v, (W.setCell ⟨G1, k, none⟩ u).cell? ⟨G2, k, none⟩ = some v) ∧ (W.setCell ⟨G1, k, none⟩ u).frozen? ⟨G2, k, none⟩ = false := by
  obtain ⟨h1, ⟨xs, g1, g2, g3⟩, h3, h4⟩ := h
  have hc := g2.there' k (by omega)
  refine ⟨⟨_, hc.1⟩, fun u => ⟨?_, by rw [World.frozen?_setCell]; exact hc.2⟩⟩
  by_cases e : G1 = G2
  · subst e; exact ⟨u, World.cell?_setCell_same _ _ _ hc.1⟩
  · exact ⟨_, (World.cell?_setCell_other _ _ _ _ (by intro e'; simp only [Addr.mk.injEq] at e'; omega)).trans hc.1⟩
theorem SoI.cell3 (h : SoI w q G1 G2 G3 n k ws W) (hne : G1 ≠ G3) (j : Nat) (u : Value) : (W.setCell ⟨G1, j, none⟩ u).cell? ⟨G3, 0, none⟩ = some (.slice (some ⟨G2, 0, none⟩) n n) :=
  (h.2.2.1.set_other _ _ (by simpa using fun e => hne e.symm)).cell rfl
theorem rd_setCell {A : Option Addr} {xs : List Value} (h : Rd W A xs) (g j : Nat) (u : Value) (hA : ∀ p, A = some p → p.block ≠ g) : Rd (W.setCell ⟨g, j, none⟩ u) A xs := by
  rcases h with h | ⟨b, o, rfl, hc⟩
  · exact .inl h
  · exact .inr ⟨b, o, rfl, fun i v hv => (World.cell?_setCell_other _ _ _ _ (by intro e; simp only [Addr.mk.injEq] at e; exact hA _ rfl e.1.symm)).trans (hc i v hv)⟩
theorem SoI.step (h : SoI w q G1 G2 G3 n k ws W) (hk : k < n) (h12 : G1 ≠ G2) (h13 : G1 ≠ G3) (h23 : G2 ≠ G3) (hw : w.heap.size ≤ G1 ∧ w.heap.size ≤ G2) {A : Option Addr} {m c : Nat} (hl : WdR W (ltr q (ws.getD k [])) A m c) (hA : ∀ p, A = some p → p.block ≠ G1 ∧ p.block ≠ G2) :
    SoI w q G1 G2 G3 n (k + 1) ws ((W.setCell ⟨G1, k, none⟩ (.int .i64 (k : Int))).setCell ⟨G2, k, none⟩ (.slice A m c)) := by
  obtain ⟨h1, ⟨xs, g1, g2, g3⟩, h3, h4⟩ := h
  have keep : ∀ {A' : Option Addr} {l' : List Int} {m' c' : Nat}, WdR W l' A' m' c' → (∀ p, A' = some p → p.block ≠ G1 ∧ p.block ≠ G2) → WdR ((W.setCell ⟨G1, k, none⟩ (.int .i64 (k : Int))).setCell ⟨G2, k, none⟩ (.slice A m c)) l' A' m' c' := fun hr ha => ⟨hr.len, hr.few, hr.cap, hr.max, rd_setCell (rd_setCell hr.rd _ _ _ fun p hp => (ha p hp).1) _ _ _ fun p hp => (ha p hp).2⟩
  refine ⟨?_, ⟨xs.set k (.slice A m c), by simp [g1], (g2.set_other _ _ (by simpa using fun e => h12 e.symm)).set k _, fun j hj => ?_⟩, (h3.set_other _ _ (by simpa using fun e => h13 e.symm)).set_other _ _ (by simpa using fun e => h23 e.symm), (h4.setCell (by exact hw.1) _).setCell (by exact hw.2) _⟩
  · have := (h1.set k (.int .i64 (k : Int)))
    rw [iv_set, idxL_step hk] at this
    exact this.set_other _ _ (by simpa using h12)
  · by_cases e : j = k
    · subst e
      exact ⟨A, m, c, by rw [List.getElem?_set_self (by omega)], keep hl hA, fun p hp => hA p hp⟩
    · obtain ⟨A', m', c', e1, e2, e3⟩ := g3 j (by omega)
      exact ⟨A', m', c', by rw [List.getElem?_set_ne (Ne.symm e)]; exact e1, keep e2 e3, e3⟩
end
/-- What Sort answers. -/
def SoPost (w : World) (L : List Lt) (ws : List (List Int)) (e : Ending) (w' : World) : Prop := ∃ (d : List Int) (A : Option Addr) (n c : Nat), e = .returned (.slice A n c) ∧ n = ws.length ∧ d.Perm (upL n) ∧ Sd (cmpW L ws) d ∧ Rd w' A (iv d) ∧ n ≤ c ∧ c ≤ maxLen ∧ Below w.heap.size w w'
theorem so_out {w w' : World} {L : List Lt} {ws : List (List Int)} {e : Ending} (h : SoPost w L ws e w') : ∃ (d : List Int) (A : Option Addr) (n c : Nat), e = .returned (.slice A n c) ∧ n = ws.length ∧ d.Perm (upL n) ∧ Sd (cmpW L ws) d ∧ Rd w' A (iv d) ∧ n ≤ c ∧ c ≤ maxLen ∧ Below w.heap.size w w' := h
set_option maxRecDepth 1000000 in
set_option maxHeartbeats 16000000 in
theorem sort_cmp (L : List Lt) (hL : L ≠ []) (b o q cq g G1 G2 G3 G4 n : Nat) (ws : List (List Int)) (hn : n = ws.length) (hn2 : n ≤ 1000) (w w3 : World) (ha : AlR w L (some ⟨b, o, none⟩) q cq) (hI : SoI w q G1 G2 G3 n n ws w3) (ht : Tab w3 (.slice (some ⟨b, o, none⟩) q cq) g) (h4 : w3.cell? ⟨G4, 0, none⟩ = some (.slice (some ⟨g, 0, none⟩) 4 4)) (hG : w.heap.size ≤ G1) (h12 : G1 ≠ G2) (h13 : G1 ≠ G3) (h14 : G1 ≠ G4) : CmpOK (cmpW L ws) G4 G3 n G1 w3 := by
  intro W hg x y hx hy
  obtain ⟨e1, ⟨xs, g1, g2, g3⟩, e3, e4⟩ := hI
  obtain ⟨A1, m1, c1, p1, p2, p3⟩ := g3 x hx
  obtain ⟨A2, m2, c2, p4, p5, p6⟩ := g3 y hy
  have hbl : b < w.heap.size := by
    obtain ⟨b', o', e, hrl⟩ := rl_open ha.rd hL
    obtain ⟨rfl, rfl⟩ : b = b' ∧ o = o' := by simpa using e
    exact hrl.lt (List.length_pos_iff.2 hL)
  have keep : ∀ {A' : Option Addr} {l' : List Int} {m' c' : Nat}, WdR w3 l' A' m' c' → (∀ p, A' = some p → p.block ≠ G1 ∧ p.block ≠ G2) → WdR W l' A' m' c' := fun hr ha => ⟨hr.len, hr.few, hr.cap, hr.max, rd_grown hr.rd hg fun p hp => (ha p hp).1⟩
  have ha3 := ha.below e4
  have haW : AlR W L (some ⟨b, o, none⟩) q cq := ⟨ha3.len, ha3.cap, ha3.max, ha3.txt, rd_grown ha3.rd hg fun p hp => by obtain rfl := Option.some.inj hp; show b ≠ G1; omega⟩
  have htW : Tab W (.slice (some ⟨b, o, none⟩) q cq) g := by
    obtain ⟨B, t1, t2⟩ := ht
    have hB := not_int t1 e1 (fun n h => by cases h)
    have hg0 : g ≠ G1 := not_int (t2 0 _ rfl) e1 (fun n h => by cases h)
    exact ⟨B, cell_grownBy t1 hg hB, fun k v hv => cell_grownBy (t2 k v hv) hg hg0⟩
  have hw : ∀ i : Nat, wordAt ws (i : Int) = ws.getD i [] := fun i => by unfold wordAt; rw [Int.toNat_natCast]
  refine sort1_any L b o g G2 G4 G3 q cq n x y hL ws A1 A2 m1 c1 m2 c2 _ ?_ hx hy (by omega) W haW htW (cell_grownBy h4 hg (Ne.symm h14)) (cell_grownBy (e3.cell rfl) hg (Ne.symm h13)) (cell_grownBy (g2.cell p1) hg (Ne.symm h12)) (cell_grownBy (g2.cell p4) hg (Ne.symm h12)) (keep p2 p3) (keep p5 p6)
  show cmpU L (wordAt ws x) (wordAt ws y) 0 4 = _
  rw [hw, hw]
set_option maxRecDepth 1000000 in
set_option maxHeartbeats 16000000 in
theorem sort_yes (L : List Lt) (hV : valP L = true) (A A1 : Option Addr) (q cq n c1 : Nat) (ws : List (List Int)) (w : World) (ha : AlR w L A q cq) (hws : WsR w ws A1 n c1) :
    Calls Try.prog 28 #[.slice A q cq, .slice A1 n c1] w (SoPost w L ws) := by
  have HV : Hid (Calls Try.prog 43 #[.slice A q cq] w (BoolB w true)) := Lib.hid (valid_of ha true hV.symm)
  obtain ⟨b, o, rfl⟩ := al_open ha (val_ne hV)
  obtain ⟨b1, o1, hA1⟩ := ws_or hws
  have hmk := fun W => run_make_ints n (by have := hws.few; omega) W
  have hmk2 := fun W => run_make_slices n (by have := hws.few; omega) W
  obtain ⟨Z, hZ⟩ : ∃ Z, Z = (iv (List.replicate n 0)).toArray := ⟨_, rfl⟩
  obtain ⟨Z2, hZ2⟩ : ∃ Z, Z = (List.replicate n (Value.slice none 0 0)).toArray := ⟨_, rfl⟩
  have hZZ : Hid (Z = (iv (List.replicate n 0)).toArray ∧ Z2 = (List.replicate n (Value.slice none 0 0)).toArray) := Lib.hid ⟨hZ, hZ2⟩
  rw [← hZ] at hmk
  rw [← hZ2] at hmk2
  have hm1' : c1 ≤ 9223372036854775807 := by have := hws.max; unfold maxLen at this; omega
  have hnc := hws.cap
  have hn1000 := hws.few
  have HX : Hid (AlR w L (some ⟨b, o, none⟩) q cq ∧ n = ws.length ∧ (n = 0 ∨ (A1 = some ⟨b1, o1, none⟩ ∧ WsAt w b1 o1 ws)) ∧ L ≠ []) := Lib.hid ⟨ha, hws.len, hA1, val_ne hV⟩
  have hlv : ∀ W, Hid (Calls Try.prog 45 #[.slice (some ⟨b, o, none⟩) q cq] W (TabPost W (.slice (some ⟨b, o, none⟩) q cq))) := fun W => Lib.hid (levels_any _ q cq W)
  have HLV := Lib.hid hlv
  clear ha hV hws hA1 hZ hZ2 hlv
  go_enter Try.func28, Try.ntmps28
  go_wp2_with ((with_reducible refine HV.out.mono ?_); rintro e w1 hp; obtain ⟨rfl, hb1⟩ := boolb_out hp; have HB1 : Hid (Below w.heap.size w w1) := Lib.hid hb1; clear hp hb1)
  go_loopg [7, 8, 21] n (fun gg s7 s8 s21 wr => ∃ (k : Nat), k + gg = n ∧ s21 = .int .i64 (k : Int) ∧ Hid (SoI w q (w1.heap.size) (w1.heap.size + 1) (w1.heap.size + 1 + 1) n k ws wr))
  case atStart => exact ⟨0, by omega, rfl, Lib.hid ⟨by rw [idxL_zero]; exact ((Blk.at w1 (iv (List.replicate n 0)) _ 3 _ hZZ.out.1 rfl).alloc _).alloc _, ⟨List.replicate n (Value.slice none 0 0), by simp, (Blk.at _ _ _ 22 _ hZZ.out.2 (by simp)).alloc _, fun j hj => by omega⟩, Blk.at _ [.slice (some ⟨w1.heap.size + 1, 0, none⟩) n n] _ 23 _ rfl (by simp), below_al (below_al (below_al HB1.out _) _) _⟩⟩
  case round =>
    clear hmk hmk2 hZZ
    obtain ⟨k, hk, rfl, HI⟩ := hrel
    have hws1 : w.heap.size ≤ w1.heap.size := HB1.out.size
    by_cases hlt : k < n
    · obtain ⟨gg, rfl⟩ : ∃ x, gk = x + 1 := ⟨gk - 1, by omega⟩
      obtain ⟨rfl, hat⟩ : A1 = some ⟨b1, o1, none⟩ ∧ WsAt w b1 o1 ws := by
        rcases HX.out.2.2.1 with h | h
        · omega
        · exact h
      obtain ⟨Ak, nk, ck, hck, hwk⟩ := (hat.below HI.out.2.2.2) k (by rw [← HX.out.2.1]; exact hlt)
      have HLO : Hid (∀ W, Below w.heap.size w W → Below wr.heap.size wr W → Calls Try.prog 44 #[.slice (some ⟨b, o, none⟩) q cq, .slice Ak nk ck] W fun e w' => ∃ A3 c3 n3, e = .returned (.slice A3 n3 c3) ∧ WdR w' (ltr q (ws.getD k [])) A3 n3 c3 ∧ Below W.heap.size W w' ∧ ∀ p, A3 = some p → W.heap.size ≤ p.block) := Lib.hid fun W hb hb2 => by
        have h2 := hwk.below hb2
        have h1 := HX.out.1.below hb
        refine (letters_fr q cq _ _ _ _ _ h2.len h2.few h2.cap h2.max h1.cap h1.max W h2.rd).mono fun e w' hp => ?_
        obtain ⟨A3, c3, n3, he, hn3, hr3, g3, g4, hb3, hf3⟩ := hp
        exact ⟨A3, c3, n3, he, ⟨hn3, by have := ltr_length q (ws.getD k []); have := h2.len; have := h2.few; omega, g3, g4, hr3⟩, hb3, hf3⟩
      have HLO := Lib.hid fun W (hb : Below w.heap.size w W) => fun hb2 => HLO.out W hb hb2
      clear hwk hat
      go_wp2_with fail
      refine wp_region_held_drew (S := fun w' => w'.cell? ⟨w1.heap.size + 1 + 1, 0, none⟩ = some (.slice (some ⟨w1.heap.size + 1, 0, none⟩) n n)) (by kernel_rfl) (HI.out.2.2.1.cell rfl) (fun hS0 => ?_)
      refine wpAnyH_take (i := 0) (oi := { dst := some 26, op := Op.move (Operand.tmp 5), type := 22, pos := "collate.go:103", after := #[], guard := none }) (v := ?_) rfl (by kernel_rfl) (by kernel_rfl) (by kernel_rfl) (fun _ _ _ h => h) (Or.inl ⟨by rfl, ?_⟩) (by assumption) ?_
      rotate_left
      · (intro w' hSw; (try dsimp only at hSw); go_simp; try with_reducible rfl)
      try simp only [Act.put, List.setIfInBounds_toArray, List.set_cons_zero, List.set_cons_succ]
      refine wpAnyH_take (i := 1) (oi := { dst := some 27, op := Op.move (Operand.tmp 7), type := 3, pos := "collate.go:103", after := #[], guard := none }) (v := ?_) rfl (by kernel_rfl) (by kernel_rfl) (by kernel_rfl) (fun _ _ _ h => h) (Or.inl ⟨by rfl, ?_⟩) (by assumption) ?_
      rotate_left
      · (intro w' hSw; (try dsimp only at hSw); go_simp; try with_reducible rfl)
      try simp only [Act.put, List.setIfInBounds_toArray, List.set_cons_zero, List.set_cons_succ]
      refine wpAnyH_take (i := 2) (oi := { dst := some 28, op := Op.load 23 (Operand.tmp 6), type := 23, pos := "collate.go:103", after := #[{ on := 9, ground := Ground.gcOnly Departure.lateStores }], guard := none }) (v := ?_) rfl (by kernel_rfl) (by kernel_rfl) (by kernel_rfl) (fun _ _ _ h => h) (Or.inl ⟨by rfl, ?_⟩) (by assumption) ?_
      rotate_left
      · (intro w' hSw; (try dsimp only at hSw); go_simp; try with_reducible rfl)
      try simp only [Act.put, List.setIfInBounds_toArray, List.set_cons_zero, List.set_cons_succ]
      refine wpAnyH_take (i := 3) (oi := { dst := some 29, op := Op.move (Operand.tmp 7), type := 3, pos := "collate.go:103", after := #[{ on := 9, ground := Ground.gcOnly Departure.lateStores }], guard := none }) (v := ?_) rfl (by kernel_rfl) (by kernel_rfl) (by kernel_rfl) (fun _ _ _ h => h) (Or.inl ⟨by rfl, ?_⟩) (by assumption) ?_
      rotate_left
      · (intro w' hSw; (try dsimp only at hSw); go_simp; try with_reducible rfl)
      try simp only [Act.put, List.setIfInBounds_toArray, List.set_cons_zero, List.set_cons_succ]
      refine wpAnyH_take (i := 4) (oi := { dst := some 30, op := Op.move (Operand.tmp 7), type := 3, pos := "collate.go:103", after := #[], guard := none }) (v := ?_) rfl (by kernel_rfl) (by kernel_rfl) (by kernel_rfl) (fun _ _ _ h => h) (Or.inl ⟨by rfl, ?_⟩) (by assumption) ?_
      rotate_left
      · (intro w' hSw; (try dsimp only at hSw); go_simp; try with_reducible rfl)
      try simp only [Act.put, List.setIfInBounds_toArray, List.set_cons_zero, List.set_cons_succ]
      refine wpAnyH_take (i := 5) (oi := { dst := some 31, op := Op.move (Operand.tmp 0), type := 24, pos := "collate.go:103", after := #[], guard := none }) (v := ?_) rfl (by kernel_rfl) (by kernel_rfl) (by kernel_rfl) (fun _ _ _ h => h) (Or.inl ⟨by rfl, ?_⟩) (by assumption) ?_
      rotate_left
      · (intro w' hSw; (try dsimp only at hSw); go_simp; try with_reducible rfl)
      try simp only [Act.put, List.setIfInBounds_toArray, List.set_cons_zero, List.set_cons_succ]
      refine wpAnyH_take (i := 6) (oi := { dst := some 32, op := Op.move (Operand.tmp 8), type := 22, pos := "collate.go:103", after := #[], guard := none }) (v := ?_) rfl (by kernel_rfl) (by kernel_rfl) (by kernel_rfl) (fun _ _ _ h => h) (Or.inl ⟨by rfl, ?_⟩) (by assumption) ?_
      rotate_left
      · (intro w' hSw; (try dsimp only at hSw); go_simp; try with_reducible rfl)
      try simp only [Act.put, List.setIfInBounds_toArray, List.set_cons_zero, List.set_cons_succ]
      refine wpAnyH_ready (rs := [7]) (by kernel_rfl) (by simp) ?_
      refine AllReadyH.cons (o := { dst := some 33, op := Op.call { callee := Callee.value (Operand.func 44), args := #[Operand.tmp 31, Operand.tmp 32], argTypes := #[24, 22] }, type := 22, pos := "collate.go:103", after := #[{ on := 5, ground := Ground.data }, { on := 6, ground := Ground.data }], guard := none }) rfl (fun K hK => ?_) AllReadyH.nil
      go_simp
      go_at_call 44
      refine (HLO.out _ (below_drewN HI.out.2.2.2 1) (below_drewN (Below.refl _ _) 1)).mono ?_
      rintro e x7 ⟨A3, c3, n3, rfl, hwd, hb, hfr⟩
      have HY1 : Hid (SoI w q (w1.heap.size) (w1.heap.size + 1) (w1.heap.size + 1 + 1) n k ws x7) := Lib.hid (HI.out.below (below_next (w0 := wr) (below_drewN (Below.refl _ _) 1) hb))
      have HY2 : Hid (WdR x7 (ltr q (ws.getD k [])) A3 n3 c3 ∧ ∀ p, A3 = some p → p.block ≠ w1.heap.size ∧ p.block ≠ w1.heap.size + 1) := Lib.hid ⟨hwd, fun p hp => by have h1 : wr.heap.size ≤ p.block := hfr p hp; have h2 := HI.out.2.2.1.lt; omega⟩
      have hg1 := HY1.out.1.there' k (by rw [iv_length, idxL_length (by omega)]; exact hlt)
      obtain ⟨⟨v2, hg2⟩, hg0⟩ := HY1.out.g2 hlt
      obtain ⟨⟨v3, hg3⟩, hg4⟩ := hg0 (.int .i64 (k : Int))
      clear hg0
      clear hwd hb hfr
      refine hK.out _ _ (HY1.out.2.2.1.cell rfl) (fun hS1 => ?_)
      clear hK K hS0
      try simp only [Act.put, List.setIfInBounds_toArray, List.set_cons_zero, List.set_cons_succ]
      refine wpAnyH_take (i := 8) (oi := { dst := some 34, op := Op.indexAddr 22 (Operand.tmp 26) (Operand.tmp 27), type := 0, pos := "collate.go:103", after := #[{ on := 0, ground := Ground.data }, { on := 1, ground := Ground.data }, { on := 0, ground := Ground.phase }, { on := 1, ground := Ground.phase }, { on := 2, ground := Ground.textOnly Departure.lateStores }, { on := 3, ground := Ground.textOnly Departure.lateStores }, { on := 4, ground := Ground.phase }, { on := 5, ground := Ground.textOnly Departure.lateStores }, { on := 6, ground := Ground.textOnly Departure.lateStores }, { on := 7, ground := Ground.phase }], guard := none }) (v := ?_) rfl (by kernel_rfl) (by kernel_rfl) (by kernel_rfl) (fun _ _ _ h => h) (Or.inl ⟨by rfl, ?_⟩) (by assumption) ?_
      rotate_left
      · (intro w' hSw; (try dsimp only at hSw); go_simp; try with_reducible rfl)
      try simp only [Act.put, List.setIfInBounds_toArray, List.set_cons_zero, List.set_cons_succ]
      refine wpAnyH_ready (rs := [9]) (by kernel_rfl) (by simp) ?_
      refine AllReadyH.cons (o := { dst := none, op := Op.store 3 (Operand.tmp 34) (Operand.tmp 30), type := 0, pos := "collate.go:103", after := #[{ on := 8, ground := Ground.data }, { on := 4, ground := Ground.data }, { on := 7, ground := Ground.chain }, { on := 0, ground := Ground.phase }, { on := 1, ground := Ground.phase }, { on := 2, ground := Ground.textOnly Departure.lateStores }, { on := 3, ground := Ground.textOnly Departure.lateStores }, { on := 4, ground := Ground.phase }, { on := 5, ground := Ground.textOnly Departure.lateStores }, { on := 6, ground := Ground.textOnly Departure.lateStores }, { on := 7, ground := Ground.phase }], guard := none }) rfl (fun K hK => ?_) AllReadyH.nil
      go_simp
      refine hK.out _ _ (HY1.out.cell3 (by omega) k (.int .i64 (k : Int))) (fun hS2 => ?_)
      clear hK K hS1
      try simp only [Act.put, List.setIfInBounds_toArray, List.set_cons_zero, List.set_cons_succ]
      refine wpAnyH_take (i := 10) (oi := { dst := some 35, op := Op.indexAddr 23 (Operand.tmp 28) (Operand.tmp 29), type := 0, pos := "collate.go:103", after := #[{ on := 2, ground := Ground.data }, { on := 3, ground := Ground.data }, { on := 0, ground := Ground.phase }, { on := 1, ground := Ground.phase }, { on := 2, ground := Ground.phase }, { on := 3, ground := Ground.phase }, { on := 4, ground := Ground.phase }, { on := 5, ground := Ground.phase }, { on := 6, ground := Ground.phase }, { on := 7, ground := Ground.phase }, { on := 8, ground := Ground.phase }, { on := 9, ground := Ground.phase }], guard := none }) (v := ?_) rfl (by kernel_rfl) (by kernel_rfl) (by kernel_rfl) (fun _ _ _ h => h) (Or.inl ⟨by rfl, ?_⟩) (by assumption) ?_
      rotate_left
      · (intro w' hSw; (try dsimp only at hSw); go_simp; try with_reducible rfl)
      try simp only [Act.put, List.setIfInBounds_toArray, List.set_cons_zero, List.set_cons_succ]
      refine wpAnyH_ready (rs := [11]) (by kernel_rfl) (by simp) ?_
      refine AllReadyH.cons (o := { dst := none, op := Op.store 22 (Operand.tmp 35) (Operand.tmp 33), type := 0, pos := "collate.go:103", after := #[{ on := 10, ground := Ground.data }, { on := 7, ground := Ground.data }, { on := 9, ground := Ground.chain }, { on := 0, ground := Ground.phase }, { on := 1, ground := Ground.phase }, { on := 2, ground := Ground.phase }, { on := 3, ground := Ground.phase }, { on := 4, ground := Ground.phase }, { on := 5, ground := Ground.phase }, { on := 6, ground := Ground.phase }, { on := 7, ground := Ground.phase }, { on := 8, ground := Ground.phase }, { on := 9, ground := Ground.phase }], guard := none }) rfl (fun K hK => ?_) AllReadyH.nil
      go_simp
      refine hK.out _ _ ((HY1.out.step hlt (by omega) (by omega) (by omega) (by omega) HY2.out.1 HY2.out.2).2.2.1.cell rfl) (fun hS3 => ?_)
      clear hK K hS2
      try simp only [Act.put, List.setIfInBounds_toArray, List.set_cons_zero, List.set_cons_succ]
      refine wpAnyH_done (by kernel_rfl) ?_ _
      go_wp2_with fail
      go_roundg gg
      case rel => exact ⟨k + 1, by omega, by go_num, Lib.hid (HY1.out.step hlt (by omega) (by omega) (by omega) ⟨by omega, by omega⟩ HY2.out.1 HY2.out.2)⟩
      case measure => omega
    · obtain rfl : k = n := by omega
      have HSS : Hid (∀ w2 g, Tab w2 (.slice (some ⟨b, o, none⟩) q cq) g → Below wr.heap.size wr w2 → Calls Try.prog 51 #[.slice (some ⟨w1.heap.size, 0, none⟩) k k, .func (.func 52) #[] #[.pointer (some ⟨w2.heap.size, 0, none⟩), .pointer (some ⟨w1.heap.size + 1 + 1, 0, none⟩)]] (w2.alloc (.cells #[.slice (some ⟨g, 0, none⟩) 4 4] 63)) (MPost (w2.alloc (.cells #[.slice (some ⟨g, 0, none⟩) 4 4] 63)) (w1.heap.size) fun d => d.Perm (upL k) ∧ Sd (cmpW L ws) d)) := Lib.hid fun w2 g ht hb => by
        have hI := HI.out.below (below_next (w0 := wr) hb (below_a1 w2 (.cells #[.slice (some ⟨g, 0, none⟩) 4 4] 63)))
        have h1 := HI.out.2.2.1.lt
        have h2 := hb.size
        exact sortstable_any (cmpW L ws) (cmpW_cmp L ws) (w2.heap.size) (w1.heap.size + 1 + 1) k (upL k) (w1.heap.size) k k (upL_length k).symm (by omega) (Nat.le_refl _) (by unfold maxLen; omega) (upL_up k) (upL_in k) _ (by rw [← idxL_full]; exact hI.1) (sort_cmp L HX.out.2.2.2 b o q cq g (w1.heap.size) (w1.heap.size + 1) (w1.heap.size + 1 + 1) (w2.heap.size) k ws HX.out.2.1 (by omega) w _ HX.out.1 hI (ht.below (below_a1 _ _)) (cell_made _ _ _) hws1 (by omega) (by omega) (by omega))
      go_wp2_with (first
        | ((with_reducible refine (HLV.out _).out.mono ?_); rintro e w2 hp; obtain ⟨g, rfl, ht, hb⟩ := tab_out hp; have HB2 : Hid (Tab w2 (.slice (some ⟨b, o, none⟩) q cq) g ∧ Below wr.heap.size wr w2) := Lib.hid ⟨ht, hb⟩; clear hp ht hb)
        | ((with_reducible refine (HSS.out _ _ HB2.out.1 HB2.out.2).mono ?_); rintro e w3 hp; obtain ⟨rfl, d, hq, hs⟩ := m_out hp; have HD : Hid (d.Perm (upL k) ∧ Sd (cmpW L ws) d ∧ Blk w3 (w1.heap.size) (iv d) 3 ∧ Below w.heap.size w w3) := Lib.hid ⟨hq.1, hq.2, hs.1, below_own (below_al (below_next HI.out.2.2.2 HB2.out.2) _) hs.2 (fun g hg => by obtain rfl := Option.some.inj hg; exact hws1)⟩; clear hp hq hs))
      go_ret
      exact ⟨d, _, _, _, rfl, HX.out.2.1, HD.out.1, HD.out.2.1, blk_rd HD.out.2.2.1, Nat.le_refl _, by unfold maxLen; omega, HD.out.2.2.2⟩
set_option maxRecDepth 1000000 in
set_option maxHeartbeats 16000000 in
theorem sort_no (L : List Lt) (A A1 : Option Addr) (q c n c1 : Nat) (hV : valP L = false) (w : World) (ha : AlR w L A q c) :
    Calls Try.prog 28 #[.slice A q c, .slice A1 n c1] w (LPost w []) := by
  have HV : Hid (Calls Try.prog 43 #[.slice A q c] w (BoolB w false)) := Lib.hid (valid_of ha false hV.symm)
  clear hV ha
  go_enter Try.func28, Try.ntmps28
  go_wp2_with ((with_reducible refine HV.out.mono ?_); rintro e w1 hp; obtain ⟨rfl, hb1⟩ := boolb_out hp; have HB1 : Hid (Below w.heap.size w w1) := Lib.hid hb1; clear hp hb1)
  go_ret
  exact ⟨none, 0, 0, rfl, rfl, .inl rfl, Nat.le_refl _, Nat.zero_le _, HB1.out⟩
end Go.Proofs.Ytalladdmedmfeaa
