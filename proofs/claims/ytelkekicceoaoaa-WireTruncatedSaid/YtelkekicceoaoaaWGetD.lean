/-
  The walk of the closure of wire.GetDigests.
-/
import Derived.Test.YtelkekicceoaoaaWGets
import Derived.Test.YtelkekicceoaoaaWEnc2
import Derived.Deep.RegionLaw
import Derived.Deep.MidRow
namespace Go.Proofs.Ytelkekicceoaoaa
open Go.RowKit
set_option linter.unusedVariables false

theorem Try.infoD3 : (Try.prog.info? 57).map (fun i => (i.zero, i.size, i.bytes)) = some (some (.agg (Array.replicate 16 (.int .u8 0))), 16, 16) := by kernel_rfl

theorem step_own_src {P : Program} {w : World} {ops : Array Oper} {o : Oper} {a : Act} {K : Act → World → Prop} {Q : Exit → Act → World → Prop} {E : Prop} (hgd : o.guard = none) (s x : Operand) (t tx : TypeId)
    (ho : o.op = .call { callee := .builtin .append, args := #[s, x], argTypes := #[t, tx] })
    (base : Nat) (e : TypeId) (i : TypeInfo) (z : Value) (size bytes : Nat) (ht : P.underlying t = some (.slice e)) (hi : P.info? e = some i) (hz : i.zero = some z)
    (hsize : i.size = size) (hby : i.bytes = bytes) (hzs : z.cells.size = size) (v : Value) (n : Nat) (xs : List Value) (hs : a.eval s = v) (hown : w.ownsRow base e size v n xs)
    (y : Value) (m : Nat) (news : List Value) (hx : a.eval x = y) (hsrc : Src P i.size tx y m news w) (h63 : n + m ≤ maxLen) (hbytes : (n + m) * bytes ≤ 140737488355328) (hbase : base ≤ w.heap.size)
    (h : ∀ v' w', w'.ownsRow base e size v' (n + m) (xs ++ news) → w.grownBy w' v.ownBlock → (v'.ownBlock = v.ownBlock ∨ v'.ownBlock = some w.heap.size) → K (a.put o.dst v') w') :
    if Region.wanted o (yielded ops a.tmps) = true then Oper.wp P o a w K Q else E := by
  rw [if_pos (by simp [Region.wanted, hgd])]
  exact wp_own_src s x t tx ho base e i z size bytes ht hi hz hsize hby hzs v n xs hs hown y m news hx hsrc h63 hbytes hbase h

theorem fold_set (X : List Value) : ∀ (k : Nat) (a : Array Value), a.size = k + X.length → (X.zipIdx k).foldl (fun cs x => cs.setIfInBounds x.snd x.fst) a = (a.toList.take k ++ X).toArray := by
  induction X with
  | nil => intro k a h; simp at h; subst h; rw [List.zipIdx_nil, List.foldl_nil, List.append_nil, List.take_of_length_le (by simp)]
  | cons x X ih =>
    intro k a h
    simp only [List.length_cons] at h
    rw [List.zipIdx_cons, List.foldl_cons, ih (k + 1) _ (by simp; omega)]
    congr 1
    have hk : k < a.toList.length := by simp; omega
    rw [Array.toList_setIfInBounds, List.take_succ_eq_append_getElem (by simpa using hk)]
    rw [List.take_set, List.set_eq_of_length_le (by simp; omega)]
    simp
theorem list16 (X : List Value) (h : X.length = 16) : ∃ x0 x1 x2 x3 x4 x5 x6 x7 x8 x9 x10 x11 x12 x13 x14 x15, X = [x0, x1, x2, x3, x4, x5, x6, x7, x8, x9, x10, x11, x12, x13, x14, x15] := by
  match X, h with
  | [x0, x1, x2, x3, x4, x5, x6, x7, x8, x9, x10, x11, x12, x13, x14, x15], _ => exact ⟨_, _, _, _, _, _, _, _, _, _, _, _, _, _, _, _, rfl⟩
def elD (r : List UInt8) : Nat × Int := (16, 0)
def stD (s : List (List Value)) (r : List UInt8) : List (List Value) := s ++ [bs (r.take 16)]

set_option maxHeartbeats 400000 in
theorem elD_call (w0 : World) (B top : Nat) (ht : top ≤ 1099511627776) (k : Nat) (r : List UInt8) (A : Option Addr) (c : Nat) (s : List (List Value)) (W : World) (hr16 : 16 ≤ r.length) (hI : Box w0 B top 24 57 16 (k + 1) s W) (hr : Rd W A (bs r)) (hAB : ∀ b o, A = some ⟨b, o, none⟩ → b < B) (hc : r.length ≤ c) (hm : c ≤ maxLen) :
    Calls Try.prog 44 #[.slice A r.length c, .pointer (some ⟨B, 0, none⟩)] W fun e W' => e = ret2 (elD r) ∧ Box w0 B top 24 57 16 k (stD s r) W' := by
  obtain ⟨i0, hi0, hz0, hz1, hz2⟩ := info_parts Try.infoD3
  obtain ⟨v, hB, hown, hb, hl⟩ := hI
  have hcell : W.cell? ⟨B, 0, none⟩ = some v := by rw [cell_of_row W B 0 _ _ _ hB]; rfl
  have hBlt : B < W.heap.size := (Array.getElem?_eq_some_iff.1 hB).1
  have hm' : c ≤ 9223372036854775807 := by unfold maxLen at hm; omega
  obtain ⟨b, o, rfl, hrc⟩ := hr.open (by intro e; have := congrArg List.length e; rw [bs_length, List.length_nil] at this; omega)
  have hx : (bs (r.take 16)).length = 16 := by rw [bs_length, List.length_take]; omega
  have hone := bs_one (r.take 16)
  have hrange : W.rangeAt b o (bs (r.take 16)) := fun j u hu => hrc j u (by
    rw [← bs_take, List.getElem?_take] at hu
    split at hu
    · exact hu
    · cases hu)
  have hS : stD s r = s ++ [bs (r.take 16)] := rfl
  generalize stD s r = S' at hS ⊢
  generalize bs (r.take 16) = X at hx hone hrange hS ⊢
  have hbW : b < W.heap.size := World.block_lt_of_cell? W _ (hrc 0 (.int .u8 (r[0]'(by omega)).toNat) (bs_get (by omega)))
  have hap : ∀ o' : Obj, (W.alloc o').cell? ⟨B, 0, none⟩ = some v ∧ (W.alloc o').rangeAt b o X := fun o' => ⟨by rw [World.cell?_alloc_lt W o' _ hBlt]; exact hcell, fun j u hu => by rw [World.cell?_alloc_lt W o' _ hbW]; exact hrange j u hu⟩
  have hsrcd : ∀ C : Array Value, C = X.toArray → Src Try.prog i0.size 24 (.slice (some ⟨W.heap.size, 0, none⟩) 1 1) 1 X (W.alloc (.cells C 57)).drew := fun C hC => by
    subst hC
    exact Src.ofSlice _ Try.underlying24 _ _ _ _ (by rw [hx, hz1]) (World.news_of_block (heap_alloc_new W _)) hone
  have hbB : b < B := hAB b o rfl
  have hne : ∀ g, v.ownBlock = some g → B + 1 ≤ g := fun g hg => (hown.lt g hg).1
  have hkeep : ∀ (w1 : World) (o' : Obj), (W.alloc o').drew.grownBy w1 v.ownBlock → w1.cell? ⟨B, 0, none⟩ = some v ∧ w1.rangeAt b o X := fun w1 o' hg =>
    ⟨hg.cell (hap o').1 (fun e => by have := hne B e.symm; omega), fun j u hu => hg.cell ((hap o').2 j u hu) (fun e => by have := hne b e.symm; omega)⟩
  have hkb : ∀ (w1 : World) (o' : Obj), (W.alloc o').drew.grownBy w1 v.ownBlock → w1.heap[B]? = some (.cells #[v] 24 (0, 0)) ∧ w1.frozen? ⟨B, 0, none⟩ = false ∧ Below B w0 w1 ∧ w1.cell? ⟨B, 0, none⟩ = some v := fun w1 o' hg => by
    have h1 : w1.heap[B]? = some (.cells #[v] 24 (0, 0)) := (hg.block B (by show B < (W.alloc o').heap.size; simp; omega) (fun e => by have := hne B e.symm; omega)).trans ((Below.heap_alloc W o' B hBlt).trans hB)
    exact ⟨h1, by simp [World.frozen?, h1], ((hb.alloc (by omega) o').drew).grown hg (by show B ≤ (W.alloc o').heap.size; simp; omega) (fun g hg => by have := hne g hg; omega), by rw [cell_of_row w1 B 0 _ _ _ h1]; rfl⟩
  have hm63 : s.length + 1 ≤ maxLen := by unfold maxLen; omega
  have hby : (s.length + 1) * 16 ≤ 140737488355328 := by omega
  have hbs : ∀ o' : Obj, B + 1 ≤ (W.alloc o').drew.heap.size := fun o' => by show B + 1 ≤ (W.alloc o').heap.size; simp; omega
  have harr : ∀ w' : World, (Instr.arrayAt 57 (.slice (some ⟨b, o, none⟩) 16 c)).run Try.prog w' = .ok (.pointer (some ⟨b, o, none⟩)) w' := fun w' => by
    simp [Instr.arrayAt, run_underlying Try.underlying57]
  have h16c : (16 : Int) ≤ (c : Int) := by omega
  have HSS := Lib.hid hS; clear hS
  have HO := Lib.hid hown; clear hown
  have HB := Lib.hid hB; clear hB
  have HK := Lib.hid hkeep; clear hkeep
  have HKB := Lib.hid hkb; clear hkb
  clear hrc hr hAB hne
  obtain ⟨x0, x1, x2, x3, x4, x5, x6, x7, x8, x9, x10, x11, x12, x13, x14, x15, rfl⟩ := list16 X hx
  have hc0 : W.cell? ⟨b, o, none⟩ = some x0 := hrange 0 _ rfl
  have hc1 : W.cell? ⟨b, o + 1, none⟩ = some x1 := hrange 1 _ rfl
  have hc2 : W.cell? ⟨b, o + 2, none⟩ = some x2 := hrange 2 _ rfl
  have hc3 : W.cell? ⟨b, o + 3, none⟩ = some x3 := hrange 3 _ rfl
  have hc4 : W.cell? ⟨b, o + 4, none⟩ = some x4 := hrange 4 _ rfl
  have hc5 : W.cell? ⟨b, o + 5, none⟩ = some x5 := hrange 5 _ rfl
  have hc6 : W.cell? ⟨b, o + 6, none⟩ = some x6 := hrange 6 _ rfl
  have hc7 : W.cell? ⟨b, o + 7, none⟩ = some x7 := hrange 7 _ rfl
  have hc8 : W.cell? ⟨b, o + 8, none⟩ = some x8 := hrange 8 _ rfl
  have hc9 : W.cell? ⟨b, o + 9, none⟩ = some x9 := hrange 9 _ rfl
  have hc10 : W.cell? ⟨b, o + 10, none⟩ = some x10 := hrange 10 _ rfl
  have hc11 : W.cell? ⟨b, o + 11, none⟩ = some x11 := hrange 11 _ rfl
  have hc12 : W.cell? ⟨b, o + 12, none⟩ = some x12 := hrange 12 _ rfl
  have hc13 : W.cell? ⟨b, o + 13, none⟩ = some x13 := hrange 13 _ rfl
  have hc14 : W.cell? ⟨b, o + 14, none⟩ = some x14 := hrange 14 _ rfl
  have hc15 : W.cell? ⟨b, o + 15, none⟩ = some x15 := hrange 15 _ rfl
  clear hrange hap
  go_enter Try.func44, Try.ntmps44
  go_wp2_with fail
  go_region_law (first | (refine step_own_src rfl (.tmp 5) (.tmp 10) 24 24 rfl (B + 1) 57 i0 _ 16 16 Try.underlying24 hi0 hz0 hz1 hz2 rfl _ _ _ rfl ((HO.out.alloc _).drew) _ 1 [x0, x1, x2, x3, x4, x5, x6, x7, x8, x9, x10, x11, x12, x13, x14, x15] rfl (hsrcd _ rfl) hm63 hby (hbs _) ?_; intro v1 w1 hown1 hg1 hb1; obtain ⟨A1, c1, rfl, hrd1, hcc1, hmm1⟩ := Rd.of_own hown1; have hf1 := (HKB.out _ _ hg1).2.1; have hcB1 := (HKB.out _ _ hg1).2.2.2; have hbk := Lib.hid (HKB.out _ _ hg1); have HO1 := Lib.hid hown1; clear hown1 hrd1 hb1))
  all_goals (go_wp2_with fail)
  all_goals go_ret2
  all_goals refine ⟨rfl, .slice A1 (s.length + 1) c1, ?_, ?_, hbk.out.2.2.1.setCell (Nat.le_refl _) _, by rw [HSS.out]; simp; omega⟩
  all_goals first | (rw [heap_setCell_same w1 B 0 _ _ _ hbk.out.1]; rfl) | (have := ownsRow_setCell_below HO1.out (a := ⟨B, 0, none⟩) (by simp) (.slice A1 (s.length + 1) c1); rw [HSS.out]; simpa using this)

theorem elD_enter (args : Array Value) (W : World) : (callFunc 44 args).run Try.prog W = .ok (.enter 44 args) W := by
  kernel_rfl

end Go.Proofs.Ytelkekicceoaoaa
