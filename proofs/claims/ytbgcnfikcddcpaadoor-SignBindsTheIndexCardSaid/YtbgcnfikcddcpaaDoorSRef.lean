/-
  The walks of the reference's ints, digest, node, advance, start.
-/
import Derived.Test.YtbgcnfikcddcpaaDoorSSan
import Derived.Test.YtbgcnfikcddcpaaDoorSInts
import Derived.Test.YtbgcnfikcddcpaaDoorHROf
import Derived.Test.YtbgcnfikcddcpaaDoorHRMac
namespace Go.Proofs.YtbgcnfikcddcpaaDoor
open Go.RowKit
set_option linter.unusedVariables false
set_option linter.unusedSimpArgs false
open Sha Sgn
set_option maxRecDepth 100000 in
set_option maxHeartbeats 1000000 in
theorem rists_aux (l : List Int) (E : List UInt8) (hE : E = eL l) (b n : Nat) (hn : n = l.length) (hl : l.length ≤ 1000) (hi : ∀ n ∈ l, inI n) (w : World) (hr : Rd w (some ⟨b, 0, none⟩) (l.map (Value.int .i64))) :
    Calls Tryd.prog 56 #[.slice (some ⟨b, 0, none⟩) n n] w fun e w' => e = .returned (.string (sb E)) ∧ Below w.heap.size w w' := by
  have HIN : Hid (Calls Tryd.prog 68 #[.slice (some ⟨b, 0, none⟩) n n] w fun e w' => ∃ A c, e = .returned (.slice A E.length c) ∧ (convert 58 9 (.slice A E.length c)).run Tryd.prog w' = .ok (.string (sb E)) w' ∧ Below w.heap.size w w') := Lib.hid (by
    subst hn hE
    exact (rints_any l _ _ w (by omega) hi hr).mono fun e w' ⟨v, he, hown, hb⟩ => by
      obtain ⟨A, c, rfl, hrd, _, _⟩ := Rd.of_own hown
      exact ⟨A, c, he, conv_sb c rfl hrd, hb⟩)
  clear hr hi hl hn hE
  go_enter Tryd.func56, Tryd.ntmps56
  go_wp2_with ((with_reducible refine (HIN.out).mono ?_); rintro e x1 ⟨A1, c1, rfl, hcv1, hb1⟩; have HX1 := Lib.hid hb1; clear hb1)
  go_ret
  exact ⟨rfl, HX1.out⟩
theorem rists_at (l : List Int) (E : List UInt8) (hE : E = eL l) (b n : Nat) (hn : n = l.length) (hl : l.length ≤ 1000) (hi : ∀ n ∈ l, inI n) (w : World) (hr : Rd w (some ⟨b, 0, none⟩) (l.map (Value.int .i64))) :
    Calls Tryd.prog 56 #[.slice (some ⟨b, 0, none⟩) n n] w fun e w' => e = .returned (.string (sb E)) ∧ Below w.heap.size w w' := rists_aux l E hE b n hn hl hi w hr
/-- The reference's Of of parts that lie at the head of a block. -/
theorem rof_at (tag : Int) (parts : List (List UInt8)) (D : List UInt8) (hD : D = dig tag parts) (b n : Nat) (hn : n = parts.length) (hp : ∀ p ∈ parts, p.length ≤ 1000000) (hl : parts.length ≤ 900) (W : World) (hr : Rd W (some ⟨b, 0, none⟩) (parts.map fun p => .string (sb p))) (hK : KR W) :
    Calls Tryd.prog 41 #[.int .i64 tag, .slice (some ⟨b, 0, none⟩) n n] W fun e w' => e = .returned (.agg (bs D).toArray) ∧ Below W.heap.size W w' := by
  subst hD
  exact rof_mod tag parts _ n n hn ⟨hl, hp⟩ W hr hK
/-- An array of sixteen bytes as it is filled. -/
def pre16 (k : Nat) (D : List UInt8) : List UInt8 := D.take k ++ List.replicate (16 - k) 0
theorem pre16_zero (D : List UInt8) : pre16 0 D = List.replicate 16 0 := by simp [pre16]
theorem pre16_all (D : List UInt8) (h : D.length = 16) : pre16 16 D = D := by simp [pre16, List.take_of_length_le (show D.length ≤ 16 by omega)]
theorem pre16_length (k : Nat) (D : List UInt8) (h : D.length = 16) (hk : k ≤ 16) : (pre16 k D).length = 16 := by simp [pre16]; omega
theorem pre16_set (k : Nat) (D : List UInt8) (h : D.length = 16) (hk : k < 16) : (pre16 k D).set k (D.getD k 0) = pre16 (k + 1) D := by
  have e : 16 - k = (16 - (k + 1)) + 1 := by omega
  have hl : (D.take k).length = k := by simp; omega
  have ht : D.take (k + 1) = D.take k ++ [D.getD k 0] := by
    rw [List.take_succ_eq_append_getElem (by omega)]
    simp [List.getD, show k < D.length by omega]
  unfold pre16
  rw [ht, List.set_append_right _ _ (by omega), hl, e, List.replicate_succ, Nat.sub_self, List.set_cons_zero, List.append_assoc]
  rfl
attribute [irreducible] pre16
set_option maxRecDepth 100000 in
set_option maxHeartbeats 1000000 in
theorem rdig_aux (s D : List UInt8) (hD : D = s.take 16) (hs : 16 ≤ s.length) (w : World) :
    Calls Tryd.prog 46 #[.string (sb s)] w fun e w' => e = .returned (.agg (bs D).toArray) ∧ Below w.heap.size w w' := by
  have hDl : D.length = 16 := by rw [hD, List.length_take]; omega
  have hDg : ∀ k, k < 16 → D.getD k 0 = s.getD k 0 := fun k hk => by rw [hD]; simp [List.getD, List.getElem?_take, hk]
  have hsz := sb_size s
  have HD := Lib.hid (And.intro hDl (And.intro hDg hs)); clear hD hDl hDg hs
  have H0 : Hid (Blk ((w.alloc (.cells #[.int .u8 0, .int .u8 0, .int .u8 0, .int .u8 0, .int .u8 0, .int .u8 0, .int .u8 0, .int .u8 0, .int .u8 0, .int .u8 0, .int .u8 0, .int .u8 0, .int .u8 0, .int .u8 0, .int .u8 0, .int .u8 0] 23)).alloc (.cells #[.int .u8 0, .int .u8 0, .int .u8 0, .int .u8 0, .int .u8 0, .int .u8 0, .int .u8 0, .int .u8 0, .int .u8 0, .int .u8 0, .int .u8 0, .int .u8 0, .int .u8 0, .int .u8 0, .int .u8 0, .int .u8 0] 23)) (w.heap.size + 1) (bs (pre16 0 D)) 23 ∧ Blk ((w.alloc (.cells #[.int .u8 0, .int .u8 0, .int .u8 0, .int .u8 0, .int .u8 0, .int .u8 0, .int .u8 0, .int .u8 0, .int .u8 0, .int .u8 0, .int .u8 0, .int .u8 0, .int .u8 0, .int .u8 0, .int .u8 0, .int .u8 0] 23)).alloc (.cells #[.int .u8 0, .int .u8 0, .int .u8 0, .int .u8 0, .int .u8 0, .int .u8 0, .int .u8 0, .int .u8 0, .int .u8 0, .int .u8 0, .int .u8 0, .int .u8 0, .int .u8 0, .int .u8 0, .int .u8 0, .int .u8 0] 23)) w.heap.size (bs (List.replicate 16 0)) 23 ∧ Below w.heap.size w ((w.alloc (.cells #[.int .u8 0, .int .u8 0, .int .u8 0, .int .u8 0, .int .u8 0, .int .u8 0, .int .u8 0, .int .u8 0, .int .u8 0, .int .u8 0, .int .u8 0, .int .u8 0, .int .u8 0, .int .u8 0, .int .u8 0, .int .u8 0] 23)).alloc (.cells #[.int .u8 0, .int .u8 0, .int .u8 0, .int .u8 0, .int .u8 0, .int .u8 0, .int .u8 0, .int .u8 0, .int .u8 0, .int .u8 0, .int .u8 0, .int .u8 0, .int .u8 0, .int .u8 0, .int .u8 0, .int .u8 0] 23))) := Lib.hid
    ⟨by rw [pre16_zero]; exact Blk.at _ _ _ _ _ rfl (by simp), (Blk.at w _ _ _ _ rfl rfl).alloc _, (below_a1 _ _).alloc (by simp) _⟩
  go_enter Tryd.func46, Tryd.ntmps46
  go_wp2_with fail
  go_loopg [4] 16 (fun g s4 wr => ∃ k : Nat, k + g = 16 ∧ s4 = .int .i64 k ∧ Blk wr (w.heap.size + 1) (bs (pre16 k D)) 23 ∧ Blk wr w.heap.size (bs (List.replicate 16 0)) 23 ∧ Below w.heap.size w wr)
  case atStart => exact ⟨0, rfl, rfl, H0.out⟩
  case round =>
    clear H0
    obtain ⟨k, hk, rfl, hB, hC, hBl⟩ := hrel
    by_cases hlt : k < 16
    · obtain ⟨g, rfl⟩ : ∃ g, gk = g + 1 := ⟨gk - 1, by omega⟩
      obtain ⟨x, hx⟩ : ∃ x, x = D.getD k 0 := ⟨_, rfl⟩
      have hset : (bs (pre16 k D)).set k (.int .u8 x.toNat) = bs (pre16 (k + 1) D) := by rw [bs_set, hx, pre16_set k D HD.out.1 hlt]
      have hks : k < s.length := by have := HD.out.2.2; omega
      have hix := fun w' => index_sb (P := Tryd.prog) (t := 9) Tryd.underlying9 s .i64 k hks w'
      rw [← HD.out.2.1 k hlt, ← hx] at hix
      have HS := Lib.hid (And.intro hset (And.intro hB (And.intro hC hBl))); clear hset hB hC hBl hx
      go_wp2_with (refine wpList_store_int rfl 5 (.tmp 13) (.tmp 12) rfl (w.heap.size + 1) k rfl .u8 (x.toNat : Int) rfl HS.out.2.1 (by rw [bs_length, pre16_length k D HD.out.1 (by omega)]; exact hlt) Tryd.size1 ?_; intro w2 hst2; rw [HS.out.1] at hst2; have HST2 : Hid (Blk w2 (w.heap.size + 1) (bs (pre16 (k + 1) D)) 23 ∧ Blk w2 w.heap.size (bs (List.replicate 16 0)) 23 ∧ Below w.heap.size w w2) := Lib.hid ⟨hst2.1, hst2.other HS.out.2.2.1 (by omega), hst2.below HS.out.2.2.2 (by omega)⟩; clear hst2)
      go_roundg g
      case rel => exact ⟨k + 1, by omega, by go_num, HST2.out⟩
      case measure => omega
    · obtain rfl : k = 16 := by omega
      rw [pre16_all D HD.out.1] at hB
      have hDL : (bs D).length = 16 := by rw [bs_length]; exact HD.out.1
      have HDL := Lib.hid hDL
      have HS := Lib.hid (And.intro hB (And.intro hC hBl)); clear hB hC hBl hDL
      go_wp2_with (first
        | (refine wpList_load_blk rfl 23 (.tmp 3) rfl (w.heap.size + 1) 0 rfl HS.out.1 _ Tryd.underlying23 rfl 16 Tryd.size44 (by rw [HDL.out]; omega) ?_; rw [List.drop_zero, List.take_of_length_le (by rw [HDL.out]; omega)])
        | (refine wpList_store_blk rfl 23 (.tmp 2) (.tmp 14) rfl w.heap.size 0 rfl (bs D) rfl HS.out.2.1 16 Tryd.size44 HDL.out (by rw [bs_length, List.length_replicate]; omega) (bs_one _) ?_; intro w3 hst3; rw [List.take_zero, List.nil_append, List.drop_of_length_le (by rw [bs_length, List.length_replicate]; omega), List.append_nil] at hst3; have HST3 := Lib.hid hst3; clear hst3))
      refine ret_blk rfl _ rfl HST3.out.1 _ Tryd.underlying23 rfl (by rw [HDL.out]; exact Tryd.size44) rfl ⟨rfl, HST3.out.below HS.out.2.2 (by omega)⟩
theorem rdig_any (s D : List UInt8) (hD : D = s.take 16) (hs : 16 ≤ s.length) (w : World) :
    Calls Tryd.prog 46 #[.string (sb s)] w fun e w' => e = .returned (.agg (bs D).toArray) ∧ Below w.heap.size w w' := rdig_aux s D hD hs w

set_option maxRecDepth 100000 in
set_option maxHeartbeats 2000000 in
theorem rnode_aux (a b D : List UInt8) (hD : D = par a b) (ha : a.length = 16) (hb : b.length = 16) (w : World) (hK : KR w) :
    Calls Tryd.prog 47 #[.agg (bs a).toArray, .agg (bs b).toArray] w fun e w' => e = .returned (.agg (bs D).toArray) ∧ Below w.heap.size w w' := by
  have HK := Lib.hid hK; clear hK
  have hDl : (bs D).length = 16 := by rw [bs_length, hD, par_length]
  have HOF : Hid (∀ (g : Nat) (W : World), Rd W (some ⟨g, 0, none⟩) [.string (sb a), .string (sb b)] → KR W → Calls Tryd.prog 41 #[.int .i64 2, .slice (some ⟨g, 0, none⟩) 2 2] W fun e w' => e = .returned (.agg (bs D).toArray) ∧ Below W.heap.size W w') :=
    Lib.hid fun g W h hk => rof_at 2 [a, b] D (by rw [hD, par]) g 2 rfl (by intro p hp; simp at hp; rcases hp with rfl | rfl <;> omega) (by simp) W h hk
  have HTA : Hid (∀ W, Calls Tryd.prog 37 #[.agg (bs a).toArray] W fun e w' => e = .returned (.string (sb a)) ∧ Below W.heap.size W w') := Lib.hid fun W => text_any a ha W
  have HTB : Hid (∀ W, Calls Tryd.prog 37 #[.agg (bs b).toArray] W fun e w' => e = .returned (.string (sb b)) ∧ Below W.heap.size W w') := Lib.hid fun W => text_any b hb W
  have HDL := Lib.hid hDl; clear hD hDl
  have hsa : (Tryd.prog.info? 23).map (·.size) = some (bs a).length := by rw [bs_length, ha]; exact Tryd.size44
  have hsb : (Tryd.prog.info? 23).map (·.size) = some (bs b).length := by rw [bs_length, hb]; exact Tryd.size44
  have hun := Tryd.underlying23
  clear ha hb
  have HA : Hid (Blk (((w.alloc (.cells (bs a).toArray 23)).alloc (.cells (bs b).toArray 23)).alloc (.cells #[.int .u8 0, .int .u8 0, .int .u8 0, .int .u8 0, .int .u8 0, .int .u8 0, .int .u8 0, .int .u8 0, .int .u8 0, .int .u8 0, .int .u8 0, .int .u8 0, .int .u8 0, .int .u8 0, .int .u8 0, .int .u8 0] 23)) w.heap.size (bs a) 23 ∧ Blk (((w.alloc (.cells (bs a).toArray 23)).alloc (.cells (bs b).toArray 23)).alloc (.cells #[.int .u8 0, .int .u8 0, .int .u8 0, .int .u8 0, .int .u8 0, .int .u8 0, .int .u8 0, .int .u8 0, .int .u8 0, .int .u8 0, .int .u8 0, .int .u8 0, .int .u8 0, .int .u8 0, .int .u8 0, .int .u8 0] 23)) (w.heap.size + 1) (bs b) 23 ∧ Blk (((w.alloc (.cells (bs a).toArray 23)).alloc (.cells (bs b).toArray 23)).alloc (.cells #[.int .u8 0, .int .u8 0, .int .u8 0, .int .u8 0, .int .u8 0, .int .u8 0, .int .u8 0, .int .u8 0, .int .u8 0, .int .u8 0, .int .u8 0, .int .u8 0, .int .u8 0, .int .u8 0, .int .u8 0, .int .u8 0] 23)) (w.heap.size + 1 + 1) (bs (List.replicate 16 0)) 23 ∧ Below w.heap.size w (((w.alloc (.cells (bs a).toArray 23)).alloc (.cells (bs b).toArray 23)).alloc (.cells #[.int .u8 0, .int .u8 0, .int .u8 0, .int .u8 0, .int .u8 0, .int .u8 0, .int .u8 0, .int .u8 0, .int .u8 0, .int .u8 0, .int .u8 0, .int .u8 0, .int .u8 0, .int .u8 0, .int .u8 0, .int .u8 0] 23))) :=
    Lib.hid ⟨((Blk.at w _ _ _ _ rfl rfl).alloc _).alloc _, (Blk.at _ _ _ _ _ rfl (by simp)).alloc _, Blk.at _ _ _ _ _ rfl (by simp), ((below_a1 _ _).alloc (by simp) _).alloc (by simp; omega) _⟩
  go_enter Tryd.func47, Tryd.ntmps47
  go_wp2_with fail
  generalize ((w.alloc (.cells (bs a).toArray 23)).alloc (.cells (bs b).toArray 23)).alloc (.cells #[.int .u8 0, .int .u8 0, .int .u8 0, .int .u8 0, .int .u8 0, .int .u8 0, .int .u8 0, .int .u8 0, .int .u8 0, .int .u8 0, .int .u8 0, .int .u8 0, .int .u8 0, .int .u8 0, .int .u8 0, .int .u8 0] 23) = W0 at HA ⊢
  have HRG : Hid (∀ W, Below W0.heap.size W0 W → (W.rangeAt w.heap.size 0 (bs a) ∧ W.rangeAt (w.heap.size + 1) 0 (bs b))) := Lib.hid fun W h => ⟨blk_range (HA.out.1.below h HA.out.1.lt), blk_range (HA.out.2.1.below h HA.out.2.1.lt)⟩
  refine wp_region_held_drew (S := fun w' => w'.rangeAt w.heap.size 0 (bs a) ∧ w'.rangeAt (w.heap.size + 1) 0 (bs b)) (by kernel_rfl) (HRG.out _ (Below.refl _ _).drew) (fun hS0 => ?_)
  refine wpAnyH_take (i := 0) (oi := { dst := some 5, op := Op.load 23 (Operand.tmp 2), type := 23, pos := "ref.go:62", after := #[], guard := none }) (v := _) rfl (by kernel_rfl) (by kernel_rfl) (by kernel_rfl) (fun _ _ _ h => h) (yieldsIf_load_mid (by rfl) _ _ rfl _ _ rfl _ _ (fun w h => h.1) hun rfl hsa) (by assumption) ?_
  try simp only [Act.put, List.setIfInBounds_toArray, List.set_cons_zero, List.set_cons_succ]
  refine wpAnyH_take (i := 2) (oi := { dst := some 7, op := Op.load 23 (Operand.tmp 3), type := 23, pos := "ref.go:62", after := #[], guard := none }) (v := _) rfl (by kernel_rfl) (by kernel_rfl) (by kernel_rfl) (fun _ _ _ h => h) (yieldsIf_load_mid (by rfl) _ _ rfl _ _ rfl _ _ (fun w h => h.2) hun rfl hsb) (by assumption) ?_
  try simp only [Act.put, List.setIfInBounds_toArray, List.set_cons_zero, List.set_cons_succ]
  refine wpAnyH_ready (rs := [1]) (by kernel_rfl) (by simp) ?_
  refine AllReadyH.cons (o := { dst := some 6, op := Op.call { callee := Callee.value (Operand.func 37), args := #[Operand.tmp 5], argTypes := #[23] }, type := 9, pos := "ref.go:62", after := #[{ on := 0, ground := Ground.data }], guard := none }) rfl (fun K hK => ?_) AllReadyH.nil
  go_simp
  go_at_call 37
  refine (HTA.out _).mono ?_
  rintro e y1 ⟨rfl, hb1⟩
  have HY1 : Hid (Below w.heap.size w y1 ∧ Below W0.heap.size W0 y1) := Lib.hid ⟨below_next HA.out.2.2.2.drew hb1, below_next (w := W0.drew) (Below.refl _ _).drew hb1⟩
  clear hb1
  refine hK _ _ (HRG.out _ HY1.out.2) (fun hS1 => ?_)
  clear hK K hS0
  try simp only [Act.put, List.setIfInBounds_toArray, List.set_cons_zero, List.set_cons_succ]
  refine wpAnyH_ready (rs := [3]) (by kernel_rfl) (by simp) ?_
  refine AllReadyH.cons (o := { dst := some 8, op := Op.call { callee := Callee.value (Operand.func 37), args := #[Operand.tmp 7], argTypes := #[23] }, type := 9, pos := "ref.go:62", after := #[{ on := 2, ground := Ground.data }, { on := 1, ground := Ground.chain }], guard := none }) rfl (fun K hK => ?_) AllReadyH.nil
  go_simp
  go_at_call 37
  refine (HTB.out _).mono ?_
  rintro e y2 ⟨rfl, hb2⟩
  have HY2 : Hid (Below w.heap.size w y2 ∧ Below W0.heap.size W0 y2) := Lib.hid ⟨below_next HY1.out.1 hb2, below_next HY1.out.2 hb2⟩
  clear hb2
  refine hK _ _ (HRG.out _ HY2.out.2) (fun hS2 => ?_)
  clear hK K hS1
  try simp only [Act.put, List.setIfInBounds_toArray, List.set_cons_zero, List.set_cons_succ]
  refine wpAnyH_ready (rs := [4]) (by kernel_rfl) (by simp) ?_
  refine AllReadyH.cons (o := { dst := some 9, op := Op.buildSlice 74 2 #[(0, Operand.tmp 6), (1, Operand.tmp 8)], type := 74, pos := "ref.go:62", after := #[{ on := 1, ground := Ground.data }, { on := 3, ground := Ground.data }], guard := none }) rfl (fun K hK => ?_) AllReadyH.nil
  go_simp
  refine hK _ _ (HRG.out _ (al HY2.out.2 _)) (fun hS3 => ?_)
  clear hK K hS2
  try simp only [Act.put, List.setIfInBounds_toArray, List.set_cons_zero, List.set_cons_succ]
  refine wpAnyH_ready (rs := [5]) (by kernel_rfl) (by simp) ?_
  refine AllReadyH.cons (o := { dst := some 10, op := Op.call { callee := Callee.value (Operand.func 41), args := #[Operand.const (Value.int IntKind.i64 2), Operand.tmp 9], argTypes := #[3, 74] }, type := 23, pos := "ref.go:62", after := #[{ on := 4, ground := Ground.data }, { on := 3, ground := Ground.chain }], guard := none }) rfl (fun K hK => ?_) AllReadyH.nil
  go_simp
  go_at_call 41
  refine (HOF.out _ _ (Rd.of_blk (Blk.at y2 [.string (sb a), .string (sb b)] _ _ _ rfl rfl)) (HK.out.of (al HY2.out.1 _))).mono ?_
  rintro e y3 ⟨rfl, hb3⟩
  have HY3 : Hid (Below w.heap.size w y3 ∧ Below W0.heap.size W0 y3) := Lib.hid ⟨below_next (al HY2.out.1 _) hb3, below_next (al HY2.out.2 _) hb3⟩
  clear hb3
  refine hK _ _ (HRG.out _ HY3.out.2) (fun hS4 => ?_)
  clear hK K hS3
  try simp only [Act.put, List.setIfInBounds_toArray, List.set_cons_zero, List.set_cons_succ]
  refine wpAnyH_ready (rs := [6]) (by kernel_rfl) (by simp) ?_
  refine AllReadyH.cons (o := { dst := none, op := Op.store 23 (Operand.tmp 4) (Operand.tmp 10), type := 0, pos := "ref.go:62", after := #[{ on := 5, ground := Ground.data }, { on := 5, ground := Ground.chain }, { on := 0, ground := Ground.phase }, { on := 1, ground := Ground.phase }, { on := 2, ground := Ground.phase }, { on := 3, ground := Ground.phase }, { on := 4, ground := Ground.phase }, { on := 5, ground := Ground.phase }], guard := none }) rfl (fun K hK => ?_) AllReadyH.nil
  obtain ⟨y4, hst4, hs4⟩ := blk_store_all (P := Tryd.prog) (HA.out.2.2.1.below HY3.out.2 HA.out.2.2.1.lt) (bs D) (by rw [HDL.out, bs_length, List.length_replicate]) (bs_one _)
  have HF : Hid (Blk y4 (w.heap.size + 1 + 1) (bs D) 23 ∧ Below w.heap.size w y4 ∧ (y4.rangeAt w.heap.size 0 (bs a) ∧ y4.rangeAt (w.heap.size + 1) 0 (bs b))) := Lib.hid ⟨hs4.1, hs4.below HY3.out.1 (by omega), blk_range (hs4.other (HA.out.1.below HY3.out.2 HA.out.1.lt) (by omega)), blk_range (hs4.other (HA.out.2.1.below HY3.out.2 HA.out.2.1.lt) (by omega))⟩
  clear hs4
  have hDL := HDL.out
  go_simp
  refine hK _ _ HF.out.2.2 (fun _ => ?_)
  clear hK K hS4 hst4 hDL
  try simp only [Act.put, List.setIfInBounds_toArray, List.set_cons_zero, List.set_cons_succ]
  refine wpAnyH_done (by kernel_rfl) ?_ _
  go_wp2_with fail
  exact ret_blk rfl _ rfl HF.out.1 _ Tryd.underlying23 rfl (by rw [HDL.out]; exact Tryd.size44) rfl ⟨rfl, HF.out.2.1⟩
theorem rnode_any (a b : List UInt8) (ha : a.length = 16) (hb : b.length = 16) (w : World) (hK : KR w) :
    Calls Tryd.prog 47 #[.agg (bs a).toArray, .agg (bs b).toArray] w fun e w' => e = .returned (.agg (bs (par a b)).toArray) ∧ Below w.heap.size w w' := rnode_aux a b _ rfl ha hb w hK

/-- What the loop of advance keeps: the value, the result's zeros. -/
def AV (w : World) (u : List UInt8) (wr : World) : Prop := Blk wr w.heap.size (bs u) 23 ∧ Blk wr (w.heap.size + 1) (bs (List.replicate 16 0)) 23 ∧ Below w.heap.size w wr
theorem AV.next {w wr w1 : World} {u : List UInt8} (h : AV w u wr) (hb : Below wr.heap.size wr w1) : AV w u w1 := ⟨h.1.below hb h.1.lt, h.2.1.below hb h.2.1.lt, below_next h.2.2 hb⟩
theorem AV.alloc {w wr : World} {u : List UInt8} (h : AV w u wr) (o : Obj) : AV w u (wr.alloc o) := h.next (below_a1 _ _)
theorem AV.drew {w wr : World} {u : List UInt8} (h : AV w u wr) : AV w u wr.drew := ⟨h.1.drew, h.2.1.drew, h.2.2.drew⟩
set_option maxRecDepth 100000 in
set_option maxHeartbeats 4000000 in
theorem radv_aux (i : Int) (hi : inI i) (c f n : Nat) (v R : List UInt8) (hR : R = adv i c f n v) (hc : c ≤ 1000) (hf : f + n ≤ 1000) (hv : v.length = 16) (w : World) (hK : KR w) :
    Calls Tryd.prog 38 #[.int .i64 i, .int .i64 c, .int .i64 f, .int .i64 ((f + n : Nat) : Int), .agg (bs v).toArray] w fun e w' => e = .returned (.agg (bs R).toArray) ∧ Below w.heap.size w w' := by
  have HK := Lib.hid hK; clear hK
  have HI := Lib.hid hi; clear hi
  have HR := Lib.hid hR; clear hR
  have H0 : Hid (AV w v ((w.alloc (.cells (bs v).toArray 23)).alloc (.cells #[.int .u8 0, .int .u8 0, .int .u8 0, .int .u8 0, .int .u8 0, .int .u8 0, .int .u8 0, .int .u8 0, .int .u8 0, .int .u8 0, .int .u8 0, .int .u8 0, .int .u8 0, .int .u8 0, .int .u8 0, .int .u8 0] 23))) := Lib.hid ⟨(Blk.at w _ _ _ _ rfl rfl).alloc _, Blk.at _ _ _ _ _ rfl (by simp), (below_a1 _ _).alloc (by simp) _⟩
  go_enter Tryd.func38, Tryd.ntmps38
  go_wp2_with fail
  go_loopg [11] n (fun g s11 wr => ∃ (k : Nat) (u : List UInt8), k + g = n ∧ s11 = .int .i64 ((f + k : Nat) : Int) ∧ Hid (u = adv i c f k v) ∧ u.length = 16 ∧ AV w u wr)
  case atStart => exact ⟨0, v, by omega, rfl, Lib.hid rfl, hv, H0.out⟩
  case round =>
    clear H0
    obtain ⟨k, u, hk, rfl, HU, hul, hA⟩ := hrel
    by_cases hlt : k < n
    · obtain ⟨g, rfl⟩ : ∃ g, gk = g + 1 := ⟨gk - 1, by omega⟩
      obtain ⟨E, hE⟩ : ∃ E, E = eL [i, (c : Int), ((f + k : Nat) : Int)] := ⟨_, rfl⟩
      have hEl : E.length ≤ 1000000 := by have := eL_length [i, (c : Int), ((f + k : Nat) : Int)]; rw [hE]; simp only [List.length_cons, List.length_nil] at this; omega
      obtain ⟨D, hD⟩ : ∃ D, D = stp i c (f + k) u := ⟨_, rfl⟩
      have hDl : (bs D).length = 16 := by rw [bs_length, hD, stp_length]
      have HN : Hid (D = adv i c f (k + 1) v) := Lib.hid (by rw [adv_snoc, ← HU.out, hD])
      have HIN : Hid (∀ (b : Nat) (W : World), Rd W (some ⟨b, 0, none⟩) [.int .i64 i, .int .i64 (c : Int), .int .i64 ((f + k : Nat) : Int)] → Calls Tryd.prog 56 #[.slice (some ⟨b, 0, none⟩) 3 3] W fun e w' => e = .returned (.string (sb E)) ∧ Below W.heap.size W w') :=
        Lib.hid fun b W h => rists_at _ E hE b 3 rfl (by simp) (by intro m hm; simp at hm; rcases hm with rfl | rfl | rfl; exact HI.out; all_goals unfold inI; omega) W h
      have HTX : Hid (∀ W, Calls Tryd.prog 37 #[.agg (bs u).toArray] W fun e w' => e = .returned (.string (sb u)) ∧ Below W.heap.size W w') := Lib.hid fun W => text_any u hul W
      have HOF : Hid (∀ (b : Nat) (W : World), Rd W (some ⟨b, 0, none⟩) [.string (sb E), .string (sb u)] → KR W → Calls Tryd.prog 41 #[.int .i64 8, .slice (some ⟨b, 0, none⟩) 2 2] W fun e w' => e = .returned (.agg (bs D).toArray) ∧ Below W.heap.size W w') :=
        Lib.hid fun b W h hk => rof_at 8 [E, u] D (by rw [hD, stp, hE]) b 2 rfl (by intro p hp; simp at hp; rcases hp with rfl | rfl <;> omega) (by simp) W h hk
      have HDL := Lib.hid hDl
      have HUL : Hid ((bs u).length = 16) := Lib.hid (by rw [bs_length]; exact hul)
      have HDl16 : Hid (D.length = 16) := Lib.hid (by rw [hD, stp_length])
      have HA := Lib.hid hA
      clear hE hD hDl hA hul hEl
      go_wp2_with fail
      refine wp_region_held_drew (S := fun _ => True) (by kernel_rfl) trivial (fun hS0 => ?_)
      refine wpAnyH_take (i := 0) (oi := { dst := some 18, op := Op.move (Operand.tmp 0), type := 3, pos := "ref.go:40", after := #[], guard := none }) (v := ?_) rfl (by kernel_rfl) (by kernel_rfl) (by kernel_rfl) (fun _ _ _ h => h) (Or.inl ⟨by rfl, ?_⟩) (by assumption) ?_
      rotate_left
      · (intro w' hSw; (try dsimp only at hSw); go_simp; try with_reducible rfl)
      try simp only [Act.put, List.setIfInBounds_toArray, List.set_cons_zero, List.set_cons_succ]
      refine wpAnyH_take (i := 1) (oi := { dst := some 19, op := Op.move (Operand.tmp 1), type := 3, pos := "ref.go:40", after := #[], guard := none }) (v := ?_) rfl (by kernel_rfl) (by kernel_rfl) (by kernel_rfl) (fun _ _ _ h => h) (Or.inl ⟨by rfl, ?_⟩) (by assumption) ?_
      rotate_left
      · (intro w' hSw; (try dsimp only at hSw); go_simp; try with_reducible rfl)
      try simp only [Act.put, List.setIfInBounds_toArray, List.set_cons_zero, List.set_cons_succ]
      refine wpAnyH_take (i := 2) (oi := { dst := some 20, op := Op.move (Operand.tmp 11), type := 3, pos := "ref.go:40", after := #[], guard := none }) (v := ?_) rfl (by kernel_rfl) (by kernel_rfl) (by kernel_rfl) (fun _ _ _ h => h) (Or.inl ⟨by rfl, ?_⟩) (by assumption) ?_
      rotate_left
      · (intro w' hSw; (try dsimp only at hSw); go_simp; try with_reducible rfl)
      try simp only [Act.put, List.setIfInBounds_toArray, List.set_cons_zero, List.set_cons_succ]
      refine wpAnyH_ready (rs := [3, 5]) (by kernel_rfl) (by simp) ?_
      refine AllReadyH.cons (o := { dst := some 21, op := Op.buildSlice 25 3 #[(0, Operand.tmp 18), (1, Operand.tmp 19), (2, Operand.tmp 20)], type := 25, pos := "ref.go:40", after := #[{ on := 0, ground := Ground.data }, { on := 1, ground := Ground.data }, { on := 2, ground := Ground.data }], guard := none }) rfl (fun K hK => ?_) (AllReadyH.cons (o := { dst := some 23, op := Op.load 23 (Operand.tmp 9), type := 23, pos := "ref.go:40", after := #[], guard := none }) rfl (fun K hK => ?_) (AllReadyH.nil))
      · go_simp
        refine hK _ _ trivial (fun _ => ?_)
        clear hK K
        try simp only [Act.put, List.setIfInBounds_toArray, List.set_cons_zero, List.set_cons_succ]
        refine wpAnyH_ready (rs := [4, 5]) (by kernel_rfl) (by simp) ?_
        refine AllReadyH.cons (o := { dst := some 22, op := Op.call { callee := Callee.value (Operand.func 56), args := #[Operand.tmp 21], argTypes := #[25] }, type := 9, pos := "ref.go:40", after := #[{ on := 3, ground := Ground.data }], guard := none }) rfl (fun K hK => ?_) (AllReadyH.cons (o := { dst := some 23, op := Op.load 23 (Operand.tmp 9), type := 23, pos := "ref.go:40", after := #[], guard := none }) rfl (fun K hK => ?_) (AllReadyH.nil))
        · go_simp
          go_at_call 56
          refine (HIN.out _ _ (Rd.of_blk (Blk.at wr.drew [.int .i64 i, .int .i64 (c : Int), .int .i64 ((f + k : Nat) : Int)] _ _ _ rfl rfl))).mono ?_
          rintro e x1 ⟨rfl, hb⟩
          have HX1 : Hid (AV w u x1) := Lib.hid ((HA.out.drew.alloc _).next hb)
          clear hb
          refine hK _ _ trivial (fun _ => ?_)
          clear hK K
          try simp only [Act.put, List.setIfInBounds_toArray, List.set_cons_zero, List.set_cons_succ]
          refine wpAnyH_ready (rs := [5]) (by kernel_rfl) (by simp) ?_
          refine AllReadyH.cons (o := { dst := some 23, op := Op.load 23 (Operand.tmp 9), type := 23, pos := "ref.go:40", after := #[], guard := none }) rfl (fun K hK => ?_) (AllReadyH.nil)
          refine step_load_blk rfl 23 (.tmp 9) rfl w.heap.size 0 rfl HX1.out.1 _ Tryd.underlying23 rfl 16 Tryd.size44 (by rw [HUL.out]; omega) ?_
          rw [List.drop_zero, List.take_of_length_le (by rw [HUL.out]; omega)]
          refine hK _ _ trivial (fun _ => ?_)
          clear hK K
          try simp only [Act.put, List.setIfInBounds_toArray, List.set_cons_zero, List.set_cons_succ]
          refine wpAnyH_ready (rs := [6]) (by kernel_rfl) (by simp) ?_
          refine AllReadyH.cons (o := { dst := some 24, op := Op.call { callee := Callee.value (Operand.func 37), args := #[Operand.tmp 23], argTypes := #[23] }, type := 9, pos := "ref.go:40", after := #[{ on := 5, ground := Ground.data }, { on := 4, ground := Ground.chain }], guard := none }) rfl (fun K hK => ?_) (AllReadyH.nil)
          go_simp
          go_at_call 37
          refine (HTX.out _).mono ?_
          rintro e x2 ⟨rfl, hb⟩
          have HX2 : Hid (AV w u x2) := Lib.hid ((HX1.out).next hb)
          clear hb
          refine hK _ _ trivial (fun _ => ?_)
          clear hK K
          try simp only [Act.put, List.setIfInBounds_toArray, List.set_cons_zero, List.set_cons_succ]
          refine wpAnyH_ready (rs := [7]) (by kernel_rfl) (by simp) ?_
          refine AllReadyH.cons (o := { dst := some 25, op := Op.buildSlice 74 2 #[(0, Operand.tmp 22), (1, Operand.tmp 24)], type := 74, pos := "ref.go:40", after := #[{ on := 4, ground := Ground.data }, { on := 6, ground := Ground.data }], guard := none }) rfl (fun K hK => ?_) (AllReadyH.nil)
          go_simp
          refine hK _ _ trivial (fun _ => ?_)
          clear hK K
          try simp only [Act.put, List.setIfInBounds_toArray, List.set_cons_zero, List.set_cons_succ]
          refine wpAnyH_ready (rs := [8]) (by kernel_rfl) (by simp) ?_
          refine AllReadyH.cons (o := { dst := some 26, op := Op.call { callee := Callee.value (Operand.func 41), args := #[Operand.const (Value.int IntKind.i64 8), Operand.tmp 25], argTypes := #[3, 74] }, type := 23, pos := "ref.go:40", after := #[{ on := 7, ground := Ground.data }, { on := 6, ground := Ground.chain }], guard := none }) rfl (fun K hK => ?_) (AllReadyH.nil)
          go_simp
          go_at_call 41
          refine (HOF.out _ _ (Rd.of_blk (Blk.at x2 [.string (sb E), .string (sb u)] _ _ _ rfl rfl)) (HK.out.of (al HX2.out.2.2 _))).mono ?_
          rintro e x3 ⟨rfl, hb⟩
          have HX3 : Hid (AV w u x3) := Lib.hid ((HX2.out.alloc _).next hb)
          clear hb
          refine hK _ _ trivial (fun _ => ?_)
          clear hK K
          try simp only [Act.put, List.setIfInBounds_toArray, List.set_cons_zero, List.set_cons_succ]
          refine wpAnyH_ready (rs := [9]) (by kernel_rfl) (by simp) ?_
          refine AllReadyH.cons (o := { dst := none, op := Op.store 23 (Operand.tmp 9) (Operand.tmp 26), type := 0, pos := "ref.go:40", after := #[{ on := 8, ground := Ground.data }, { on := 8, ground := Ground.chain }, { on := 0, ground := Ground.phase }, { on := 1, ground := Ground.phase }, { on := 2, ground := Ground.phase }, { on := 3, ground := Ground.phase }, { on := 4, ground := Ground.phase }, { on := 5, ground := Ground.phase }, { on := 6, ground := Ground.phase }, { on := 7, ground := Ground.phase }, { on := 8, ground := Ground.phase }], guard := none }) rfl (fun K hK => ?_) (AllReadyH.nil)
          obtain ⟨x4, hst4, hs4⟩ := blk_store_all (P := Tryd.prog) HX3.out.1 (bs D) (by rw [HDL.out, HUL.out]) (bs_one _)
          have HF : Hid (AV w D x4) := Lib.hid ⟨hs4.1, hs4.other HX3.out.2.1 (by omega), hs4.below HX3.out.2.2 (by omega)⟩
          clear hs4
          have hDL := HDL.out
          go_simp
          refine hK _ _ trivial (fun _ => ?_)
          clear hK K hst4 hDL
          try simp only [Act.put, List.setIfInBounds_toArray, List.set_cons_zero, List.set_cons_succ]
          refine wpAnyH_done (by kernel_rfl) ?_ _
          go_wp2_with fail
          go_roundg g
          case rel => exact ⟨k + 1, D, by omega, by go_num, HN, HDl16.out, HF.out⟩
          case measure => omega
        · refine step_load_blk rfl 23 (.tmp 9) rfl w.heap.size 0 rfl (HA.out.drew.alloc _).1 _ Tryd.underlying23 rfl 16 Tryd.size44 (by rw [HUL.out]; omega) ?_
          rw [List.drop_zero, List.take_of_length_le (by rw [HUL.out]; omega)]
          refine hK _ _ trivial (fun _ => ?_)
          clear hK K
          try simp only [Act.put, List.setIfInBounds_toArray, List.set_cons_zero, List.set_cons_succ]
          refine wpAnyH_ready (rs := [4]) (by kernel_rfl) (by simp) ?_
          refine AllReadyH.cons (o := { dst := some 22, op := Op.call { callee := Callee.value (Operand.func 56), args := #[Operand.tmp 21], argTypes := #[25] }, type := 9, pos := "ref.go:40", after := #[{ on := 3, ground := Ground.data }], guard := none }) rfl (fun K hK => ?_) (AllReadyH.nil)
          go_simp
          go_at_call 56
          refine (HIN.out _ _ (Rd.of_blk (Blk.at wr.drew [.int .i64 i, .int .i64 (c : Int), .int .i64 ((f + k : Nat) : Int)] _ _ _ rfl rfl))).mono ?_
          rintro e x1 ⟨rfl, hb⟩
          have HX1 : Hid (AV w u x1) := Lib.hid ((HA.out.drew.alloc _).next hb)
          clear hb
          refine hK _ _ trivial (fun _ => ?_)
          clear hK K
          try simp only [Act.put, List.setIfInBounds_toArray, List.set_cons_zero, List.set_cons_succ]
          refine wpAnyH_ready (rs := [6]) (by kernel_rfl) (by simp) ?_
          refine AllReadyH.cons (o := { dst := some 24, op := Op.call { callee := Callee.value (Operand.func 37), args := #[Operand.tmp 23], argTypes := #[23] }, type := 9, pos := "ref.go:40", after := #[{ on := 5, ground := Ground.data }, { on := 4, ground := Ground.chain }], guard := none }) rfl (fun K hK => ?_) (AllReadyH.nil)
          go_simp
          go_at_call 37
          refine (HTX.out _).mono ?_
          rintro e x2 ⟨rfl, hb⟩
          have HX2 : Hid (AV w u x2) := Lib.hid ((HX1.out).next hb)
          clear hb
          refine hK _ _ trivial (fun _ => ?_)
          clear hK K
          try simp only [Act.put, List.setIfInBounds_toArray, List.set_cons_zero, List.set_cons_succ]
          refine wpAnyH_ready (rs := [7]) (by kernel_rfl) (by simp) ?_
          refine AllReadyH.cons (o := { dst := some 25, op := Op.buildSlice 74 2 #[(0, Operand.tmp 22), (1, Operand.tmp 24)], type := 74, pos := "ref.go:40", after := #[{ on := 4, ground := Ground.data }, { on := 6, ground := Ground.data }], guard := none }) rfl (fun K hK => ?_) (AllReadyH.nil)
          go_simp
          refine hK _ _ trivial (fun _ => ?_)
          clear hK K
          try simp only [Act.put, List.setIfInBounds_toArray, List.set_cons_zero, List.set_cons_succ]
          refine wpAnyH_ready (rs := [8]) (by kernel_rfl) (by simp) ?_
          refine AllReadyH.cons (o := { dst := some 26, op := Op.call { callee := Callee.value (Operand.func 41), args := #[Operand.const (Value.int IntKind.i64 8), Operand.tmp 25], argTypes := #[3, 74] }, type := 23, pos := "ref.go:40", after := #[{ on := 7, ground := Ground.data }, { on := 6, ground := Ground.chain }], guard := none }) rfl (fun K hK => ?_) (AllReadyH.nil)
          go_simp
          go_at_call 41
          refine (HOF.out _ _ (Rd.of_blk (Blk.at x2 [.string (sb E), .string (sb u)] _ _ _ rfl rfl)) (HK.out.of (al HX2.out.2.2 _))).mono ?_
          rintro e x3 ⟨rfl, hb⟩
          have HX3 : Hid (AV w u x3) := Lib.hid ((HX2.out.alloc _).next hb)
          clear hb
          refine hK _ _ trivial (fun _ => ?_)
          clear hK K
          try simp only [Act.put, List.setIfInBounds_toArray, List.set_cons_zero, List.set_cons_succ]
          refine wpAnyH_ready (rs := [9]) (by kernel_rfl) (by simp) ?_
          refine AllReadyH.cons (o := { dst := none, op := Op.store 23 (Operand.tmp 9) (Operand.tmp 26), type := 0, pos := "ref.go:40", after := #[{ on := 8, ground := Ground.data }, { on := 8, ground := Ground.chain }, { on := 0, ground := Ground.phase }, { on := 1, ground := Ground.phase }, { on := 2, ground := Ground.phase }, { on := 3, ground := Ground.phase }, { on := 4, ground := Ground.phase }, { on := 5, ground := Ground.phase }, { on := 6, ground := Ground.phase }, { on := 7, ground := Ground.phase }, { on := 8, ground := Ground.phase }], guard := none }) rfl (fun K hK => ?_) (AllReadyH.nil)
          obtain ⟨x4, hst4, hs4⟩ := blk_store_all (P := Tryd.prog) HX3.out.1 (bs D) (by rw [HDL.out, HUL.out]) (bs_one _)
          have HF : Hid (AV w D x4) := Lib.hid ⟨hs4.1, hs4.other HX3.out.2.1 (by omega), hs4.below HX3.out.2.2 (by omega)⟩
          clear hs4
          have hDL := HDL.out
          go_simp
          refine hK _ _ trivial (fun _ => ?_)
          clear hK K hst4 hDL
          try simp only [Act.put, List.setIfInBounds_toArray, List.set_cons_zero, List.set_cons_succ]
          refine wpAnyH_done (by kernel_rfl) ?_ _
          go_wp2_with fail
          go_roundg g
          case rel => exact ⟨k + 1, D, by omega, by go_num, HN, HDl16.out, HF.out⟩
          case measure => omega
      · refine step_load_blk rfl 23 (.tmp 9) rfl w.heap.size 0 rfl HA.out.drew.1 _ Tryd.underlying23 rfl 16 Tryd.size44 (by rw [HUL.out]; omega) ?_
        rw [List.drop_zero, List.take_of_length_le (by rw [HUL.out]; omega)]
        refine hK _ _ trivial (fun _ => ?_)
        clear hK K
        try simp only [Act.put, List.setIfInBounds_toArray, List.set_cons_zero, List.set_cons_succ]
        refine wpAnyH_ready (rs := [3]) (by kernel_rfl) (by simp) ?_
        refine AllReadyH.cons (o := { dst := some 21, op := Op.buildSlice 25 3 #[(0, Operand.tmp 18), (1, Operand.tmp 19), (2, Operand.tmp 20)], type := 25, pos := "ref.go:40", after := #[{ on := 0, ground := Ground.data }, { on := 1, ground := Ground.data }, { on := 2, ground := Ground.data }], guard := none }) rfl (fun K hK => ?_) (AllReadyH.nil)
        go_simp
        refine hK _ _ trivial (fun _ => ?_)
        clear hK K
        try simp only [Act.put, List.setIfInBounds_toArray, List.set_cons_zero, List.set_cons_succ]
        refine wpAnyH_ready (rs := [4]) (by kernel_rfl) (by simp) ?_
        refine AllReadyH.cons (o := { dst := some 22, op := Op.call { callee := Callee.value (Operand.func 56), args := #[Operand.tmp 21], argTypes := #[25] }, type := 9, pos := "ref.go:40", after := #[{ on := 3, ground := Ground.data }], guard := none }) rfl (fun K hK => ?_) (AllReadyH.nil)
        go_simp
        go_at_call 56
        refine (HIN.out _ _ (Rd.of_blk (Blk.at wr.drew [.int .i64 i, .int .i64 (c : Int), .int .i64 ((f + k : Nat) : Int)] _ _ _ rfl rfl))).mono ?_
        rintro e x1 ⟨rfl, hb⟩
        have HX1 : Hid (AV w u x1) := Lib.hid ((HA.out.drew.alloc _).next hb)
        clear hb
        refine hK _ _ trivial (fun _ => ?_)
        clear hK K
        try simp only [Act.put, List.setIfInBounds_toArray, List.set_cons_zero, List.set_cons_succ]
        refine wpAnyH_ready (rs := [6]) (by kernel_rfl) (by simp) ?_
        refine AllReadyH.cons (o := { dst := some 24, op := Op.call { callee := Callee.value (Operand.func 37), args := #[Operand.tmp 23], argTypes := #[23] }, type := 9, pos := "ref.go:40", after := #[{ on := 5, ground := Ground.data }, { on := 4, ground := Ground.chain }], guard := none }) rfl (fun K hK => ?_) (AllReadyH.nil)
        go_simp
        go_at_call 37
        refine (HTX.out _).mono ?_
        rintro e x2 ⟨rfl, hb⟩
        have HX2 : Hid (AV w u x2) := Lib.hid ((HX1.out).next hb)
        clear hb
        refine hK _ _ trivial (fun _ => ?_)
        clear hK K
        try simp only [Act.put, List.setIfInBounds_toArray, List.set_cons_zero, List.set_cons_succ]
        refine wpAnyH_ready (rs := [7]) (by kernel_rfl) (by simp) ?_
        refine AllReadyH.cons (o := { dst := some 25, op := Op.buildSlice 74 2 #[(0, Operand.tmp 22), (1, Operand.tmp 24)], type := 74, pos := "ref.go:40", after := #[{ on := 4, ground := Ground.data }, { on := 6, ground := Ground.data }], guard := none }) rfl (fun K hK => ?_) (AllReadyH.nil)
        go_simp
        refine hK _ _ trivial (fun _ => ?_)
        clear hK K
        try simp only [Act.put, List.setIfInBounds_toArray, List.set_cons_zero, List.set_cons_succ]
        refine wpAnyH_ready (rs := [8]) (by kernel_rfl) (by simp) ?_
        refine AllReadyH.cons (o := { dst := some 26, op := Op.call { callee := Callee.value (Operand.func 41), args := #[Operand.const (Value.int IntKind.i64 8), Operand.tmp 25], argTypes := #[3, 74] }, type := 23, pos := "ref.go:40", after := #[{ on := 7, ground := Ground.data }, { on := 6, ground := Ground.chain }], guard := none }) rfl (fun K hK => ?_) (AllReadyH.nil)
        go_simp
        go_at_call 41
        refine (HOF.out _ _ (Rd.of_blk (Blk.at x2 [.string (sb E), .string (sb u)] _ _ _ rfl rfl)) (HK.out.of (al HX2.out.2.2 _))).mono ?_
        rintro e x3 ⟨rfl, hb⟩
        have HX3 : Hid (AV w u x3) := Lib.hid ((HX2.out.alloc _).next hb)
        clear hb
        refine hK _ _ trivial (fun _ => ?_)
        clear hK K
        try simp only [Act.put, List.setIfInBounds_toArray, List.set_cons_zero, List.set_cons_succ]
        refine wpAnyH_ready (rs := [9]) (by kernel_rfl) (by simp) ?_
        refine AllReadyH.cons (o := { dst := none, op := Op.store 23 (Operand.tmp 9) (Operand.tmp 26), type := 0, pos := "ref.go:40", after := #[{ on := 8, ground := Ground.data }, { on := 8, ground := Ground.chain }, { on := 0, ground := Ground.phase }, { on := 1, ground := Ground.phase }, { on := 2, ground := Ground.phase }, { on := 3, ground := Ground.phase }, { on := 4, ground := Ground.phase }, { on := 5, ground := Ground.phase }, { on := 6, ground := Ground.phase }, { on := 7, ground := Ground.phase }, { on := 8, ground := Ground.phase }], guard := none }) rfl (fun K hK => ?_) (AllReadyH.nil)
        obtain ⟨x4, hst4, hs4⟩ := blk_store_all (P := Tryd.prog) HX3.out.1 (bs D) (by rw [HDL.out, HUL.out]) (bs_one _)
        have HF : Hid (AV w D x4) := Lib.hid ⟨hs4.1, hs4.other HX3.out.2.1 (by omega), hs4.below HX3.out.2.2 (by omega)⟩
        clear hs4
        have hDL := HDL.out
        go_simp
        refine hK _ _ trivial (fun _ => ?_)
        clear hK K hst4 hDL
        try simp only [Act.put, List.setIfInBounds_toArray, List.set_cons_zero, List.set_cons_succ]
        refine wpAnyH_done (by kernel_rfl) ?_ _
        go_wp2_with fail
        go_roundg g
        case rel => exact ⟨k + 1, D, by omega, by go_num, HN, HDl16.out, HF.out⟩
        case measure => omega
    · obtain rfl : k = n := by omega
      have HE : Hid (u = R) := Lib.hid (by rw [HU.out, HR.out])
      have HUL : Hid ((bs u).length = 16) := Lib.hid (by rw [bs_length]; exact hul)
      have HA := Lib.hid hA; clear hA hul
      go_wp2_with (first
        | (refine wpList_load_blk rfl 23 (.tmp 9) rfl w.heap.size 0 rfl HA.out.1 _ Tryd.underlying23 rfl 16 Tryd.size44 (by rw [HUL.out]; omega) ?_; rw [List.drop_zero, List.take_of_length_le (by rw [HUL.out]; omega)])
        | (refine wpList_store_blk rfl 23 (.tmp 10) (.tmp 27) rfl (w.heap.size + 1) 0 rfl (bs u) rfl HA.out.2.1 16 Tryd.size44 HUL.out (by rw [bs_length, List.length_replicate]; omega) (bs_one _) ?_; intro w3 hst3; rw [List.take_zero, List.nil_append, List.drop_of_length_le (by rw [bs_length, List.length_replicate]; omega), List.append_nil] at hst3; have HST3 := Lib.hid hst3; clear hst3))
      refine ret_blk rfl _ rfl HST3.out.1 _ Tryd.underlying23 rfl (by rw [HUL.out]; exact Tryd.size44) rfl ⟨by rw [HE.out], HST3.out.below HA.out.2.2 (by omega)⟩
theorem radv_any (i : Int) (hi : inI i) (c f n : Nat) (C F T : Int) (hC : C = (c : Int)) (hF : F = (f : Int)) (hT : T = ((f + n : Nat) : Int)) (v : List UInt8) (hc : c ≤ 1000) (hf : f + n ≤ 1000) (hv : v.length = 16) (w : World) (hK : KR w) :
    Calls Tryd.prog 38 #[.int .i64 i, .int .i64 C, .int .i64 F, .int .i64 T, .agg (bs v).toArray] w fun e w' => e = .returned (.agg (bs (adv i c f n v)).toArray) ∧ Below w.heap.size w w' := by
  subst hC hF hT
  exact radv_aux i hi c f n v _ rfl hc hf hv w hK
end Go.Proofs.YtbgcnfikcddcpaaDoor
