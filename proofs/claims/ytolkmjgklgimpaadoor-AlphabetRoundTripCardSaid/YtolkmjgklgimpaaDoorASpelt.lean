/-
  spelt; the reference's Many.
-/
import Derived.Test.YtolkmjgklgimpaaDoorARPrint
namespace Go.Proofs.YtolkmjgklgimpaaDoor
open Go.RowKit
open Alp
set_option linter.unusedVariables false
set_option linter.unusedSimpArgs false

namespace Alp
def eightL (x : Int) : List B := [[32], [10], [48], [49], [57], [97], [45], [UInt8.ofNat x.toNat]]
def insT (v : Int) : B := (eightL (arP v 256)).getD (arP v 8).toNat []
def speltP (t : B) (n k v : Int) : B :=
  if t = [] then [UInt8.ofNat (arP v 256).toNat]
  else if arP k 4 = 0 then t.take (arP n t.length).toNat ++ t.drop ((arP n t.length).toNat + 1)
  else if arP k 4 = 1 then t.take (arP n t.length).toNat ++ insT v ++ t.drop (arP n t.length).toNat
  else if arP k 4 = 2 then t.take (arP n t.length).toNat ++ insT v ++ t.drop ((arP n t.length).toNat + 1)
  else t.take (arP n t.length).toNat
theorem insT_len (v : Int) : (insT v).length ≤ 1 := by
  have h := arP_bd v (m := 8) (by omega)
  unfold insT
  obtain ⟨y, hy⟩ : ∃ y, y = (arP v 8).toNat := ⟨_, rfl⟩
  rw [← hy]
  have hy8 : y < 8 := by omega
  match y, hy8 with
  | 0, _ | 1, _ | 2, _ | 3, _ | 4, _ | 5, _ | 6, _ | 7, _ => simp [eightL, List.getD]
theorem speltP_len (t : B) (n k v : Int) : (speltP t n k v).length ≤ t.length + 1 := by
  have h := insT_len v
  unfold speltP
  split
  · simp
  · split
    · simp only [List.length_append, List.length_take, List.length_drop]; omega
    · split
      · simp only [List.length_append, List.length_take, List.length_drop]; omega
      · split
        · simp only [List.length_append, List.length_take, List.length_drop]; omega
        · simp only [List.length_take]; omega
end Alp
theorem one_conv (x : Int) (h0 : 0 ≤ x) (h1 : x ≤ 255) (W : World) : (convert 46 9 (.slice (some ⟨W.heap.size, 0, none⟩) 1 1)).run Tryd.prog (W.alloc (.cells #[.int .u8 x] 5)) = .ok (.string (tb [UInt8.ofNat x.toNat])) (W.alloc (.cells #[.int .u8 x] 5)) := by
  have hn : ((UInt8.ofNat x.toNat).toNat : Int) = x := by rw [UInt8.toNat_ofNat']; omega
  have e : (#[Value.int .u8 x] : Array Value) = (bs [UInt8.ofNat x.toNat]).toArray := by
    rw [← hn, Int.toNat_natCast, UInt8.ofNat_toNat]
    rfl
  have hr : Rd (W.alloc (.cells #[.int .u8 x] 5)) (some ⟨W.heap.size, 0, none⟩) (bs [UInt8.ofNat x.toNat]) := .inr ⟨W.heap.size, 0, rfl, fun k v hv => by rw [Nat.zero_add]; exact (Blk.at W (bs [UInt8.ofNat x.toNat]) _ 5 _ e rfl).cell hv⟩
  exact conv_rd (l := [UInt8.ofNat x.toNat]) Tryd.underlying46 Tryd.underlying5 Tryd.underlying9 hr 1
set_option maxRecDepth 100000 in
set_option maxHeartbeats 1000000 in
theorem spelt_nil (n k v : Int) (hv : inI v) (w : World) : Calls Tryd.prog 24 #[.string (tb []), .int .i64 n, .int .i64 k, .int .i64 v] w (TxPost w (speltP [] n k v)) := by
  obtain ⟨x, hx⟩ : ∃ x, x = arP v 256 := ⟨_, rfl⟩
  obtain ⟨x0, x1⟩ : 0 ≤ x ∧ x < 256 := by rw [hx]; exact arP_bd v (by omega)
  have H1 : Hid (∀ W, Calls Tryd.prog 32 #[.int .i64 v, .int .i64 256] W fun e w' => e = .returned (.int .i64 x) ∧ W = w') := Lib.hid fun W => by rw [hx]; exact raround_any v 256 hv.1 hv.2 (by omega) (by omega) W
  have HE : Hid (speltP [] n k v = [UInt8.ofNat x.toNat]) := Lib.hid (by rw [hx]; rfl)
  have he : (tb []).toList.isEmpty = true := empty_yes rfl
  have hcv := one_conv x x0 (by omega) w
  clear hx
  go_enter Tryd.func24, Tryd.ntmps24
  go_wp2_with ((with_reducible refine (H1.out _).mono ?_); rintro e w0 ⟨rfl, rfl⟩)
  go_ret
  exact ⟨by rw [HE.out]; rfl, below_a1 _ _⟩

set_option maxRecDepth 100000 in
set_option maxHeartbeats 4000000 in
theorem spelt_some (t : B) (ht : t.length ≤ 4000) (hne : t ≠ []) (n k v : Int) (hn : inI n) (hk : inI k) (hv : inI v) (w : World) : Calls Tryd.prog 24 #[.string (tb t), .int .i64 n, .int .i64 k, .int .i64 v] w (TxPost w (speltP t n k v)) := by
  obtain ⟨m, hm⟩ : ∃ m, m = t.length := ⟨_, rfl⟩
  have hm1 : 1 ≤ m := by
    rcases Nat.eq_zero_or_pos m with h | h
    · exact absurd (List.eq_nil_of_length_eq_zero (by omega)) hne
    · exact h
  have hsz : (tb t).size = m := by rw [tb_size, hm]
  have he : (tb t).toList.isEmpty = false := empty_no hne
  obtain ⟨x, hx⟩ : ∃ x, x = arP v 256 := ⟨_, rfl⟩
  obtain ⟨x0, x1⟩ : 0 ≤ x ∧ x < 256 := by rw [hx]; exact arP_bd v (by omega)
  obtain ⟨y, hy⟩ : ∃ y : Nat, arP v 8 = y := ⟨(arP v 8).toNat, by have := arP_bd v (m := 8) (by omega); omega⟩
  have hy8 : y < 8 := by have := arP_bd v (m := 8) (by omega); omega
  obtain ⟨p, hp⟩ : ∃ p : Nat, arP n m = p := ⟨(arP n m).toNat, by have := arP_bd n (m := m) (by omega); omega⟩
  have hpm : p < m := by have := arP_bd n (m := m) (by omega); omega
  obtain ⟨c, hc⟩ : ∃ c, c = arP k 4 := ⟨_, rfl⟩
  obtain ⟨c0, c1⟩ : 0 ≤ c ∧ c < 4 := by rw [hc]; exact arP_bd k (by omega)
  obtain ⟨q, hq⟩ : ∃ q, q = insT v := ⟨_, rfl⟩
  have hql : q.length ≤ 1 := by rw [hq]; exact insT_len v
  have H1 : Hid (∀ W, Calls Tryd.prog 32 #[.int .i64 v, .int .i64 256] W fun e w' => e = .returned (.int .i64 x) ∧ W = w') := Lib.hid fun W => by rw [hx]; exact raround_any v 256 hv.1 hv.2 (by omega) (by omega) W
  have H2 : Hid (∀ W, Calls Tryd.prog 32 #[.int .i64 v, .int .i64 8] W fun e w' => e = .returned (.int .i64 (y : Int)) ∧ W = w') := Lib.hid fun W => by rw [← hy]; exact raround_any v 8 hv.1 hv.2 (by omega) (by omega) W
  have H3 : Hid (∀ W, Calls Tryd.prog 32 #[.int .i64 n, .int .i64 (m : Int)] W fun e w' => e = .returned (.int .i64 (p : Int)) ∧ W = w') := Lib.hid fun W => by rw [← hp]; exact raround_any n m hn.1 hn.2 (by omega) (by omega) W
  have H4 : Hid (∀ W, Calls Tryd.prog 32 #[.int .i64 k, .int .i64 4] W fun e w' => e = .returned (.int .i64 c) ∧ W = w') := Lib.hid fun W => by rw [hc]; exact raround_any k 4 hk.1 hk.2 (by omega) (by omega) W
  have hyi : (y : Int) < 8 := by omega
  have hwx : IntKind.u8.wrap x = x := IntWalk.u8_in _ (by omega)
  have hcv : (convert 46 9 (.slice (some ⟨w.heap.size, 0, none⟩) 1 1)).run Tryd.prog (w.alloc (.cells #[.int .u8 x] 5)).drew = .ok (.string (tb [UInt8.ofNat x.toNat])) (w.alloc (.cells #[.int .u8 x] 5)).drew := one_conv x x0 (by omega) w.drew
  have hcl : ((w.alloc (.cells #[.int .u8 x] 5)).alloc (.cells #[.string ⟨#[32]⟩, .string ⟨#[10]⟩, .string ⟨#[48]⟩, .string ⟨#[49]⟩, .string ⟨#[57]⟩, .string ⟨#[97]⟩, .string ⟨#[45]⟩, .string (tb [UInt8.ofNat x.toNat])] 9)).cell? ⟨w.heap.size + 1, y, none⟩ = some (.string (tb q)) := by
    have h := (Blk.at (w.alloc (.cells #[.int .u8 x] 5)) (tv (eightL x)) #[.string ⟨#[32]⟩, .string ⟨#[10]⟩, .string ⟨#[48]⟩, .string ⟨#[49]⟩, .string ⟨#[57]⟩, .string ⟨#[97]⟩, .string ⟨#[45]⟩, .string (tb [UInt8.ofNat x.toNat])] 9 _ rfl rfl).cell (tv_get (eightL x) y hy8)
    have e : (eightL x).getD y [] = q := by rw [hq, hx]; unfold insT; rw [hy, Int.toNat_natCast]
    rw [e] at h
    rw [show w.heap.size + 1 = (w.alloc (.cells #[.int .u8 x] 5)).heap.size from (World.size_alloc ..).symm]
    exact h
  have HE : Hid (speltP t n k v = if c = 0 then t.take p ++ t.drop (p + 1) else if c = 1 then t.take p ++ (q ++ t.drop p) else if c = 2 then t.take p ++ (q ++ t.drop (p + 1)) else t.take p) := Lib.hid (by
    unfold speltP
    rw [if_neg hne, ← hc, ← hm, hp, ← hq, Int.toNat_natCast, List.append_assoc, List.append_assoc])
  have hm4 : m ≤ 4000 := by omega
  have s1 : (tb t).extract 0 p = tb (t.take p) := by rw [tb_sub]; simp
  have s2 : (tb t).extract p m = tb (t.drop p) := by rw [tb_sub, List.take_of_length_le (by rw [List.length_drop]; omega)]
  have s3 : (tb t).extract (p + 1) m = tb (t.drop (p + 1)) := by rw [tb_sub, List.take_of_length_le (by rw [List.length_drop]; omega)]
  have hw1 : IntKind.i64.wrap ((p : Int) + 1) = (p : Int) + 1 := IntWalk.i64_in _ (by omega)
  have hn1 : ((p : Int) + 1).toNat = p + 1 := by omega
  have a1 : tb (t.take p) ++ tb (t.drop (p + 1)) = tb (t.take p ++ t.drop (p + 1)) := tb_append _ _
  have a2 : tb (t.take p) ++ tb q = tb (t.take p ++ q) := tb_append _ _
  have a3 : tb (t.take p ++ q) ++ tb (t.drop p) = tb (t.take p ++ q ++ t.drop p) := tb_append _ _
  have a4 : tb (t.take p ++ q) ++ tb (t.drop (p + 1)) = tb (t.take p ++ q ++ t.drop (p + 1)) := tb_append _ _
  have b1 : ¬ 9223372036854775807 < (tb (t.take p)).size + (tb (t.drop (p + 1))).size := by rw [tb_size, tb_size, List.length_take, List.length_drop]; omega
  have b2 : ¬ 9223372036854775807 < (tb (t.take p)).size + (tb q).size := by rw [tb_size, tb_size, List.length_take]; omega
  have b3 : ¬ 9223372036854775807 < (tb (t.take p ++ q)).size + (tb (t.drop p)).size := by rw [tb_size, tb_size, List.length_append, List.length_take, List.length_drop]; omega
  have b4 : ¬ 9223372036854775807 < (tb (t.take p ++ q)).size + (tb (t.drop (p + 1))).size := by rw [tb_size, tb_size, List.length_append, List.length_take, List.length_drop]; omega
  clear hm hx hy hp hc hq hne ht hn hk hv hql
  have hcc : c = 0 ∨ c = 1 ∨ c = 2 ∨ c = 3 := by omega
  have HCC := Lib.hid hcc
  clear c0 c1 hcc
  go_enter Tryd.func24, Tryd.ntmps24
  go_wp2_with ((with_reducible refine (H3.out _).mono ?_); rintro e w0 ⟨rfl, rfl⟩)
  refine wp_region_held_drew (S := fun _ => True) (by kernel_rfl) (trivial) (fun hS0 => ?_)
  refine wpAnyH_take (i := 0) (oi := { dst := some 22, op := Op.move (Operand.tmp 3), type := 3, pos := "law.go:83", after := #[], guard := none }) (v := ?_) rfl (by kernel_rfl) (by kernel_rfl) (by kernel_rfl) (fun _ _ _ h => h) (Or.inl ⟨by rfl, ?_⟩) (by assumption) ?_
  rotate_left
  · (intro w' hSw; (try dsimp only at hSw); go_simp; try with_reducible rfl)
  try simp only [Act.put, List.setIfInBounds_toArray, List.set_cons_zero, List.set_cons_succ]
  refine wpAnyH_take (i := 6) (oi := { dst := some 28, op := Op.move (Operand.tmp 3), type := 3, pos := "law.go:83", after := #[], guard := none }) (v := ?_) rfl (by kernel_rfl) (by kernel_rfl) (by kernel_rfl) (fun _ _ _ h => h) (Or.inl ⟨by rfl, ?_⟩) (by assumption) ?_
  rotate_left
  · (intro w' hSw; (try dsimp only at hSw); go_simp; try with_reducible rfl)
  try simp only [Act.put, List.setIfInBounds_toArray, List.set_cons_zero, List.set_cons_succ]
  refine wpAnyH_ready (rs := [1]) (by kernel_rfl) (by simp) ?_
  refine AllReadyH.cons (o := { dst := some 23, op := Op.call { callee := Callee.value (Operand.func 32), args := #[Operand.tmp 22, Operand.const (Value.int IntKind.i64 256)], argTypes := #[3, 3] }, type := 3, pos := "law.go:83", after := #[{ on := 0, ground := Ground.data }], guard := none }) rfl (fun K hK => ?_) AllReadyH.nil
  go_simp
  go_at_call 32
  refine (H1.out _).mono ?_
  rintro e w0 ⟨rfl, rfl⟩
  refine hK.out _ _ trivial (fun _ => ?_)
  clear hK K
  try simp only [Act.put, List.setIfInBounds_toArray, List.set_cons_zero, List.set_cons_succ]
  refine wpAnyH_take (i := 2) (oi := { dst := some 24, op := Op.convert 3 5 (Operand.tmp 23), type := 5, pos := "law.go:83", after := #[{ on := 1, ground := Ground.data }], guard := none }) (v := ?_) rfl (by kernel_rfl) (by kernel_rfl) (by kernel_rfl) (fun _ _ _ h => h) (Or.inl ⟨by rfl, ?_⟩) (by assumption) ?_
  rotate_left
  · (intro w' hSw; (try dsimp only at hSw); go_simp; try with_reducible rfl)
  try simp only [Act.put, List.setIfInBounds_toArray, List.set_cons_zero, List.set_cons_succ]
  refine wpAnyH_ready (rs := [3, 7]) (by kernel_rfl) (by simp) ?_
  refine (AllReadyH.cons (o := { dst := some 25, op := Op.buildSlice 46 1 #[(0, Operand.tmp 24)], type := 46, pos := "law.go:83", after := #[{ on := 2, ground := Ground.data }], guard := none }) rfl (fun K hK => ?_) (AllReadyH.cons (o := { dst := some 29, op := Op.call { callee := Callee.value (Operand.func 32), args := #[Operand.tmp 28, Operand.const (Value.int IntKind.i64 8)], argTypes := #[3, 3] }, type := 3, pos := "law.go:83", after := #[{ on := 6, ground := Ground.data }, { on := 1, ground := Ground.chain }], guard := none }) rfl (fun K hK => ?_) AllReadyH.nil))
  · go_simp
    refine hK.out _ _ trivial (fun _ => ?_)
    clear hK K
    try simp only [Act.put, List.setIfInBounds_toArray, List.set_cons_zero, List.set_cons_succ]
    refine wpAnyH_ready (rs := [4, 7]) (by kernel_rfl) (by simp) ?_
    refine (AllReadyH.cons (o := { dst := some 26, op := Op.convert 46 9 (Operand.tmp 25), type := 9, pos := "law.go:83", after := #[{ on := 3, ground := Ground.data }], guard := none }) rfl (fun K hK => ?_) (AllReadyH.cons (o := { dst := some 29, op := Op.call { callee := Callee.value (Operand.func 32), args := #[Operand.tmp 28, Operand.const (Value.int IntKind.i64 8)], argTypes := #[3, 3] }, type := 3, pos := "law.go:83", after := #[{ on := 6, ground := Ground.data }, { on := 1, ground := Ground.chain }], guard := none }) rfl (fun K hK => ?_) AllReadyH.nil))
    · go_simp
      refine hK.out _ _ trivial (fun _ => ?_)
      clear hK K
      try simp only [Act.put, List.setIfInBounds_toArray, List.set_cons_zero, List.set_cons_succ]
      refine wpAnyH_ready (rs := [5, 7]) (by kernel_rfl) (by simp) ?_
      refine (AllReadyH.cons (o := { dst := some 27, op := Op.buildSlice 26 8 #[(0, Operand.const (Value.string { data := #[32] })), (1, Operand.const (Value.string { data := #[10] })), (2, Operand.const (Value.string { data := #[48] })), (3, Operand.const (Value.string { data := #[49] })), (4, Operand.const (Value.string { data := #[57] })), (5, Operand.const (Value.string { data := #[97] })), (6, Operand.const (Value.string { data := #[45] })), (7, Operand.tmp 26)], type := 26, pos := "law.go:83", after := #[{ on := 4, ground := Ground.data }], guard := none }) rfl (fun K hK => ?_) (AllReadyH.cons (o := { dst := some 29, op := Op.call { callee := Callee.value (Operand.func 32), args := #[Operand.tmp 28, Operand.const (Value.int IntKind.i64 8)], argTypes := #[3, 3] }, type := 3, pos := "law.go:83", after := #[{ on := 6, ground := Ground.data }, { on := 1, ground := Ground.chain }], guard := none }) rfl (fun K hK => ?_) AllReadyH.nil))
      · go_simp
        refine hK.out _ _ trivial (fun _ => ?_)
        clear hK K
        try simp only [Act.put, List.setIfInBounds_toArray, List.set_cons_zero, List.set_cons_succ]
        refine wpAnyH_ready (rs := [7]) (by kernel_rfl) (by simp) ?_
        refine (AllReadyH.cons (o := { dst := some 29, op := Op.call { callee := Callee.value (Operand.func 32), args := #[Operand.tmp 28, Operand.const (Value.int IntKind.i64 8)], argTypes := #[3, 3] }, type := 3, pos := "law.go:83", after := #[{ on := 6, ground := Ground.data }, { on := 1, ground := Ground.chain }], guard := none }) rfl (fun K hK => ?_) AllReadyH.nil)
        go_simp
        go_at_call 32
        refine (H2.out _).mono ?_
        rintro e w0 ⟨rfl, rfl⟩
        refine hK.out _ _ trivial (fun _ => ?_)
        clear hK K
        try simp only [Act.put, List.setIfInBounds_toArray, List.set_cons_zero, List.set_cons_succ]
        refine wpAnyH_ready (rs := [8]) (by kernel_rfl) (by simp) ?_
        refine AllReadyH.cons (o := { dst := some 30, op := Op.indexAddr 26 (Operand.tmp 27) (Operand.tmp 29), type := 0, pos := "law.go:83", after := #[{ on := 5, ground := Ground.data }, { on := 7, ground := Ground.data }], guard := none }) rfl (fun K hK => ?_) AllReadyH.nil
        go_simp
        refine hK.out _ _ trivial (fun _ => ?_)
        clear hK K
        try simp only [Act.put, List.setIfInBounds_toArray, List.set_cons_zero, List.set_cons_succ]
        refine wpAnyH_ready (rs := [9]) (by kernel_rfl) (by simp) ?_
        refine AllReadyH.cons (o := { dst := some 31, op := Op.load 9 (Operand.tmp 30), type := 9, pos := "law.go:83", after := #[{ on := 8, ground := Ground.data }], guard := none }) rfl (fun K hK => ?_) AllReadyH.nil
        go_simp
        refine hK.out _ _ trivial (fun _ => ?_)
        clear hK K
        try simp only [Act.put, List.setIfInBounds_toArray, List.set_cons_zero, List.set_cons_succ]
        refine wpAnyH_take (i := 10) (oi := { dst := some 10, op := Op.assign (Operand.tmp 31), type := 9, pos := "law.go:83", after := #[{ on := 9, ground := Ground.data }, { on := 7, ground := Ground.chain }, { on := 0, ground := Ground.phase }, { on := 1, ground := Ground.phase }, { on := 2, ground := Ground.phase }, { on := 3, ground := Ground.phase }, { on := 4, ground := Ground.phase }, { on := 5, ground := Ground.phase }, { on := 6, ground := Ground.phase }, { on := 7, ground := Ground.phase }, { on := 8, ground := Ground.phase }, { on := 9, ground := Ground.phase }], guard := none }) (v := ?_) rfl (by kernel_rfl) (by kernel_rfl) (by kernel_rfl) (fun _ _ _ h => h) (Or.inl ⟨by rfl, ?_⟩) (by assumption) ?_
        rotate_left
        · (intro w' hSw; (try dsimp only at hSw); go_simp; try with_reducible rfl)
        try simp only [Act.put, List.setIfInBounds_toArray, List.set_cons_zero, List.set_cons_succ]
        refine wpAnyH_done (by kernel_rfl) ?_ _
        rcases HCC.out with hc | hc | hc | hc
        · subst hc
          go_wp2_with ((with_reducible refine (H4.out _).mono ?_); rintro e w0 ⟨rfl, rfl⟩)
          go_quiet (fail)
          go_wp2_with fail
          go_ret
          exact ⟨by rw [HE.out]; rfl, below_drewN (below_al (below_a1 _ _) _).drew _⟩
        · subst hc
          go_wp2_with ((with_reducible refine (H4.out _).mono ?_); rintro e w0 ⟨rfl, rfl⟩)
          go_quiet (fail)
          go_wp2_with fail
          go_ret
          exact ⟨by rw [HE.out]; rfl, below_drewN (below_al (below_a1 _ _) _).drew _⟩
        · subst hc
          go_wp2_with ((with_reducible refine (H4.out _).mono ?_); rintro e w0 ⟨rfl, rfl⟩)
          go_quiet (fail)
          go_wp2_with fail
          go_ret
          exact ⟨by rw [HE.out]; rfl, below_drewN (below_al (below_a1 _ _) _).drew _⟩
        · subst hc
          go_wp2_with ((with_reducible refine (H4.out _).mono ?_); rintro e w0 ⟨rfl, rfl⟩)
          go_ret
          exact ⟨by rw [HE.out]; rfl, (below_al (below_a1 _ _) _).drew⟩
      · go_simp
        go_at_call 32
        refine (H2.out _).mono ?_
        rintro e w0 ⟨rfl, rfl⟩
        refine hK.out _ _ trivial (fun _ => ?_)
        clear hK K
        try simp only [Act.put, List.setIfInBounds_toArray, List.set_cons_zero, List.set_cons_succ]
        refine wpAnyH_ready (rs := [5]) (by kernel_rfl) (by simp) ?_
        refine (AllReadyH.cons (o := { dst := some 27, op := Op.buildSlice 26 8 #[(0, Operand.const (Value.string { data := #[32] })), (1, Operand.const (Value.string { data := #[10] })), (2, Operand.const (Value.string { data := #[48] })), (3, Operand.const (Value.string { data := #[49] })), (4, Operand.const (Value.string { data := #[57] })), (5, Operand.const (Value.string { data := #[97] })), (6, Operand.const (Value.string { data := #[45] })), (7, Operand.tmp 26)], type := 26, pos := "law.go:83", after := #[{ on := 4, ground := Ground.data }], guard := none }) rfl (fun K hK => ?_) AllReadyH.nil)
        go_simp
        refine hK.out _ _ trivial (fun _ => ?_)
        clear hK K
        try simp only [Act.put, List.setIfInBounds_toArray, List.set_cons_zero, List.set_cons_succ]
        refine wpAnyH_ready (rs := [8]) (by kernel_rfl) (by simp) ?_
        refine AllReadyH.cons (o := { dst := some 30, op := Op.indexAddr 26 (Operand.tmp 27) (Operand.tmp 29), type := 0, pos := "law.go:83", after := #[{ on := 5, ground := Ground.data }, { on := 7, ground := Ground.data }], guard := none }) rfl (fun K hK => ?_) AllReadyH.nil
        go_simp
        refine hK.out _ _ trivial (fun _ => ?_)
        clear hK K
        try simp only [Act.put, List.setIfInBounds_toArray, List.set_cons_zero, List.set_cons_succ]
        refine wpAnyH_ready (rs := [9]) (by kernel_rfl) (by simp) ?_
        refine AllReadyH.cons (o := { dst := some 31, op := Op.load 9 (Operand.tmp 30), type := 9, pos := "law.go:83", after := #[{ on := 8, ground := Ground.data }], guard := none }) rfl (fun K hK => ?_) AllReadyH.nil
        go_simp
        refine hK.out _ _ trivial (fun _ => ?_)
        clear hK K
        try simp only [Act.put, List.setIfInBounds_toArray, List.set_cons_zero, List.set_cons_succ]
        refine wpAnyH_take (i := 10) (oi := { dst := some 10, op := Op.assign (Operand.tmp 31), type := 9, pos := "law.go:83", after := #[{ on := 9, ground := Ground.data }, { on := 7, ground := Ground.chain }, { on := 0, ground := Ground.phase }, { on := 1, ground := Ground.phase }, { on := 2, ground := Ground.phase }, { on := 3, ground := Ground.phase }, { on := 4, ground := Ground.phase }, { on := 5, ground := Ground.phase }, { on := 6, ground := Ground.phase }, { on := 7, ground := Ground.phase }, { on := 8, ground := Ground.phase }, { on := 9, ground := Ground.phase }], guard := none }) (v := ?_) rfl (by kernel_rfl) (by kernel_rfl) (by kernel_rfl) (fun _ _ _ h => h) (Or.inl ⟨by rfl, ?_⟩) (by assumption) ?_
        rotate_left
        · (intro w' hSw; (try dsimp only at hSw); go_simp; try with_reducible rfl)
        try simp only [Act.put, List.setIfInBounds_toArray, List.set_cons_zero, List.set_cons_succ]
        refine wpAnyH_done (by kernel_rfl) ?_ _
        rcases HCC.out with hc | hc | hc | hc
        · subst hc
          go_wp2_with ((with_reducible refine (H4.out _).mono ?_); rintro e w0 ⟨rfl, rfl⟩)
          go_quiet (fail)
          go_wp2_with fail
          go_ret
          exact ⟨by rw [HE.out]; rfl, below_drewN (below_al (below_a1 _ _) _).drew _⟩
        · subst hc
          go_wp2_with ((with_reducible refine (H4.out _).mono ?_); rintro e w0 ⟨rfl, rfl⟩)
          go_quiet (fail)
          go_wp2_with fail
          go_ret
          exact ⟨by rw [HE.out]; rfl, below_drewN (below_al (below_a1 _ _) _).drew _⟩
        · subst hc
          go_wp2_with ((with_reducible refine (H4.out _).mono ?_); rintro e w0 ⟨rfl, rfl⟩)
          go_quiet (fail)
          go_wp2_with fail
          go_ret
          exact ⟨by rw [HE.out]; rfl, below_drewN (below_al (below_a1 _ _) _).drew _⟩
        · subst hc
          go_wp2_with ((with_reducible refine (H4.out _).mono ?_); rintro e w0 ⟨rfl, rfl⟩)
          go_ret
          exact ⟨by rw [HE.out]; rfl, (below_al (below_a1 _ _) _).drew⟩
    · go_simp
      go_at_call 32
      refine (H2.out _).mono ?_
      rintro e w0 ⟨rfl, rfl⟩
      refine hK.out _ _ trivial (fun _ => ?_)
      clear hK K
      try simp only [Act.put, List.setIfInBounds_toArray, List.set_cons_zero, List.set_cons_succ]
      refine wpAnyH_ready (rs := [4]) (by kernel_rfl) (by simp) ?_
      refine (AllReadyH.cons (o := { dst := some 26, op := Op.convert 46 9 (Operand.tmp 25), type := 9, pos := "law.go:83", after := #[{ on := 3, ground := Ground.data }], guard := none }) rfl (fun K hK => ?_) AllReadyH.nil)
      go_simp
      refine hK.out _ _ trivial (fun _ => ?_)
      clear hK K
      try simp only [Act.put, List.setIfInBounds_toArray, List.set_cons_zero, List.set_cons_succ]
      refine wpAnyH_ready (rs := [5]) (by kernel_rfl) (by simp) ?_
      refine (AllReadyH.cons (o := { dst := some 27, op := Op.buildSlice 26 8 #[(0, Operand.const (Value.string { data := #[32] })), (1, Operand.const (Value.string { data := #[10] })), (2, Operand.const (Value.string { data := #[48] })), (3, Operand.const (Value.string { data := #[49] })), (4, Operand.const (Value.string { data := #[57] })), (5, Operand.const (Value.string { data := #[97] })), (6, Operand.const (Value.string { data := #[45] })), (7, Operand.tmp 26)], type := 26, pos := "law.go:83", after := #[{ on := 4, ground := Ground.data }], guard := none }) rfl (fun K hK => ?_) AllReadyH.nil)
      go_simp
      refine hK.out _ _ trivial (fun _ => ?_)
      clear hK K
      try simp only [Act.put, List.setIfInBounds_toArray, List.set_cons_zero, List.set_cons_succ]
      refine wpAnyH_ready (rs := [8]) (by kernel_rfl) (by simp) ?_
      refine AllReadyH.cons (o := { dst := some 30, op := Op.indexAddr 26 (Operand.tmp 27) (Operand.tmp 29), type := 0, pos := "law.go:83", after := #[{ on := 5, ground := Ground.data }, { on := 7, ground := Ground.data }], guard := none }) rfl (fun K hK => ?_) AllReadyH.nil
      go_simp
      refine hK.out _ _ trivial (fun _ => ?_)
      clear hK K
      try simp only [Act.put, List.setIfInBounds_toArray, List.set_cons_zero, List.set_cons_succ]
      refine wpAnyH_ready (rs := [9]) (by kernel_rfl) (by simp) ?_
      refine AllReadyH.cons (o := { dst := some 31, op := Op.load 9 (Operand.tmp 30), type := 9, pos := "law.go:83", after := #[{ on := 8, ground := Ground.data }], guard := none }) rfl (fun K hK => ?_) AllReadyH.nil
      go_simp
      refine hK.out _ _ trivial (fun _ => ?_)
      clear hK K
      try simp only [Act.put, List.setIfInBounds_toArray, List.set_cons_zero, List.set_cons_succ]
      refine wpAnyH_take (i := 10) (oi := { dst := some 10, op := Op.assign (Operand.tmp 31), type := 9, pos := "law.go:83", after := #[{ on := 9, ground := Ground.data }, { on := 7, ground := Ground.chain }, { on := 0, ground := Ground.phase }, { on := 1, ground := Ground.phase }, { on := 2, ground := Ground.phase }, { on := 3, ground := Ground.phase }, { on := 4, ground := Ground.phase }, { on := 5, ground := Ground.phase }, { on := 6, ground := Ground.phase }, { on := 7, ground := Ground.phase }, { on := 8, ground := Ground.phase }, { on := 9, ground := Ground.phase }], guard := none }) (v := ?_) rfl (by kernel_rfl) (by kernel_rfl) (by kernel_rfl) (fun _ _ _ h => h) (Or.inl ⟨by rfl, ?_⟩) (by assumption) ?_
      rotate_left
      · (intro w' hSw; (try dsimp only at hSw); go_simp; try with_reducible rfl)
      try simp only [Act.put, List.setIfInBounds_toArray, List.set_cons_zero, List.set_cons_succ]
      refine wpAnyH_done (by kernel_rfl) ?_ _
      rcases HCC.out with hc | hc | hc | hc
      · subst hc
        go_wp2_with ((with_reducible refine (H4.out _).mono ?_); rintro e w0 ⟨rfl, rfl⟩)
        go_quiet (fail)
        go_wp2_with fail
        go_ret
        exact ⟨by rw [HE.out]; rfl, below_drewN (below_al (below_a1 _ _) _).drew _⟩
      · subst hc
        go_wp2_with ((with_reducible refine (H4.out _).mono ?_); rintro e w0 ⟨rfl, rfl⟩)
        go_quiet (fail)
        go_wp2_with fail
        go_ret
        exact ⟨by rw [HE.out]; rfl, below_drewN (below_al (below_a1 _ _) _).drew _⟩
      · subst hc
        go_wp2_with ((with_reducible refine (H4.out _).mono ?_); rintro e w0 ⟨rfl, rfl⟩)
        go_quiet (fail)
        go_wp2_with fail
        go_ret
        exact ⟨by rw [HE.out]; rfl, below_drewN (below_al (below_a1 _ _) _).drew _⟩
      · subst hc
        go_wp2_with ((with_reducible refine (H4.out _).mono ?_); rintro e w0 ⟨rfl, rfl⟩)
        go_ret
        exact ⟨by rw [HE.out]; rfl, (below_al (below_a1 _ _) _).drew⟩
  · go_simp
    go_at_call 32
    refine (H2.out _).mono ?_
    rintro e w0 ⟨rfl, rfl⟩
    refine hK.out _ _ trivial (fun _ => ?_)
    clear hK K
    try simp only [Act.put, List.setIfInBounds_toArray, List.set_cons_zero, List.set_cons_succ]
    refine wpAnyH_ready (rs := [3]) (by kernel_rfl) (by simp) ?_
    refine (AllReadyH.cons (o := { dst := some 25, op := Op.buildSlice 46 1 #[(0, Operand.tmp 24)], type := 46, pos := "law.go:83", after := #[{ on := 2, ground := Ground.data }], guard := none }) rfl (fun K hK => ?_) AllReadyH.nil)
    go_simp
    refine hK.out _ _ trivial (fun _ => ?_)
    clear hK K
    try simp only [Act.put, List.setIfInBounds_toArray, List.set_cons_zero, List.set_cons_succ]
    refine wpAnyH_ready (rs := [4]) (by kernel_rfl) (by simp) ?_
    refine (AllReadyH.cons (o := { dst := some 26, op := Op.convert 46 9 (Operand.tmp 25), type := 9, pos := "law.go:83", after := #[{ on := 3, ground := Ground.data }], guard := none }) rfl (fun K hK => ?_) AllReadyH.nil)
    go_simp
    refine hK.out _ _ trivial (fun _ => ?_)
    clear hK K
    try simp only [Act.put, List.setIfInBounds_toArray, List.set_cons_zero, List.set_cons_succ]
    refine wpAnyH_ready (rs := [5]) (by kernel_rfl) (by simp) ?_
    refine (AllReadyH.cons (o := { dst := some 27, op := Op.buildSlice 26 8 #[(0, Operand.const (Value.string { data := #[32] })), (1, Operand.const (Value.string { data := #[10] })), (2, Operand.const (Value.string { data := #[48] })), (3, Operand.const (Value.string { data := #[49] })), (4, Operand.const (Value.string { data := #[57] })), (5, Operand.const (Value.string { data := #[97] })), (6, Operand.const (Value.string { data := #[45] })), (7, Operand.tmp 26)], type := 26, pos := "law.go:83", after := #[{ on := 4, ground := Ground.data }], guard := none }) rfl (fun K hK => ?_) AllReadyH.nil)
    go_simp
    refine hK.out _ _ trivial (fun _ => ?_)
    clear hK K
    try simp only [Act.put, List.setIfInBounds_toArray, List.set_cons_zero, List.set_cons_succ]
    refine wpAnyH_ready (rs := [8]) (by kernel_rfl) (by simp) ?_
    refine AllReadyH.cons (o := { dst := some 30, op := Op.indexAddr 26 (Operand.tmp 27) (Operand.tmp 29), type := 0, pos := "law.go:83", after := #[{ on := 5, ground := Ground.data }, { on := 7, ground := Ground.data }], guard := none }) rfl (fun K hK => ?_) AllReadyH.nil
    go_simp
    refine hK.out _ _ trivial (fun _ => ?_)
    clear hK K
    try simp only [Act.put, List.setIfInBounds_toArray, List.set_cons_zero, List.set_cons_succ]
    refine wpAnyH_ready (rs := [9]) (by kernel_rfl) (by simp) ?_
    refine AllReadyH.cons (o := { dst := some 31, op := Op.load 9 (Operand.tmp 30), type := 9, pos := "law.go:83", after := #[{ on := 8, ground := Ground.data }], guard := none }) rfl (fun K hK => ?_) AllReadyH.nil
    go_simp
    refine hK.out _ _ trivial (fun _ => ?_)
    clear hK K
    try simp only [Act.put, List.setIfInBounds_toArray, List.set_cons_zero, List.set_cons_succ]
    refine wpAnyH_take (i := 10) (oi := { dst := some 10, op := Op.assign (Operand.tmp 31), type := 9, pos := "law.go:83", after := #[{ on := 9, ground := Ground.data }, { on := 7, ground := Ground.chain }, { on := 0, ground := Ground.phase }, { on := 1, ground := Ground.phase }, { on := 2, ground := Ground.phase }, { on := 3, ground := Ground.phase }, { on := 4, ground := Ground.phase }, { on := 5, ground := Ground.phase }, { on := 6, ground := Ground.phase }, { on := 7, ground := Ground.phase }, { on := 8, ground := Ground.phase }, { on := 9, ground := Ground.phase }], guard := none }) (v := ?_) rfl (by kernel_rfl) (by kernel_rfl) (by kernel_rfl) (fun _ _ _ h => h) (Or.inl ⟨by rfl, ?_⟩) (by assumption) ?_
    rotate_left
    · (intro w' hSw; (try dsimp only at hSw); go_simp; try with_reducible rfl)
    try simp only [Act.put, List.setIfInBounds_toArray, List.set_cons_zero, List.set_cons_succ]
    refine wpAnyH_done (by kernel_rfl) ?_ _
    rcases HCC.out with hc | hc | hc | hc
    · subst hc
      go_wp2_with ((with_reducible refine (H4.out _).mono ?_); rintro e w0 ⟨rfl, rfl⟩)
      go_quiet (fail)
      go_wp2_with fail
      go_ret
      exact ⟨by rw [HE.out]; rfl, below_drewN (below_al (below_a1 _ _) _).drew _⟩
    · subst hc
      go_wp2_with ((with_reducible refine (H4.out _).mono ?_); rintro e w0 ⟨rfl, rfl⟩)
      go_quiet (fail)
      go_wp2_with fail
      go_ret
      exact ⟨by rw [HE.out]; rfl, below_drewN (below_al (below_a1 _ _) _).drew _⟩
    · subst hc
      go_wp2_with ((with_reducible refine (H4.out _).mono ?_); rintro e w0 ⟨rfl, rfl⟩)
      go_quiet (fail)
      go_wp2_with fail
      go_ret
      exact ⟨by rw [HE.out]; rfl, below_drewN (below_al (below_a1 _ _) _).drew _⟩
    · subst hc
      go_wp2_with ((with_reducible refine (H4.out _).mono ?_); rintro e w0 ⟨rfl, rfl⟩)
      go_ret
      exact ⟨by rw [HE.out]; rfl, (below_al (below_a1 _ _) _).drew⟩

end Go.Proofs.YtolkmjgklgimpaaDoor
