/-
  The walk of wire.GetInt, the ways that come to its loop.
-/
import Derived.Test.YtkaaejfochdjcaaDoorWGet
namespace Go.Proofs.YtkaaejfochdjcaaDoor
open Go.RowKit
set_option linter.unusedVariables false

theorem ret3_eq {a a' b b' c c' : Int} (h1 : a = a') (h2 : b = b') (h3 : c = c') : Ending.returned (.tuple #[.int .i64 a, .int .i64 b, .int .i64 c]) = .returned (.tuple #[.int .i64 a', .int .i64 b', .int .i64 c']) := by rw [h1, h2, h3]
theorem or8 (m d : Nat) (hm : m < 72057594037927936) (hd : d ≤ 255) : bits .or .u64 ((m : Int) * 256) (d : Int) = ((256 * m + d : Nat) : Int) := by
  have e : ((m : Int) * 256) = ((256 * m : Nat) : Int) := by omega
  rw [e, u64_or_nat _ _ (by omega) (by omega), nat_join 8 (256 * m) d (by omega) (by omega)]
theorem or8n (m d : Nat) (hm : m < 72057594037927936) (hd : d ≤ 255) : bits .or .u64 ((m : Int) * 256) (255 - (d : Int)) = ((256 * m + (255 - d) : Nat) : Int) := by
  have e : (255 - (d : Int)) = ((255 - d : Nat) : Int) := by omega
  rw [e, or8 m _ hm (by omega)]
theorem not63 (m : Nat) (hm : m < 9223372036854775808) : wrap64 (bits .xor .u64 IntKind.u64.max (m : Int)) = -1 - (m : Int) := by
  have h : bits .xor .u64 IntKind.u64.max (m : Int) = ((18446744073709551615 - m : Nat) : Int) := by
    show IntKind.u64.wrap ((BitVec.ofInt 64 18446744073709551615 ^^^ BitVec.ofInt 64 (m : Int)).toNat : Int) = _
    have h1 : BitVec.ofInt 64 18446744073709551615 = BitVec.allOnes 64 := by decide
    rw [h1, BitVec.allOnes_xor, BitVec.toNat_not, ofInt_u64 m (by omega)]
    simp [IntKind.wrap, IntKind.bits, IntKind.signed]
    omega
  rw [h]
  unfold wrap64
  omega
theorem shr63 (m : Nat) (hm : m < 9223372036854775808) : ((m : Int) / 9223372036854775808 != 0) = false := by
  have : (m : Int) / 9223372036854775808 = 0 := by omega
  rw [this]; rfl
theorem shr63' (m : Nat) (hm : 9223372036854775808 ≤ m) (hl : m < 18446744073709551616) : ((m : Int) / 9223372036854775808 != 0) = true := by
  have : (m : Int) / 9223372036854775808 = 1 := by omega
  rw [this]; rfl
theorem wrap63 (m : Nat) (hm : m < 9223372036854775808) : wrap64 (m : Int) = (m : Int) := IntWalk.wrap64_in _ ⟨by omega, by omega⟩

set_option maxRecDepth 100000 in
set_option maxHeartbeats 400000 in
theorem getInt_neg_zero (b o c k n : Nat) (w : World) (hk : k ≤ 127) (hc : n + 1 ≤ c) (hm : c ≤ 9223372036854775807) (h0 : w.cell? ⟨b, o, none⟩ = some (.int .u8 (127 - (k : Int)))) (h8 : k ≤ 0) : Calls Tryd.prog 78 #[.slice (some ⟨b, o, none⟩) ((n : Nat) + 1) c] w fun e w' => e = .returned (.tuple #[.int .i64 (-1), .int .i64 1, .int .i64 0]) ∧ w = w' := by
  have hx := not8 k hk
  have hne : ((n : Int) + 1 == 0) = false := by rw [beq_eq_false_iff_ne]; omega
  go_enter Tryd.func78, Tryd.ntmps78
  go_wp2
  all_goals (refine wp_loop_rounds 1 ?_; rw [rounds_succ]; go_wp2)
  all_goals go_ret3
  all_goals exact ⟨ret3_eq (by kernel_rfl) (by omega) rfl, rfl⟩

set_option maxRecDepth 100000 in
set_option maxHeartbeats 400000 in
theorem getInt_neg_ok (b o c k n : Nat) (w : World) (hk : k ≤ 127) (hc : n + 1 ≤ c) (hm : c ≤ 9223372036854775807) (h0 : w.cell? ⟨b, o, none⟩ = some (.int .u8 (127 - (k : Int)))) (D V : Nat → Nat) (hD : ∀ j, D j ≤ 255) (hV0 : V 0 = 0) (hVs : ∀ j, V (j + 1) = 256 * V j + (255 - D j)) (hVb : ∀ j, j < k → V j < 72057594037927936) (h8 : k ≤ 8) (hn : k ≤ n) (hk0 : 0 < k)
    (hl : ((D 0 : Int) == 255) = false) (hr : ∀ j, j < k → w.cell? ⟨b, o + 1 + j, none⟩ = some (.int .u8 (D j))) (h63 : V k < 9223372036854775808) : Calls Tryd.prog 78 #[.slice (some ⟨b, o, none⟩) ((n : Nat) + 1) c] w fun e w' => e = .returned (.tuple #[.int .i64 (-1 - (V k : Int)), .int .i64 (1 + (k : Int)), .int .i64 0]) ∧ w = w' := by
  have h1 : w.cell? ⟨b, o + 1, none⟩ = some (.int .u8 (D 0)) := hr 0 hk0
  have HR := Lib.hid hr; clear hr
  have HD := Lib.hid hD; clear hD
  have H0 := Lib.hid hV0; clear hV0
  have HS := Lib.hid hVs; clear hVs
  have HB := Lib.hid hVb; clear hVb
  have hbig := shr63 _ h63
  have H63 := Lib.hid h63; clear h63
  have hx := not8 k hk
  have hne : ((n : Int) + 1 == 0) = false := by rw [beq_eq_false_iff_ne]; omega
  go_enter Tryd.func78, Tryd.ntmps78
  go_wp2
  go_loop [8, 45] (fun m i => ∃ j : Nat, j ≤ k ∧ i = .int .i64 j ∧ m = .int .u64 (V j)) (fun _ i => k - (intOf i).toNat)
  case atStart => exact ⟨0, by omega, rfl, by rw [H0.out]; rfl⟩
  case round =>
    obtain ⟨j, hj, rfl, rfl⟩ := hrel
    by_cases hlt : j < k
    · have hcell := HR.out j hlt
      have hd := HD.out j
      have hb := HB.out j hlt
      have hx8 := xor255' (D j) (by omega)
      go_wp2
      go_round
      case rel => exact ⟨j + 1, by omega, by go_num, by rw [HS.out, or8n (V j) (D j) hb hd]⟩
      case measure => simp [intOf]; omega
    · obtain rfl : j = k := by omega
      go_wp2
      go_ret3
      exact ⟨ret3_eq (not63 _ H63.out) (by omega) rfl, rfl⟩

set_option maxRecDepth 100000 in
set_option maxHeartbeats 400000 in
theorem getInt_neg_big (b o c k n : Nat) (w : World) (hk : k ≤ 127) (hc : n + 1 ≤ c) (hm : c ≤ 9223372036854775807) (h0 : w.cell? ⟨b, o, none⟩ = some (.int .u8 (127 - (k : Int)))) (D V : Nat → Nat) (hD : ∀ j, D j ≤ 255) (hV0 : V 0 = 0) (hVs : ∀ j, V (j + 1) = 256 * V j + (255 - D j)) (hVb : ∀ j, j < k → V j < 72057594037927936) (h8 : k ≤ 8) (hn : k ≤ n) (hk0 : 0 < k)
    (hl : ((D 0 : Int) == 255) = false) (hr : ∀ j, j < k → w.cell? ⟨b, o + 1 + j, none⟩ = some (.int .u8 (D j))) (h63 : 9223372036854775808 ≤ V k ∧ V k < 18446744073709551616) : Calls Tryd.prog 78 #[.slice (some ⟨b, o, none⟩) ((n : Nat) + 1) c] w fun e w' => e = .returned (.tuple #[.int .i64 0, .int .i64 0, .int .i64 2]) ∧ w = w' := by
  have h1 : w.cell? ⟨b, o + 1, none⟩ = some (.int .u8 (D 0)) := hr 0 hk0
  have HR := Lib.hid hr; clear hr
  have HD := Lib.hid hD; clear hD
  have H0 := Lib.hid hV0; clear hV0
  have HS := Lib.hid hVs; clear hVs
  have HB := Lib.hid hVb; clear hVb
  have hbig := shr63' _ h63.1 h63.2
  have H63 := Lib.hid h63; clear h63
  have hx := not8 k hk
  have hne : ((n : Int) + 1 == 0) = false := by rw [beq_eq_false_iff_ne]; omega
  go_enter Tryd.func78, Tryd.ntmps78
  go_wp2
  go_loop [8, 45] (fun m i => ∃ j : Nat, j ≤ k ∧ i = .int .i64 j ∧ m = .int .u64 (V j)) (fun _ i => k - (intOf i).toNat)
  case atStart => exact ⟨0, by omega, rfl, by rw [H0.out]; rfl⟩
  case round =>
    obtain ⟨j, hj, rfl, rfl⟩ := hrel
    by_cases hlt : j < k
    · have hcell := HR.out j hlt
      have hd := HD.out j
      have hb := HB.out j hlt
      have hx8 := xor255' (D j) (by omega)
      go_wp2
      go_round
      case rel => exact ⟨j + 1, by omega, by go_num, by rw [HS.out, or8n (V j) (D j) hb hd]⟩
      case measure => simp [intOf]; omega
    · obtain rfl : j = k := by omega
      go_wp2
      go_ret3
      exact ⟨rfl, rfl⟩

set_option maxRecDepth 100000 in
set_option maxHeartbeats 400000 in
theorem getInt_pos_zero (b o c k n : Nat) (w : World) (hk : k ≤ 127) (hc : n + 1 ≤ c) (hm : c ≤ 9223372036854775807) (h0 : w.cell? ⟨b, o, none⟩ = some (.int .u8 (128 + (k : Int)))) (h8 : k ≤ 0) : Calls Tryd.prog 78 #[.slice (some ⟨b, o, none⟩) ((n : Nat) + 1) c] w fun e w' => e = .returned (.tuple #[.int .i64 0, .int .i64 1, .int .i64 0]) ∧ w = w' := by
  have hne : ((n : Int) + 1 == 0) = false := by rw [beq_eq_false_iff_ne]; omega
  go_enter Tryd.func78, Tryd.ntmps78
  go_wp2
  all_goals (refine wp_loop_rounds 1 ?_; rw [rounds_succ]; go_wp2)
  all_goals go_ret3
  all_goals exact ⟨ret3_eq (by kernel_rfl) (by omega) rfl, rfl⟩

set_option maxRecDepth 100000 in
set_option maxHeartbeats 400000 in
theorem getInt_pos_ok (b o c k n : Nat) (w : World) (hk : k ≤ 127) (hc : n + 1 ≤ c) (hm : c ≤ 9223372036854775807) (h0 : w.cell? ⟨b, o, none⟩ = some (.int .u8 (128 + (k : Int)))) (D V : Nat → Nat) (hD : ∀ j, D j ≤ 255) (hV0 : V 0 = 0) (hVs : ∀ j, V (j + 1) = 256 * V j + D j) (hVb : ∀ j, j < k → V j < 72057594037927936) (h8 : k ≤ 8) (hn : k ≤ n) (hk0 : 0 < k)
    (hl : ((D 0 : Int) == 0) = false) (hr : ∀ j, j < k → w.cell? ⟨b, o + 1 + j, none⟩ = some (.int .u8 (D j))) (h63 : V k < 9223372036854775808) : Calls Tryd.prog 78 #[.slice (some ⟨b, o, none⟩) ((n : Nat) + 1) c] w fun e w' => e = .returned (.tuple #[.int .i64 (V k : Int), .int .i64 (1 + (k : Int)), .int .i64 0]) ∧ w = w' := by
  have h1 : w.cell? ⟨b, o + 1, none⟩ = some (.int .u8 (D 0)) := hr 0 hk0
  have HR := Lib.hid hr; clear hr
  have HD := Lib.hid hD; clear hD
  have H0 := Lib.hid hV0; clear hV0
  have HS := Lib.hid hVs; clear hVs
  have HB := Lib.hid hVb; clear hVb
  have hbig := shr63 _ h63
  have H63 := Lib.hid h63; clear h63
  have hne : ((n : Int) + 1 == 0) = false := by rw [beq_eq_false_iff_ne]; omega
  go_enter Tryd.func78, Tryd.ntmps78
  go_wp2
  go_loop [8, 45] (fun m i => ∃ j : Nat, j ≤ k ∧ i = .int .i64 j ∧ m = .int .u64 (V j)) (fun _ i => k - (intOf i).toNat)
  case atStart => exact ⟨0, by omega, rfl, by rw [H0.out]; rfl⟩
  case round =>
    obtain ⟨j, hj, rfl, rfl⟩ := hrel
    by_cases hlt : j < k
    · have hcell := HR.out j hlt
      have hd := HD.out j
      have hb := HB.out j hlt
      have hx8 := xor0 (D j) (by omega)
      go_wp2
      go_round
      case rel => exact ⟨j + 1, by omega, by go_num, by rw [HS.out, or8 (V j) (D j) hb hd]⟩
      case measure => simp [intOf]; omega
    · obtain rfl : j = k := by omega
      go_wp2
      go_ret3
      exact ⟨ret3_eq (wrap63 _ H63.out) (by omega) rfl, rfl⟩

set_option maxRecDepth 100000 in
set_option maxHeartbeats 400000 in
theorem getInt_pos_big (b o c k n : Nat) (w : World) (hk : k ≤ 127) (hc : n + 1 ≤ c) (hm : c ≤ 9223372036854775807) (h0 : w.cell? ⟨b, o, none⟩ = some (.int .u8 (128 + (k : Int)))) (D V : Nat → Nat) (hD : ∀ j, D j ≤ 255) (hV0 : V 0 = 0) (hVs : ∀ j, V (j + 1) = 256 * V j + D j) (hVb : ∀ j, j < k → V j < 72057594037927936) (h8 : k ≤ 8) (hn : k ≤ n) (hk0 : 0 < k)
    (hl : ((D 0 : Int) == 0) = false) (hr : ∀ j, j < k → w.cell? ⟨b, o + 1 + j, none⟩ = some (.int .u8 (D j))) (h63 : 9223372036854775808 ≤ V k ∧ V k < 18446744073709551616) : Calls Tryd.prog 78 #[.slice (some ⟨b, o, none⟩) ((n : Nat) + 1) c] w fun e w' => e = .returned (.tuple #[.int .i64 0, .int .i64 0, .int .i64 2]) ∧ w = w' := by
  have h1 : w.cell? ⟨b, o + 1, none⟩ = some (.int .u8 (D 0)) := hr 0 hk0
  have HR := Lib.hid hr; clear hr
  have HD := Lib.hid hD; clear hD
  have H0 := Lib.hid hV0; clear hV0
  have HS := Lib.hid hVs; clear hVs
  have HB := Lib.hid hVb; clear hVb
  have hbig := shr63' _ h63.1 h63.2
  have H63 := Lib.hid h63; clear h63
  have hne : ((n : Int) + 1 == 0) = false := by rw [beq_eq_false_iff_ne]; omega
  go_enter Tryd.func78, Tryd.ntmps78
  go_wp2
  go_loop [8, 45] (fun m i => ∃ j : Nat, j ≤ k ∧ i = .int .i64 j ∧ m = .int .u64 (V j)) (fun _ i => k - (intOf i).toNat)
  case atStart => exact ⟨0, by omega, rfl, by rw [H0.out]; rfl⟩
  case round =>
    obtain ⟨j, hj, rfl, rfl⟩ := hrel
    by_cases hlt : j < k
    · have hcell := HR.out j hlt
      have hd := HD.out j
      have hb := HB.out j hlt
      have hx8 := xor0 (D j) (by omega)
      go_wp2
      go_round
      case rel => exact ⟨j + 1, by omega, by go_num, by rw [HS.out, or8 (V j) (D j) hb hd]⟩
      case measure => simp [intOf]; omega
    · obtain rfl : j = k := by omega
      go_wp2
      go_ret3
      exact ⟨rfl, rfl⟩

end Go.Proofs.YtkaaejfochdjcaaDoor
