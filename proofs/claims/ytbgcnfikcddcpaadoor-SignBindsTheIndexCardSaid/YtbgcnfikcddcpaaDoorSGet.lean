/-
  wire.GetInt, walked: every slice of bytes.
-/
import Derived.Test.YtbgcnfikcddcpaaDoorHWire
namespace Go.Proofs.YtbgcnfikcddcpaaDoor
open Go.RowKit
set_option linter.unusedVariables false
def ret3 (r : Int × Nat × Int) : Ending := .returned (.tuple #[.int .i64 r.1, .int .i64 r.2.1, .int .i64 r.2.2])






set_option maxRecDepth 100000 in
set_option maxHeartbeats 400000 in
theorem getInt_nil (A : Option Addr) (c : Nat) (w : World) :
    Calls Tryd.prog 43 #[.slice A 0 c] w fun e w' => e = ret3 (gI []) ∧ w = w' := by
  go_enter Tryd.func43, Tryd.ntmps43
  go_wp2
  go_ret3
  exact ⟨rfl, rfl⟩

set_option maxRecDepth 100000 in
set_option maxHeartbeats 400000 in
theorem getInt_neg_far (b o c k n : Nat) (w : World) (hk : k ≤ 127) (hc : n + 1 ≤ c) (hm : c ≤ 9223372036854775807) (h0 : w.cell? ⟨b, o, none⟩ = some (.int .u8 (127 - (k : Int)))) (h8 : 8 < k) : Calls Tryd.prog 43 #[.slice (some ⟨b, o, none⟩) ((n : Nat) + 1) c] w fun e w' => e = .returned (.tuple #[.int .i64 0, .int .i64 0, .int .i64 2]) ∧ w = w' := by
  have hx := not8 k hk
  have hne : ((n : Int) + 1 == 0) = false := by rw [beq_eq_false_iff_ne]; omega
  go_enter Tryd.func43, Tryd.ntmps43
  go_wp2
  go_ret3
  exact ⟨rfl, rfl⟩

set_option maxRecDepth 100000 in
set_option maxHeartbeats 400000 in
theorem getInt_neg_more (b o c k n : Nat) (w : World) (hk : k ≤ 127) (hc : n + 1 ≤ c) (hm : c ≤ 9223372036854775807) (h0 : w.cell? ⟨b, o, none⟩ = some (.int .u8 (127 - (k : Int)))) (h8 : k ≤ 8) (hn : n < k) : Calls Tryd.prog 43 #[.slice (some ⟨b, o, none⟩) ((n : Nat) + 1) c] w fun e w' => e = .returned (.tuple #[.int .i64 0, .int .i64 0, .int .i64 3]) ∧ w = w' := by
  have hx := not8 k hk
  have hne : ((n : Int) + 1 == 0) = false := by rw [beq_eq_false_iff_ne]; omega
  go_enter Tryd.func43, Tryd.ntmps43
  go_wp2
  go_ret3
  exact ⟨rfl, rfl⟩

set_option maxRecDepth 100000 in
set_option maxHeartbeats 400000 in
theorem getInt_neg_lead (b o c k n : Nat) (w : World) (hk : k ≤ 127) (hc : n + 1 ≤ c) (hm : c ≤ 9223372036854775807) (h0 : w.cell? ⟨b, o, none⟩ = some (.int .u8 (127 - (k : Int)))) (h8 : k ≤ 8) (hn : k ≤ n) (hk0 : 0 < k) (h1 : w.cell? ⟨b, o + 1, none⟩ = some (.int .u8 255)) : Calls Tryd.prog 43 #[.slice (some ⟨b, o, none⟩) ((n : Nat) + 1) c] w fun e w' => e = .returned (.tuple #[.int .i64 0, .int .i64 0, .int .i64 2]) ∧ w = w' := by
  have hx := not8 k hk
  have hne : ((n : Int) + 1 == 0) = false := by rw [beq_eq_false_iff_ne]; omega
  go_enter Tryd.func43, Tryd.ntmps43
  go_wp2
  go_ret3
  exact ⟨rfl, rfl⟩

set_option maxRecDepth 100000 in
set_option maxHeartbeats 400000 in
theorem getInt_pos_far (b o c k n : Nat) (w : World) (hk : k ≤ 127) (hc : n + 1 ≤ c) (hm : c ≤ 9223372036854775807) (h0 : w.cell? ⟨b, o, none⟩ = some (.int .u8 (128 + (k : Int)))) (h8 : 8 < k) : Calls Tryd.prog 43 #[.slice (some ⟨b, o, none⟩) ((n : Nat) + 1) c] w fun e w' => e = .returned (.tuple #[.int .i64 0, .int .i64 0, .int .i64 2]) ∧ w = w' := by
  have hne : ((n : Int) + 1 == 0) = false := by rw [beq_eq_false_iff_ne]; omega
  go_enter Tryd.func43, Tryd.ntmps43
  go_wp2
  go_ret3
  exact ⟨rfl, rfl⟩

set_option maxRecDepth 100000 in
set_option maxHeartbeats 400000 in
theorem getInt_pos_more (b o c k n : Nat) (w : World) (hk : k ≤ 127) (hc : n + 1 ≤ c) (hm : c ≤ 9223372036854775807) (h0 : w.cell? ⟨b, o, none⟩ = some (.int .u8 (128 + (k : Int)))) (h8 : k ≤ 8) (hn : n < k) : Calls Tryd.prog 43 #[.slice (some ⟨b, o, none⟩) ((n : Nat) + 1) c] w fun e w' => e = .returned (.tuple #[.int .i64 0, .int .i64 0, .int .i64 3]) ∧ w = w' := by
  have hne : ((n : Int) + 1 == 0) = false := by rw [beq_eq_false_iff_ne]; omega
  go_enter Tryd.func43, Tryd.ntmps43
  go_wp2
  go_ret3
  exact ⟨rfl, rfl⟩

set_option maxRecDepth 100000 in
set_option maxHeartbeats 400000 in
theorem getInt_pos_lead (b o c k n : Nat) (w : World) (hk : k ≤ 127) (hc : n + 1 ≤ c) (hm : c ≤ 9223372036854775807) (h0 : w.cell? ⟨b, o, none⟩ = some (.int .u8 (128 + (k : Int)))) (h8 : k ≤ 8) (hn : k ≤ n) (hk0 : 0 < k) (h1 : w.cell? ⟨b, o + 1, none⟩ = some (.int .u8 0)) : Calls Tryd.prog 43 #[.slice (some ⟨b, o, none⟩) ((n : Nat) + 1) c] w fun e w' => e = .returned (.tuple #[.int .i64 0, .int .i64 0, .int .i64 2]) ∧ w = w' := by
  have hne : ((n : Int) + 1 == 0) = false := by rw [beq_eq_false_iff_ne]; omega
  go_enter Tryd.func43, Tryd.ntmps43
  go_wp2
  go_ret3
  exact ⟨rfl, rfl⟩
theorem ret3_eq {a a' b b' c c' : Int} (h1 : a = a') (h2 : b = b') (h3 : c = c') : Ending.returned (.tuple #[.int .i64 a, .int .i64 b, .int .i64 c]) = .returned (.tuple #[.int .i64 a', .int .i64 b', .int .i64 c']) := by rw [h1, h2, h3]
theorem or8 (m d : Nat) (hm : m < 72057594037927936) (hd : d ≤ 255) : bits .or .u64 ((m : Int) * 256) (d : Int) = ((256 * m + d : Nat) : Int) := by
  have e : ((m : Int) * 256) = ((256 * m : Nat) : Int) := by omega
  rw [e, u64_or_nat _ _ (by omega) (by omega), nat_join 8 (256 * m) d (by omega) (by omega)]
theorem or8n (m d : Nat) (hm : m < 72057594037927936) (hd : d ≤ 255) : bits .or .u64 ((m : Int) * 256) (255 - (d : Int)) = ((256 * m + (255 - d) : Nat) : Int) := by
  have e : (255 - (d : Int)) = ((255 - d : Nat) : Int) := by omega
  rw [e, or8 m _ hm (by omega)]
theorem not63 (m : Nat) (hm : m < 9223372036854775808) : wrap64 (bits .xor .u64 IntKind.u64.max (m : Int)) = -1 - (m : Int) := by
  have h : bits .xor .u64 IntKind.u64.max (m : Int) = ((18446744073709551615 - m : Nat) : Int) := by
    show IntKind.u64.wrap ((BitVec.ofInt 64 18446744073709551615 ^^^ BitVec.ofInt 64 (m : Int)).toNat : Int) = _
    have h1 : BitVec.ofInt 64 18446744073709551615 = BitVec.allOnes 64 := by decide
    rw [h1, BitVec.allOnes_xor, BitVec.toNat_not, ofInt_u64 m (by omega)]
    simp [IntKind.wrap, IntKind.bits, IntKind.signed]
    omega
  rw [h]
  unfold wrap64
  omega
theorem shr63 (m : Nat) (hm : m < 9223372036854775808) : ((m : Int) / 9223372036854775808 != 0) = false := by
  have : (m : Int) / 9223372036854775808 = 0 := by omega
  rw [this]; rfl
theorem shr63' (m : Nat) (hm : 9223372036854775808 ≤ m) (hl : m < 18446744073709551616) : ((m : Int) / 9223372036854775808 != 0) = true := by
  have : (m : Int) / 9223372036854775808 = 1 := by omega
  rw [this]; rfl
theorem wrap63 (m : Nat) (hm : m < 9223372036854775808) : wrap64 (m : Int) = (m : Int) := IntWalk.wrap64_in _ ⟨by omega, by omega⟩

set_option maxRecDepth 100000 in
set_option maxHeartbeats 400000 in
theorem getInt_neg_zero (b o c k n : Nat) (w : World) (hk : k ≤ 127) (hc : n + 1 ≤ c) (hm : c ≤ 9223372036854775807) (h0 : w.cell? ⟨b, o, none⟩ = some (.int .u8 (127 - (k : Int)))) (h8 : k ≤ 0) : Calls Tryd.prog 43 #[.slice (some ⟨b, o, none⟩) ((n : Nat) + 1) c] w fun e w' => e = .returned (.tuple #[.int .i64 (-1), .int .i64 1, .int .i64 0]) ∧ w = w' := by
  have hx := not8 k hk
  have hne : ((n : Int) + 1 == 0) = false := by rw [beq_eq_false_iff_ne]; omega
  go_enter Tryd.func43, Tryd.ntmps43
  go_wp2
  all_goals (refine wp_loop_rounds 1 ?_; rw [rounds_succ]; go_wp2)
  all_goals go_ret3
  all_goals exact ⟨ret3_eq (by kernel_rfl) (by omega) rfl, rfl⟩

set_option maxRecDepth 100000 in
set_option maxHeartbeats 400000 in
theorem getInt_neg_ok (b o c k n : Nat) (w : World) (hk : k ≤ 127) (hc : n + 1 ≤ c) (hm : c ≤ 9223372036854775807) (h0 : w.cell? ⟨b, o, none⟩ = some (.int .u8 (127 - (k : Int)))) (D V : Nat → Nat) (hD : ∀ j, D j ≤ 255) (hV0 : V 0 = 0) (hVs : ∀ j, V (j + 1) = 256 * V j + (255 - D j)) (hVb : ∀ j, j < k → V j < 72057594037927936) (h8 : k ≤ 8) (hn : k ≤ n) (hk0 : 0 < k)
    (hl : ((D 0 : Int) == 255) = false) (hr : ∀ j, j < k → w.cell? ⟨b, o + 1 + j, none⟩ = some (.int .u8 (D j))) (h63 : V k < 9223372036854775808) : Calls Tryd.prog 43 #[.slice (some ⟨b, o, none⟩) ((n : Nat) + 1) c] w fun e w' => e = .returned (.tuple #[.int .i64 (-1 - (V k : Int)), .int .i64 (1 + (k : Int)), .int .i64 0]) ∧ w = w' := by
  have h1 : w.cell? ⟨b, o + 1, none⟩ = some (.int .u8 (D 0)) := hr 0 hk0
  have HR := Lib.hid hr; clear hr
  have HD := Lib.hid hD; clear hD
  have H0 := Lib.hid hV0; clear hV0
  have HS := Lib.hid hVs; clear hVs
  have HB := Lib.hid hVb; clear hVb
  have hbig := shr63 _ h63
  have H63 := Lib.hid h63; clear h63
  have hx := not8 k hk
  have hne : ((n : Int) + 1 == 0) = false := by rw [beq_eq_false_iff_ne]; omega
  go_enter Tryd.func43, Tryd.ntmps43
  go_wp2
  go_loop [8, 45] (fun m i => ∃ j : Nat, j ≤ k ∧ i = .int .i64 j ∧ m = .int .u64 (V j)) (fun _ i => k - (intOf i).toNat)
  case atStart => exact ⟨0, by omega, rfl, by rw [H0.out]; rfl⟩
  case round =>
    obtain ⟨j, hj, rfl, rfl⟩ := hrel
    by_cases hlt : j < k
    · have hcell := HR.out j hlt
      have hd := HD.out j
      have hb := HB.out j hlt
      have hx8 := xor255' (D j) (by omega)
      go_wp2
      go_round
      case rel => exact ⟨j + 1, by omega, by go_num, by rw [HS.out, or8n (V j) (D j) hb hd]⟩
      case measure => simp [intOf]; omega
    · obtain rfl : j = k := by omega
      go_wp2
      go_ret3
      exact ⟨ret3_eq (not63 _ H63.out) (by omega) rfl, rfl⟩

set_option maxRecDepth 100000 in
set_option maxHeartbeats 400000 in
theorem getInt_neg_big (b o c k n : Nat) (w : World) (hk : k ≤ 127) (hc : n + 1 ≤ c) (hm : c ≤ 9223372036854775807) (h0 : w.cell? ⟨b, o, none⟩ = some (.int .u8 (127 - (k : Int)))) (D V : Nat → Nat) (hD : ∀ j, D j ≤ 255) (hV0 : V 0 = 0) (hVs : ∀ j, V (j + 1) = 256 * V j + (255 - D j)) (hVb : ∀ j, j < k → V j < 72057594037927936) (h8 : k ≤ 8) (hn : k ≤ n) (hk0 : 0 < k)
    (hl : ((D 0 : Int) == 255) = false) (hr : ∀ j, j < k → w.cell? ⟨b, o + 1 + j, none⟩ = some (.int .u8 (D j))) (h63 : 9223372036854775808 ≤ V k ∧ V k < 18446744073709551616) : Calls Tryd.prog 43 #[.slice (some ⟨b, o, none⟩) ((n : Nat) + 1) c] w fun e w' => e = .returned (.tuple #[.int .i64 0, .int .i64 0, .int .i64 2]) ∧ w = w' := by
  have h1 : w.cell? ⟨b, o + 1, none⟩ = some (.int .u8 (D 0)) := hr 0 hk0
  have HR := Lib.hid hr; clear hr
  have HD := Lib.hid hD; clear hD
  have H0 := Lib.hid hV0; clear hV0
  have HS := Lib.hid hVs; clear hVs
  have HB := Lib.hid hVb; clear hVb
  have hbig := shr63' _ h63.1 h63.2
  have H63 := Lib.hid h63; clear h63
  have hx := not8 k hk
  have hne : ((n : Int) + 1 == 0) = false := by rw [beq_eq_false_iff_ne]; omega
  go_enter Tryd.func43, Tryd.ntmps43
  go_wp2
  go_loop [8, 45] (fun m i => ∃ j : Nat, j ≤ k ∧ i = .int .i64 j ∧ m = .int .u64 (V j)) (fun _ i => k - (intOf i).toNat)
  case atStart => exact ⟨0, by omega, rfl, by rw [H0.out]; rfl⟩
  case round =>
    obtain ⟨j, hj, rfl, rfl⟩ := hrel
    by_cases hlt : j < k
    · have hcell := HR.out j hlt
      have hd := HD.out j
      have hb := HB.out j hlt
      have hx8 := xor255' (D j) (by omega)
      go_wp2
      go_round
      case rel => exact ⟨j + 1, by omega, by go_num, by rw [HS.out, or8n (V j) (D j) hb hd]⟩
      case measure => simp [intOf]; omega
    · obtain rfl : j = k := by omega
      go_wp2
      go_ret3
      exact ⟨rfl, rfl⟩

set_option maxRecDepth 100000 in
set_option maxHeartbeats 400000 in
theorem getInt_pos_zero (b o c k n : Nat) (w : World) (hk : k ≤ 127) (hc : n + 1 ≤ c) (hm : c ≤ 9223372036854775807) (h0 : w.cell? ⟨b, o, none⟩ = some (.int .u8 (128 + (k : Int)))) (h8 : k ≤ 0) : Calls Tryd.prog 43 #[.slice (some ⟨b, o, none⟩) ((n : Nat) + 1) c] w fun e w' => e = .returned (.tuple #[.int .i64 0, .int .i64 1, .int .i64 0]) ∧ w = w' := by
  have hne : ((n : Int) + 1 == 0) = false := by rw [beq_eq_false_iff_ne]; omega
  go_enter Tryd.func43, Tryd.ntmps43
  go_wp2
  all_goals (refine wp_loop_rounds 1 ?_; rw [rounds_succ]; go_wp2)
  all_goals go_ret3
  all_goals exact ⟨ret3_eq (by kernel_rfl) (by omega) rfl, rfl⟩

set_option maxRecDepth 100000 in
set_option maxHeartbeats 400000 in
theorem getInt_pos_ok (b o c k n : Nat) (w : World) (hk : k ≤ 127) (hc : n + 1 ≤ c) (hm : c ≤ 9223372036854775807) (h0 : w.cell? ⟨b, o, none⟩ = some (.int .u8 (128 + (k : Int)))) (D V : Nat → Nat) (hD : ∀ j, D j ≤ 255) (hV0 : V 0 = 0) (hVs : ∀ j, V (j + 1) = 256 * V j + D j) (hVb : ∀ j, j < k → V j < 72057594037927936) (h8 : k ≤ 8) (hn : k ≤ n) (hk0 : 0 < k)
    (hl : ((D 0 : Int) == 0) = false) (hr : ∀ j, j < k → w.cell? ⟨b, o + 1 + j, none⟩ = some (.int .u8 (D j))) (h63 : V k < 9223372036854775808) : Calls Tryd.prog 43 #[.slice (some ⟨b, o, none⟩) ((n : Nat) + 1) c] w fun e w' => e = .returned (.tuple #[.int .i64 (V k : Int), .int .i64 (1 + (k : Int)), .int .i64 0]) ∧ w = w' := by
  have h1 : w.cell? ⟨b, o + 1, none⟩ = some (.int .u8 (D 0)) := hr 0 hk0
  have HR := Lib.hid hr; clear hr
  have HD := Lib.hid hD; clear hD
  have H0 := Lib.hid hV0; clear hV0
  have HS := Lib.hid hVs; clear hVs
  have HB := Lib.hid hVb; clear hVb
  have hbig := shr63 _ h63
  have H63 := Lib.hid h63; clear h63
  have hne : ((n : Int) + 1 == 0) = false := by rw [beq_eq_false_iff_ne]; omega
  go_enter Tryd.func43, Tryd.ntmps43
  go_wp2
  go_loop [8, 45] (fun m i => ∃ j : Nat, j ≤ k ∧ i = .int .i64 j ∧ m = .int .u64 (V j)) (fun _ i => k - (intOf i).toNat)
  case atStart => exact ⟨0, by omega, rfl, by rw [H0.out]; rfl⟩
  case round =>
    obtain ⟨j, hj, rfl, rfl⟩ := hrel
    by_cases hlt : j < k
    · have hcell := HR.out j hlt
      have hd := HD.out j
      have hb := HB.out j hlt
      have hx8 := xor0 (D j) (by omega)
      go_wp2
      go_round
      case rel => exact ⟨j + 1, by omega, by go_num, by rw [HS.out, or8 (V j) (D j) hb hd]⟩
      case measure => simp [intOf]; omega
    · obtain rfl : j = k := by omega
      go_wp2
      go_ret3
      exact ⟨ret3_eq (wrap63 _ H63.out) (by omega) rfl, rfl⟩

set_option maxRecDepth 100000 in
set_option maxHeartbeats 400000 in
theorem getInt_pos_big (b o c k n : Nat) (w : World) (hk : k ≤ 127) (hc : n + 1 ≤ c) (hm : c ≤ 9223372036854775807) (h0 : w.cell? ⟨b, o, none⟩ = some (.int .u8 (128 + (k : Int)))) (D V : Nat → Nat) (hD : ∀ j, D j ≤ 255) (hV0 : V 0 = 0) (hVs : ∀ j, V (j + 1) = 256 * V j + D j) (hVb : ∀ j, j < k → V j < 72057594037927936) (h8 : k ≤ 8) (hn : k ≤ n) (hk0 : 0 < k)
    (hl : ((D 0 : Int) == 0) = false) (hr : ∀ j, j < k → w.cell? ⟨b, o + 1 + j, none⟩ = some (.int .u8 (D j))) (h63 : 9223372036854775808 ≤ V k ∧ V k < 18446744073709551616) : Calls Tryd.prog 43 #[.slice (some ⟨b, o, none⟩) ((n : Nat) + 1) c] w fun e w' => e = .returned (.tuple #[.int .i64 0, .int .i64 0, .int .i64 2]) ∧ w = w' := by
  have h1 : w.cell? ⟨b, o + 1, none⟩ = some (.int .u8 (D 0)) := hr 0 hk0
  have HR := Lib.hid hr; clear hr
  have HD := Lib.hid hD; clear hD
  have H0 := Lib.hid hV0; clear hV0
  have HS := Lib.hid hVs; clear hVs
  have HB := Lib.hid hVb; clear hVb
  have hbig := shr63' _ h63.1 h63.2
  have H63 := Lib.hid h63; clear h63
  have hne : ((n : Int) + 1 == 0) = false := by rw [beq_eq_false_iff_ne]; omega
  go_enter Tryd.func43, Tryd.ntmps43
  go_wp2
  go_loop [8, 45] (fun m i => ∃ j : Nat, j ≤ k ∧ i = .int .i64 j ∧ m = .int .u64 (V j)) (fun _ i => k - (intOf i).toNat)
  case atStart => exact ⟨0, by omega, rfl, by rw [H0.out]; rfl⟩
  case round =>
    obtain ⟨j, hj, rfl, rfl⟩ := hrel
    by_cases hlt : j < k
    · have hcell := HR.out j hlt
      have hd := HD.out j
      have hb := HB.out j hlt
      have hx8 := xor0 (D j) (by omega)
      go_wp2
      go_round
      case rel => exact ⟨j + 1, by omega, by go_num, by rw [HS.out, or8 (V j) (D j) hb hd]⟩
      case measure => simp [intOf]; omega
    · obtain rfl : j = k := by omega
      go_wp2
      go_ret3
      exact ⟨rfl, rfl⟩
/-! ## all ways together -/

theorem val_take (neg : Bool) (t : List UInt8) (j : Nat) (hj : j < t.length) : val ((t.take (j + 1)).map (flip neg)) = 256 * val ((t.take j).map (flip neg)) + (if neg then 255 - t[j].toNat else t[j].toNat) := by
  rw [List.take_succ_eq_append_getElem hj, List.map_append, List.map_cons, List.map_nil, val_snoc, flip_toNat]
theorem val_take_lt (neg : Bool) (t : List UInt8) (j : Nat) : val ((t.take j).map (flip neg)) < 256 ^ j := by
  have h := val_lt ((t.take j).map (flip neg))
  have hl : ((t.take j).map (flip neg)).length ≤ j := by simp; omega
  exact Nat.lt_of_lt_of_le h (Nat.pow_le_pow_right (by omega) hl)
/-- the value after j bytes, behind the list's end gone on by zeros -/
def Vt (neg : Bool) (t : List UInt8) : Nat → Nat
  | 0 => 0
  | j + 1 => 256 * Vt neg t j + (if neg then 255 - (t[j]?.getD 0).toNat else (t[j]?.getD 0).toNat)
theorem Vt_eq (neg : Bool) (t : List UInt8) : ∀ j, j ≤ t.length → Vt neg t j = val ((t.take j).map (flip neg)) := by
  intro j
  induction j with
  | zero => intro _; rfl
  | succ j ih =>
    intro h
    rw [val_take neg t j (by omega), Vt, ih (by omega)]
    simp [List.getElem?_eq_getElem (show j < t.length by omega)]

theorem getInt_any (l : List UInt8) (A : Option Addr) (c : Nat) (w : World) (hc : l.length ≤ c) (hm : c ≤ maxLen) (hr : Rd w A (bs l)) :
    Calls Tryd.prog 43 #[.slice A l.length c] w fun e w' => e = ret3 (gI l) ∧ w = w' := by
  have hm' : c ≤ 9223372036854775807 := by unfold maxLen at hm; omega
  cases l with
  | nil => exact getInt_nil A c w
  | cons h t =>
    have h255 : h.toNat < 256 := h.toNat_lt
    obtain ⟨b, o, rfl, hcell⟩ := hr.open (by simp [bs])
    have h0 : w.cell? ⟨b, o, none⟩ = some (.int .u8 h.toNat) := hcell 0 _ rfl
    have ht : ∀ j (hj : j < t.length), w.cell? ⟨b, o + 1 + j, none⟩ = some (.int .u8 t[j].toNat) := fun j hj => by
      have := hcell (1 + j) (.int .u8 t[j].toNat) (by simp [bs, by8, Nat.add_comm 1 j, hj])
      rw [← Nat.add_assoc] at this
      exact this
    have hc' : t.length + 1 ≤ c := by simpa using hc
    rw [List.length_cons]
    have key : ∀ (neg : Bool) (k : Nat), k ≤ 127 → h.toNat = (if neg then 127 - k else 128 + k) → Calls Tryd.prog 43 #[.slice (some ⟨b, o, none⟩) (t.length + 1) c] w fun e w' => e = ret3 (gB neg k t) ∧ w = w' := by
      intro neg k hk hh
      have hx : w.cell? ⟨b, o, none⟩ = some (.int .u8 (if neg then 127 - (k : Int) else 128 + (k : Int))) := by
        rw [h0, hh]; cases neg <;> simp <;> omega
      have hD : ∀ j, j < k → k ≤ t.length → w.cell? ⟨b, o + 1 + j, none⟩ = some (.int .u8 (t[j]?.getD 0).toNat) := fun j hj hkt => by
        have hj' : j < t.length := by omega
        rw [ht j hj', List.getElem?_eq_getElem hj']; rfl
      have hlast : ∀ j : Nat, (t[j]?.getD 0).toNat ≤ 255 := fun j => by have := (t[j]?.getD 0).toNat_lt; omega
      by_cases h8 : 8 < k
      · have e : gB neg k t = (0, 0, 2) := by unfold gB; rw [if_pos h8]
        rw [e]
        cases neg
        · exact getInt_pos_far b o c k _ w hk hc' hm' hx h8
        · exact getInt_neg_far b o c k _ w hk hc' hm' hx h8
      · by_cases hn : t.length < k
        · have e : gB neg k t = (0, 0, 3) := by unfold gB; rw [if_neg h8, if_pos hn]
          rw [e]
          cases neg
          · exact getInt_pos_more b o c k _ w hk hc' hm' hx (by omega) hn
          · exact getInt_neg_more b o c k _ w hk hc' hm' hx (by omega) hn
        · rcases Nat.eq_zero_or_pos k with hk0 | hk0
          · have e : gB neg k t = (if neg then -1 else 0, 1, 0) := by subst hk0; unfold gB; cases neg <;> simp [val]
            rw [e]
            cases neg
            · exact getInt_pos_zero b o c k _ w hk hc' hm' hx (by omega)
            · exact getInt_neg_zero b o c k _ w hk hc' hm' hx (by omega)
          · have h1 : w.cell? ⟨b, o + 1, none⟩ = some (.int .u8 (t[0]?.getD 0).toNat) := hD 0 hk0 (by omega)
            have hhead : ((t.take k).map (flip neg)).head? = some (flip neg (t[0]?.getD 0)) := by
              cases t with
              | nil => simp at hn; omega
              | cons a r =>
                obtain ⟨k', rfl⟩ : ∃ k', k = k' + 1 := ⟨k - 1, by omega⟩
                rfl
            by_cases hz : flip neg (t[0]?.getD 0) = 0
            · have e : gB neg k t = (0, 0, 2) := by unfold gB; rw [if_neg h8, if_neg hn, if_pos (by rw [hhead, hz])]
              rw [e]
              have hz' : (t[0]?.getD 0).toNat = if neg then 255 else 0 := by
                have e9 := congrArg UInt8.toNat hz
                rw [flip_toNat] at e9
                have h9 := hlast 0
                generalize (t[0]?.getD 0).toNat = z at e9 h9 ⊢
                cases neg
                · simpa using e9
                · have : 255 - z = 0 := by simpa using e9
                  show z = 255
                  omega
              rw [hz'] at h1
              cases neg
              · exact getInt_pos_lead b o c k _ w hk hc' hm' hx (by omega) (by omega) hk0 h1
              · exact getInt_neg_lead b o c k _ w hk hc' hm' hx (by omega) (by omega) hk0 h1
            · have hzz : ((((t[0]?.getD 0).toNat : Nat) : Int) == (if neg then 255 else 0)) = false := by
                rw [beq_eq_false_iff_ne]
                intro e
                apply hz
                apply UInt8.toNat_inj.1
                rw [flip_toNat]
                cases neg <;> simp at e ⊢ <;> omega
              have hV := Vt_eq neg t k (by omega)
              have hb : ∀ j, j < k → Vt neg t j < 72057594037927936 := fun j hj => by
                rw [Vt_eq neg t j (by omega)]
                exact Nat.lt_of_lt_of_le (val_take_lt neg t j) (Nat.le_trans (Nat.pow_le_pow_right (n := 256) (by omega) (show j ≤ 7 by omega)) (by decide))
              have h64 : Vt neg t k < 18446744073709551616 := by
                rw [hV]
                exact Nat.lt_of_lt_of_le (val_take_lt neg t k) (Nat.le_trans (Nat.pow_le_pow_right (n := 256) (by omega) (show k ≤ 8 by omega)) (by decide))
              have hr' : ∀ j, j < k → w.cell? ⟨b, o + 1 + j, none⟩ = some (.int .u8 (t[j]?.getD 0).toNat) := fun j hj => hD j hj (by omega)
              by_cases hbig : 9223372036854775808 ≤ Vt neg t k
              · have e : gB neg k t = (0, 0, 2) := by unfold gB; rw [if_neg h8, if_neg hn, if_neg (by rw [hhead]; simpa using hz), if_pos (by rw [← hV]; exact hbig)]
                rw [e]
                cases neg
                · exact getInt_pos_big b o c k _ w hk hc' hm' hx (fun j => (t[j]?.getD 0).toNat) (Vt false t) hlast rfl (fun _ => rfl) hb (by omega) (by omega) hk0 hzz hr' ⟨hbig, h64⟩
                · exact getInt_neg_big b o c k _ w hk hc' hm' hx (fun j => (t[j]?.getD 0).toNat) (Vt true t) hlast rfl (fun _ => rfl) hb (by omega) (by omega) hk0 hzz hr' ⟨hbig, h64⟩
              · have e : gB neg k t = (if neg then -1 - (Vt neg t k : Int) else (Vt neg t k : Int), 1 + k, 0) := by
                  unfold gB; rw [if_neg h8, if_neg hn, if_neg (by rw [hhead]; simpa using hz), if_neg (by rw [← hV]; exact hbig), hV]
                rw [e]
                cases neg
                · exact getInt_pos_ok b o c k _ w hk hc' hm' hx (fun j => (t[j]?.getD 0).toNat) (Vt false t) hlast rfl (fun _ => rfl) hb (by omega) (by omega) hk0 hzz hr' (by omega)
                · exact getInt_neg_ok b o c k _ w hk hc' hm' hx (fun j => (t[j]?.getD 0).toNat) (Vt true t) hlast rfl (fun _ => rfl) hb (by omega) (by omega) hk0 hzz hr' (by omega)
    rw [gI_cons]
    by_cases hlt : h.toNat < 128
    · rw [if_pos hlt]
      exact key true _ (by omega) (by simp; omega)
    · rw [if_neg hlt]
      exact key false _ (by omega) (by simp; omega)
end Go.Proofs.YtbgcnfikcddcpaaDoor
