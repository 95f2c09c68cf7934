/-
  The reference's Many; spelt for every string.
-/
import Derived.Test.YtolkmjgklgimpaaDoorASpelt
namespace Go.Proofs.YtolkmjgklgimpaaDoor
open Go.RowKit
open Alp
set_option linter.unusedVariables false
set_option linter.unusedSimpArgs false

theorem spelt_any (t : B) (ht : t.length ≤ 4000) (n k v : Int) (hn : inI n) (hk : inI k) (hv : inI v) (w : World) : Calls Tryd.prog 24 #[.string (tb t), .int .i64 n, .int .i64 k, .int .i64 v] w (TxPost w (speltP t n k v)) := by
  by_cases h : t = []
  · subst h
    exact spelt_nil n k v hv w
  · exact spelt_some t ht h n k v hn hk hv w
theorem two_conv (q : Int) (k : Nat) (hq : q = k) (hk : k ≤ 60) (W : World) : (convert 46 9 (.slice (some ⟨W.heap.size, 0, none⟩) 2 2)).run Tryd.prog (W.alloc (.cells #[.int .u8 (97 + q / 20), .int .u8 (97 + q % 20)] 5)) = .ok (.string (tb [UInt8.ofNat (97 + k / 20), UInt8.ofNat (97 + k % 20)])) (W.alloc (.cells #[.int .u8 (97 + q / 20), .int .u8 (97 + q % 20)] 5)) := by
  obtain ⟨T, hT⟩ : ∃ T, T = [UInt8.ofNat (97 + k / 20), UInt8.ofNat (97 + k % 20)] := ⟨_, rfl⟩
  have e : (#[.int .u8 (97 + q / 20), .int .u8 (97 + q % 20)] : Array Value) = (bs T).toArray := by
    have h1 : ((UInt8.ofNat (97 + k / 20)).toNat : Int) = 97 + q / 20 := by rw [UInt8.toNat_ofNat']; omega
    have h2 : ((UInt8.ofNat (97 + k % 20)).toNat : Int) = 97 + q % 20 := by rw [UInt8.toNat_ofNat']; omega
    rw [← h1, ← h2, hT]
    rfl
  have hr : Rd (W.alloc (.cells #[.int .u8 (97 + q / 20), .int .u8 (97 + q % 20)] 5)) (some ⟨W.heap.size, 0, none⟩) (bs T) := .inr ⟨W.heap.size, 0, rfl, fun k v hv => by rw [Nat.zero_add]; exact (Blk.at W (bs T) _ 5 _ e rfl).cell hv⟩
  have := conv_rd (l := T) Tryd.underlying46 Tryd.underlying5 Tryd.underlying9 hr 2
  rw [show T.length = 2 by rw [hT]; rfl] at this
  rw [← hT]
  exact this
set_option maxRecDepth 100000 in
set_option maxHeartbeats 4000000 in
theorem rmany_any (N : Nat) (hN : N ≤ 60) (w : World) : Calls Tryd.prog 25 #[.int .i64 (N : Int)] w (LtPost w (manyP N)) := by
  obtain ⟨i0, hi0, hz0, hz1, hz2⟩ := info_parts Tryd.infoLt
  go_enter Tryd.func25, Tryd.ntmps25
  go_wp2_with fail
  go_loopg [3, 4] N (fun g s3 s4 wr => ∃ (k : Nat) (q : Int), k + g = N ∧ s4 = .int .i64 q ∧ Hid (q = k) ∧ Hid (wr.ownsRow w.heap.size 50 5 s3 k (lv (manyP k)) ∧ Below w.heap.size w wr))
  case atStart => exact ⟨0, 0, by omega, rfl, Lib.hid rfl, Lib.hid ⟨⟨rfl, .inl ⟨rfl, rfl⟩⟩, Below.refl _ _⟩⟩
  case round =>
    obtain ⟨k, q, hk, rfl, HQ, HI⟩ := hrel
    obtain ⟨A2, c2, hv, hrd, hmc, hm2⟩ := Rd.of_own HI.out.1
    subst hv
    have HRD := Lib.hid hrd
    clear hrd
    have q0 : 0 ≤ q := by have := HQ.out; omega
    have q1 : q ≤ 60 := by have := HQ.out; omega
    by_cases hlt : k < N
    · obtain ⟨g, rfl⟩ : ∃ g, gk = g + 1 := ⟨gk - 1, by omega⟩
      have hd : decide (q < (N : Int)) = true := decide_eq_true (by have := HQ.out; omega)
      have hql : q < (N : Int) := by have := HQ.out; omega
      obtain ⟨T, hT⟩ : ∃ T, T = [UInt8.ofNat (97 + k / 20), UInt8.ofNat (97 + k % 20)] := ⟨_, rfl⟩
      have hcv : ∀ W : World, (convert 46 9 (.slice (some ⟨W.heap.size, 0, none⟩) 2 2)).run Tryd.prog (W.alloc (.cells #[.int .u8 (97 + q / 20), .int .u8 (97 + q % 20)] 5)) = .ok (.string (tb T)) (W.alloc (.cells #[.int .u8 (97 + q / 20), .int .u8 (97 + q % 20)] 5)) := fun W => by rw [hT]; exact two_conv q k HQ.out (by omega) W
      have hcv2 := hcv wr
      clear hcv
      have HM : Hid (manyP (k + 1) = manyP k ++ [⟨T, q, 0, 0, 1⟩]) := Lib.hid (by rw [manyP_snoc, hT, HQ.out])
      have hs1 : k + 1 ≤ maxLen := by unfold maxLen; omega
      have hs2 : (k + 1) * 48 ≤ 140737488355328 := by omega
      clear hT
      go_wp2_with (at_builtin; refine wpList_own_src rfl (.tmp 10) (.tmp 23) 23 23 rfl w.heap.size 50 i0 _ 5 48 Tryd.underlying23 hi0 hz0 hz1 hz2 rfl _ _ _ rfl (own_alc (own_alc HI.out.1 _) _) _ 1 (lc ⟨T, q, 0, 0, 1⟩) rfl (src_lt Tryd.underlying23 hz1 _ _ _ _ (by simp)) hs1 hs2 (below_al (below_al HI.out.2 _) _).size ?_; intro v4 w4 hown4 hg4 hat4; have HX4 : Hid (w4.ownsRow w.heap.size 50 5 v4 (k + 1) (lv (manyP k) ++ lc ⟨T, q, 0, 0, 1⟩) ∧ Below w.heap.size w w4) := Lib.hid ⟨hown4, below_own (below_al (below_al HI.out.2 _) _) hg4 (fun g hg => (HI.out.1.lt _ hg).1)⟩; clear hown4 hg4 hat4)
      go_roundg g
      case rel => exact ⟨k + 1, q + 1, by omega, rfl, Lib.hid (by have := HQ.out; omega), Lib.hid ⟨by rw [HM.out, lv_snoc]; exact HX4.out.1, HX4.out.2⟩⟩
      case measure => omega
    · obtain rfl : k = N := by omega
      have hd : decide (q < (k : Int)) = false := decide_eq_false (by have := HQ.out; omega)
      have hql : ¬ q < (k : Int) := by have := HQ.out; omega
      go_wp2_with fail
      go_ret
      exact ⟨A2, k, c2, rfl, (manyP_len k).symm, HRD.out, hmc, hm2, HI.out.2⟩
theorem many_val : valP (manyP 60) = true := by kernel_rfl
end Go.Proofs.YtolkmjgklgimpaaDoor
