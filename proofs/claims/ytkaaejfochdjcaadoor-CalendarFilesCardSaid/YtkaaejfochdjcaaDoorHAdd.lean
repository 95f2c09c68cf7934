/-
  The walk of Stream.Add.
-/
import Derived.Test.YtkaaejfochdjcaaDoorHStr
namespace Go.Proofs.YtkaaejfochdjcaaDoor
open Go.RowKit
open Sha
set_option linter.unusedVariables false

theorem Str_eq (m : List UInt8) : Str m = strm (hv m) (blk m) m.length := rfl
def AI (w : World) (M : List UInt8) (wr : World) : Prop := Blk wr w.heap.size (Str M) 87 ∧ Blk wr (w.heap.size + 1) (strm Z8 Z64 0) 87 ∧ Below w.heap.size w wr

set_option maxRecDepth 100000 in
set_option maxHeartbeats 1000000 in
theorem add_any (m q0 : List UInt8) (hlen : m.length + q0.length < 4611686018427387904) (w : World) (hK : KH w) :
    Calls Tryd.prog 61 #[.agg (Str m).toArray, .string (sb q0)] w fun e w' => e = .returned (.agg (Str (m ++ q0)).toArray) ∧ Below w.heap.size w w' := by
  have hz := (zero_of_info Tryd.zero34).1
  have HLN := Lib.hid hlen; clear hlen
  have HK := Lib.hid hK; clear hK
  obtain ⟨S0, hS0⟩ : ∃ S, S = Str m := ⟨_, rfl⟩
  rw [← hS0]
  have HS0 := Lib.hid hS0; clear hS0
  go_enter Tryd.func61, Tryd.ntmps61
  go_wp2_with fail
  go_loopg [1] q0.length (fun g s1 wr => ∃ p q : List UInt8, p ++ q = q0 ∧ g = q.length ∧ s1 = .string (sb q) ∧ AI w (m ++ p) wr)
  case atStart => exact ⟨[], q0, rfl, rfl, rfl, by rw [List.append_nil, ← HS0.out]; exact (Blk.new _ _ _).alloc _, by
    have := Blk.new (w.alloc (.cells S0.toArray 87)) (strm Z8 Z64 0) 87
    simp only [World.size_alloc] at this
    exact this, ((Below.refl _ _).alloc (Nat.le_refl _) _).alloc (by simp) _⟩
  case round =>
    obtain ⟨p, q, hpq, hg, rfl, hA⟩ := hrel
    obtain ⟨M, hM⟩ : ∃ M, M = m ++ p := ⟨_, rfl⟩
    rw [← hM] at hA
    have hMq : M.length + q.length < 4611686018427387904 := by
      have h1 := HLN.out
      rw [← hpq] at h1
      rw [hM]
      simp at h1 ⊢
      omega
    have HM := Lib.hid hM; clear hM
    have HPQ := Lib.hid hpq; clear hpq
    have HA := Lib.hid hA; clear hA
    have hqs := sb_size q
    cases q with
    | nil =>
      have HL := Lib.hid (Str_length M)
      have hlt : ¬ (0 : Int) < ((sb []).size : Int) := by rw [sb_size]; simp
      clear hqs
      go_wp2_with (first
        | (refine wpList_load_blk rfl 87 (.tmp 2) rfl _ 0 rfl HA.out.1 _ Tryd.underlying87 rfl 73 Tryd.size34 (by rw [HL.out]; omega) ?_; rw [List.drop_zero, List.take_of_length_le (by rw [HL.out]; omega)])
        | (refine wpList_store_blk rfl 87 (.tmp 4) (.tmp 31) rfl _ 0 rfl (Str M) rfl HA.out.2.1 73 Tryd.size34 HL.out (by rw [strm_length rfl Z64_length]; omega) (strm_one _ _ _) ?_; intro w4 hst4; rw [List.take_zero, List.nil_append, List.drop_of_length_le (by rw [strm_length rfl Z64_length]; omega), List.append_nil] at hst4; have HST4 := Lib.hid hst4; clear hst4))
      refine ret_blk rfl _ rfl HST4.out.1 _ Tryd.underlying87 rfl (by rw [HL.out]; exact Tryd.size34) rfl ⟨?_, HST4.out.below HA.out.2.2 (by omega)⟩
      have h1 := HPQ.out
      rw [List.append_nil] at h1
      rw [HM.out, h1]
    | cons c q' =>
      obtain ⟨q, hq⟩ : ∃ q, q = c :: q' := ⟨_, rfl⟩
      rw [← hq] at hg hMq HPQ hqs ⊢
      have hq1 : 0 < q.length := by rw [hq]; simp
      have HQ := Lib.hid hq; clear hq
      obtain ⟨L, hL⟩ : ∃ L, L = M.length := ⟨_, rfl⟩
      obtain ⟨n, hn⟩ : ∃ n, n = Nat.min q.length (64 - L % 64) := ⟨_, rfl⟩
      rw [← hL] at hMq
      have hn1 : 0 < n := by rw [hn]; exact Nat.lt_min.2 ⟨hq1, by omega⟩
      have hn2 : n ≤ q.length := by rw [hn]; exact Nat.min_le_left _ _
      have hn3 : L % 64 + n ≤ 64 := by have : n ≤ 64 - L % 64 := by rw [hn]; exact Nat.min_le_right _ _
                                       omega
      have hc := HA.out.1.cell (strm_n (n := M.length) (hv_length M) (blk_length M))
      rw [← hL] at hc
      have hsl := fun w' => slice_arr_l (P := Tryd.prog) (t := 84) Tryd.underlying84 Tryd.size1 w.heap.size 8 (L % 64) (by omega) .u64 ((L : Int) % 64) (by omega) w'
      have hext := sb_extract q n
      rw [hqs] at hext
      have hln : (q.take n).length = n := by rw [List.length_take]; omega
      have hput := strm_putXs (n := L) (off := L % 64) (x := q.take n) (hv_length M) (blk_length M) (by rw [hln]; exact hn3)
      rw [hln] at hput
      have HS := Lib.hid (show Str M = strm (hv M) (blk M) L by rw [hL]; rfl)
      have HP := Lib.hid hput; clear hput
      have HN := Lib.hid hn; clear hn
      have HLm := Lib.hid hL; clear hL
      have HLNn := Lib.hid hln; clear hln
      obtain ⟨X1, hX1⟩ : ∃ X, X = (blk M).take (L % 64) ++ q.take n ++ (blk M).drop (L % 64 + n) := ⟨_, rfl⟩
      have hX1l : X1.length = 64 := by have := blk_length M; have := HLNn.out; rw [hX1]; simp only [List.length_append, List.length_take, List.length_drop]; simp only [List.length_take] at this; omega
      have HX1 := Lib.hid hX1; clear hX1
      have HX1L := Lib.hid hX1l; clear hX1l
      have hg1 : q.length - n + n = q.length := by omega
      have HG := Lib.hid hg; clear hg
      by_cases hfull : L % 64 + n = 64
      · have hmod : ((L : Int) + (n : Int)) % 64 = 0 := by omega
        have hmodb : (((L : Int) + (n : Int)) % 64 == 0) = true := by rw [beq_iff_eq]; exact hmod
        have HF : Hid (strm (comp (hv M) X1) Z64 (L + n) = Str (M ++ q.take n)) := Lib.hid (by rw [Str_full M (q.take n) (by rw [HLNn.out, ← HLm.out]; omega), HLNn.out, ← HLm.out, ← HX1.out])
        go_wp2_with (first
          | (refine wpList_copy_str rfl (.tmp 13) (.tmp 14) 53 9 rfl 5 Tryd.underlying53 Tryd.size1 w.heap.size (8 + L % 64) (64 - L % 64) (64 - L % 64) rfl q rfl HA.out.1 n HN.out (by rw [Str_length]; omega) ?_; intro w1 hst1; rw [HS.out, HP.out, ← HX1.out] at hst1; have hc1 := hst1.1.cell (strm_n (n := L) (hv_length M) HX1L.out); have hf1 := hst1.1.frozen 72; have HST1 := Lib.hid hst1; clear hst1)
          | (have HB2 : Hid (Blk (w1.setCell ⟨w.heap.size, 72, none⟩ (.int .u64 ((L : Int) + (n : Int)))) w.heap.size (strm (hv M) X1 (L + n)) 87) := (by
               have := HST1.out.1.set 72 (.int .u64 ((L + n : Nat) : Int))
               rw [strm_setn (hv_length M) HX1L.out] at this
               rw [Int.natCast_add] at this
               exact Lib.hid this)
             refine wpList_load_blk rfl 87 (.tmp 2) rfl _ 0 rfl HB2.out _ Tryd.underlying87 rfl 73 Tryd.size34 (by rw [strm_length (hv_length M) HX1L.out]; omega) ?_; rw [List.drop_zero, List.take_of_length_le (by rw [strm_length (hv_length M) HX1L.out]; omega)])
          | (have HD : Hid (AI w M wr) := HA
             refine ((fin_any (hv M) X1 (L + n) (hv_length M) HX1L.out _) (HK.out.below ((HST1.out.below HD.out.2.2 (by omega)).setCell (by simp) _) HK.out.2)).mono ?_
             rintro e w2 ⟨rfl, hb2⟩
             rw [HF.out]
             have HB3 : Hid (Blk w2 w.heap.size (strm (hv M) X1 (L + n)) 87 ∧ Blk w2 (w.heap.size + 1) (strm Z8 Z64 0) 87 ∧ Below w.heap.size w w2) := Lib.hid ⟨HB2.out.below hb2 (by have := HB2.out.lt; exact this), ((HST1.out.other HD.out.2.1 (by omega)).set_other _ _ (by simp)).below hb2 (by have := HST1.out.other HD.out.2.1 (by omega); exact (this.set_other ⟨w.heap.size, 72, none⟩ (.int .u64 ((L : Int) + (n : Int))) (by simp)).lt), ((HST1.out.below HD.out.2.2 (by omega)).setCell (by simp) _).trans (hb2.mono (by have := HB2.out.lt; omega))⟩
             clear hb2)
          | (refine wpList_store_blk rfl 87 (.tmp 2) (.tmp 30) rfl _ 0 rfl (Str (M ++ q.take n)) rfl HB3.out.1 73 Tryd.size34 (Str_length _) (by rw [strm_length (hv_length M) HX1L.out]; omega) (strm_one _ _ _) ?_; intro w4 hst4; rw [List.take_zero, List.nil_append, List.drop_of_length_le (by rw [strm_length (hv_length M) HX1L.out]; omega), List.append_nil] at hst4; have HST4 := Lib.hid hst4; clear hst4))
        have HAN : Hid (AI w (m ++ (p ++ q.take n)) w4) := Lib.hid (by
          rw [← List.append_assoc, ← HM.out]
          exact ⟨HST4.out.1, HST4.out.other HB3.out.2.1 (by omega), HST4.out.below HB3.out.2.2 (Nat.le_refl _)⟩)
        go_roundg (q.length - n)
        case rel => exact ⟨p ++ q.take n, q.drop n, by rw [List.append_assoc, List.take_append_drop]; exact HPQ.out, by rw [List.length_drop], rfl, HAN.out⟩
        case measure => rw [HG.out]; omega
      · have hmod : ¬ ((L : Int) + (n : Int)) % 64 = 0 := by omega
        have hmodb : (((L : Int) + (n : Int)) % 64 == 0) = false := by rw [beq_eq_false_iff_ne]; exact hmod
        go_wp2_with (refine wpList_copy_str rfl (.tmp 13) (.tmp 14) 53 9 rfl 5 Tryd.underlying53 Tryd.size1 w.heap.size (8 + L % 64) (64 - L % 64) (64 - L % 64) rfl q rfl HA.out.1 n HN.out (by rw [Str_length]; omega) ?_; intro w1 hst1; rw [HS.out, HP.out, ← HX1.out] at hst1; have hc1 := hst1.1.cell (strm_n (n := L) (hv_length M) HX1L.out); have hf1 := hst1.1.frozen 72; have HST1 := Lib.hid hst1; clear hst1)
        have HAN : Hid (AI w (m ++ (p ++ q.take n)) (w1.setCell ⟨w.heap.size, 72, none⟩ (.int .u64 ((L : Int) + (n : Int))))) := Lib.hid (by
          rw [← List.append_assoc, ← HM.out]
          refine ⟨?_, (HST1.out.other HA.out.2.1 (by omega)).set_other _ _ (by simp), (HST1.out.below HA.out.2.2 (by omega)).setCell (by simp) _⟩
          have := HST1.out.1.set 72 (.int .u64 ((L + n : Nat) : Int))
          rw [strm_setn (hv_length M) HX1L.out, Int.natCast_add] at this
          rw [Str_part M (q.take n) (by rw [HLNn.out, ← HLm.out]; omega), HLNn.out, ← HLm.out, ← HX1.out]
          exact this)
        go_roundg (q.length - n)
        case rel => exact ⟨p ++ q.take n, q.drop n, by rw [List.append_assoc, List.take_append_drop]; exact HPQ.out, by rw [List.length_drop], rfl, HAN.out⟩
        case measure => rw [HG.out]; omega
end Go.Proofs.YtkaaejfochdjcaaDoor
