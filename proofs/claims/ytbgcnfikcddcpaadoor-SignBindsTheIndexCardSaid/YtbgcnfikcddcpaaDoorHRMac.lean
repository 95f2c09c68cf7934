/-
  The reference's padKey and Mac, walked.
-/
import Derived.Test.YtbgcnfikcddcpaaDoorHRSum
namespace Go.Proofs.YtbgcnfikcddcpaaDoor
open Go.RowKit
open Sha
set_option linter.unusedVariables false
theorem mask_at {E M : List UInt8} {x : UInt8} (hM : M = mask E x) (hE : E.length ≤ 64) {i : Nat} (hi : i < 64) (h : i < M.length) : M[i] = E.getD i 0 ^^^ x := by
  subst hM
  simp only [mask, List.getElem_map]
  congr 1
  simp only [fill]
  by_cases hl : i < E.length
  · rw [List.getElem_append_left hl]
    simp [List.getD, hl]
  · rw [List.getElem_append_right (by omega)]
    simp [List.getD, List.getElem?_eq_none (by omega : E.length ≤ i)]
theorem src_sb {P : Program} {w : World} {size : Nat} {tx : TypeId} (hk : P.underlying tx = some .string) (hs : size = 1) (l : List UInt8) : Src P size tx (.string (sb l)) l.length (bs l) w := by
  subst hs
  have h := Src.ofString (P := P) (w := w) hk (sb l)
  rw [byteCells_bs, sb_list, sb_size] at h
  exact h

set_option maxRecDepth 100000 in
set_option maxHeartbeats 2000000 in
theorem padkey_aux (k E M : List UInt8) (x : UInt8) (hE : E = ekey k) (hM : M = mask E x) (hk : k.length ≤ 1099511627776) (w : World) (hK : KR w) :
    Calls Tryd.prog 69 #[.string (sb k), .int .u8 x.toNat] w fun e w' => ∃ v', e = .returned v' ∧ w'.ownsRow w.heap.size 5 1 v' 64 (bs M) ∧ Below w.heap.size w w' := by
  obtain ⟨i0, hi0, hz0, hz1, hz2⟩ := info_parts Tryd.info5
  have hEl : E.length ≤ 64 := by rw [hE]; exact ekey_length k
  have HM := Lib.hid (And.intro hM (show M.length = 64 by rw [hM]; exact mask_length E x hEl)); clear hM
  have hsE := sb_size E
  have hsk := sb_size k
  by_cases hlong : 64 < k.length
  · have d1 : decide ((64 : Int) < (k.length : Int)) = true := by simp; omega
    have hEs : E = sha k := by rw [hE, ekey, if_pos hlong]
    have hrs := fun (A : Option Addr) (c : Nat) (W : World) (hA : A = none → k = []) (hr : Rd W A (bs k)) (hk' : KR W) => rsum_any k A (sb k).size c hsk hA hk W hr hk'
    rw [← hEs] at hrs
    have HRS := Lib.hid hrs; clear hrs
    have HB32 : Hid (∀ W, Calls Tryd.prog 70 #[.agg (bs E).toArray] W fun e w' => e = .returned (.string (sb E)) ∧ Below W.heap.size W w') := Lib.hid fun W => b32_any E (by rw [hEs, sha_length]) W
    have HE := Lib.hid hEl; clear hEl hEs hE
    have HK := Lib.hid hK; clear hK
    obtain ⟨c0, w0, hcb, hr0, hbl0⟩ := conv_back (P := Tryd.prog) (src := 9) (dst := 58) Tryd.underlying9 Tryd.underlying58 Tryd.underlying5 w (sb k)
    have HR0 := Lib.hid hr0; clear hr0
    have HBL0 := Lib.hid hbl0; clear hbl0
    go_enter Tryd.func69, Tryd.ntmps69
    go_wp2_with (first
      | (refine (HRS.out _ _ _ (by simp) (by have := HR0.out; rw [sb_list] at this; exact this) (HK.out.of HBL0.out)).mono ?_; rintro e x1 ⟨rfl, hb1⟩; have HX1 : Hid (Below w.heap.size w x1) := Lib.hid (below_next HBL0.out hb1); clear hb1)
      | ((with_reducible refine (HB32.out _).mono ?_); rintro e x2 ⟨rfl, hb2⟩; have HB0 : Hid (Below w.heap.size w x2) := Lib.hid (below_next HX1.out hb2); clear hb2))
    go_wp2_with fail
    go_loopg [6, 7] 64 (fun g s6 s7 wr => ∃ i : Nat, i + g = 64 ∧ s7 = .int .i64 i ∧ wr.ownsRow w.heap.size 5 1 s6 i (bs (M.take i)) ∧ Below w.heap.size w wr)
    case atStart => exact ⟨0, rfl, rfl, ⟨rfl, .inl ⟨rfl, rfl⟩⟩, HB0.out⟩
    case round =>
      clear HB0
      obtain ⟨i, hi, rfl, hO, hBl⟩ := hrel
      obtain ⟨A1, c1, rfl, _, _, _⟩ := Rd.of_own hO
      have HO := Lib.hid hO; clear hO
      have HBL := Lib.hid hBl; clear hBl
      by_cases hlt : i < 64
      · obtain ⟨g, rfl⟩ : ∃ g, gk = g + 1 := ⟨gk - 1, by omega⟩
        have hstep : ∀ b : UInt8, b = E.getD i 0 → bs (M.take (i + 1)) = bs (M.take i) ++ [.int .u8 (bits .xor .u8 (b.toNat : Int) (x.toNat : Int))] := fun b hb => by
          rw [List.take_succ_eq_append_getElem (by rw [HM.out.2]; exact hlt), bs_append, mask_at HM.out.1 HE.out hlt (by rw [HM.out.2]; exact hlt), ← hb, xor_b, bs_one1]
        have HST := Lib.hid hstep; clear hstep
        by_cases hin : i < E.length
        · have hix := fun w' => index_sb (P := Tryd.prog) (t := 9) Tryd.underlying9 E .i64 i hin w'
          obtain ⟨b, hb⟩ : ∃ b, b = E.getD i 0 := ⟨_, rfl⟩
          rw [← hb] at hix
          have HBB := Lib.hid hb; clear hb
          go_wp2_with (at_builtin; refine wpList_own_src rfl (.tmp 28) (.tmp 32) 58 58 rfl w.heap.size 5 i0 _ 1 1 Tryd.underlying58 hi0 hz0 hz1 hz2 rfl _ _ _ rfl (HO.out.alloc _) _ 1 [.int .u8 (bits .xor .u8 (b.toNat : Int) (x.toNat : Int))] rfl (src_one Tryd.underlying58 hz1 _ _ _ rfl) ?c1 ?c2 ?c3 ?_)
          case c1 => unfold maxLen; omega
          case c2 => omega
          case c3 => have := HBL.out.size; simp; omega
          intro v3 w3 hown3 hg3 hat3
          have HX3 : Hid (Below w.heap.size w w3 ∧ w3.ownsRow w.heap.size 5 1 v3 (i + 1) (bs (M.take (i + 1)))) := Lib.hid ⟨below_own (HBL.out.alloc HBL.out.size _) hg3 (fun g hg => (HO.out.lt g hg).1), by rw [HST.out b HBB.out]; exact hown3⟩
          clear hown3 hg3 hat3
          go_wp2_with fail
          go_roundg g
          case rel => exact ⟨i + 1, by omega, by go_num, HX3.out.2, HX3.out.1⟩
          case measure => omega
        · have HBB : Hid ((0 : UInt8) = E.getD i 0) := Lib.hid (by simp [List.getD, List.getElem?_eq_none (by omega : E.length ≤ i)])
          go_wp2_with (at_builtin; refine wpList_own_src rfl (.tmp 28) (.tmp 32) 58 58 rfl w.heap.size 5 i0 _ 1 1 Tryd.underlying58 hi0 hz0 hz1 hz2 rfl _ _ _ rfl (HO.out.alloc _) _ 1 [.int .u8 (bits .xor .u8 0 (x.toNat : Int))] rfl (src_one Tryd.underlying58 hz1 _ _ _ rfl) ?c1 ?c2 ?c3 ?_)
          case c1 => unfold maxLen; omega
          case c2 => omega
          case c3 => have := HBL.out.size; simp; omega
          intro v3 w3 hown3 hg3 hat3
          have HX3 : Hid (Below w.heap.size w w3 ∧ w3.ownsRow w.heap.size 5 1 v3 (i + 1) (bs (M.take (i + 1)))) := Lib.hid ⟨below_own (HBL.out.alloc HBL.out.size _) hg3 (fun g hg => (HO.out.lt g hg).1), by rw [HST.out 0 HBB.out]; exact hown3⟩
          clear hown3 hg3 hat3
          go_wp2_with fail
          go_roundg g
          case rel => exact ⟨i + 1, by omega, by go_num, HX3.out.2, HX3.out.1⟩
          case measure => omega
      · obtain rfl : i = 64 := by omega
        have hT : M.take 64 = M := List.take_of_length_le (by rw [HM.out.2]; omega)
        have HTT := Lib.hid hT; clear hT
        go_wp2_with fail
        go_ret
        exact ⟨_, rfl, by have h := HO.out; rw [HTT.out] at h; exact h, HBL.out⟩
  · have d1 : decide ((64 : Int) < (k.length : Int)) = false := by simp; omega
    obtain rfl : E = k := by rw [hE, ekey, if_neg hlong]
    have HE := Lib.hid hEl; clear hEl hE
    have HB0 : Hid (Below w.heap.size w w) := Lib.hid (Below.refl _ _)
    go_enter Tryd.func69, Tryd.ntmps69
    go_wp2_with fail
    go_loopg [6, 7] 64 (fun g s6 s7 wr => ∃ i : Nat, i + g = 64 ∧ s7 = .int .i64 i ∧ wr.ownsRow w.heap.size 5 1 s6 i (bs (M.take i)) ∧ Below w.heap.size w wr)
    case atStart => exact ⟨0, rfl, rfl, ⟨rfl, .inl ⟨rfl, rfl⟩⟩, HB0.out⟩
    case round =>
      clear HB0
      obtain ⟨i, hi, rfl, hO, hBl⟩ := hrel
      obtain ⟨A1, c1, rfl, _, _, _⟩ := Rd.of_own hO
      have HO := Lib.hid hO; clear hO
      have HBL := Lib.hid hBl; clear hBl
      by_cases hlt : i < 64
      · obtain ⟨g, rfl⟩ : ∃ g, gk = g + 1 := ⟨gk - 1, by omega⟩
        have hstep : ∀ b : UInt8, b = E.getD i 0 → bs (M.take (i + 1)) = bs (M.take i) ++ [.int .u8 (bits .xor .u8 (b.toNat : Int) (x.toNat : Int))] := fun b hb => by
          rw [List.take_succ_eq_append_getElem (by rw [HM.out.2]; exact hlt), bs_append, mask_at HM.out.1 HE.out hlt (by rw [HM.out.2]; exact hlt), ← hb, xor_b, bs_one1]
        have HST := Lib.hid hstep; clear hstep
        by_cases hin : i < E.length
        · have hix := fun w' => index_sb (P := Tryd.prog) (t := 9) Tryd.underlying9 E .i64 i hin w'
          obtain ⟨b, hb⟩ : ∃ b, b = E.getD i 0 := ⟨_, rfl⟩
          rw [← hb] at hix
          have HBB := Lib.hid hb; clear hb
          go_wp2_with (at_builtin; refine wpList_own_src rfl (.tmp 28) (.tmp 32) 58 58 rfl w.heap.size 5 i0 _ 1 1 Tryd.underlying58 hi0 hz0 hz1 hz2 rfl _ _ _ rfl (HO.out.alloc _) _ 1 [.int .u8 (bits .xor .u8 (b.toNat : Int) (x.toNat : Int))] rfl (src_one Tryd.underlying58 hz1 _ _ _ rfl) ?c1 ?c2 ?c3 ?_)
          case c1 => unfold maxLen; omega
          case c2 => omega
          case c3 => have := HBL.out.size; simp; omega
          intro v3 w3 hown3 hg3 hat3
          have HX3 : Hid (Below w.heap.size w w3 ∧ w3.ownsRow w.heap.size 5 1 v3 (i + 1) (bs (M.take (i + 1)))) := Lib.hid ⟨below_own (HBL.out.alloc HBL.out.size _) hg3 (fun g hg => (HO.out.lt g hg).1), by rw [HST.out b HBB.out]; exact hown3⟩
          clear hown3 hg3 hat3
          go_wp2_with fail
          go_roundg g
          case rel => exact ⟨i + 1, by omega, by go_num, HX3.out.2, HX3.out.1⟩
          case measure => omega
        · have HBB : Hid ((0 : UInt8) = E.getD i 0) := Lib.hid (by simp [List.getD, List.getElem?_eq_none (by omega : E.length ≤ i)])
          go_wp2_with (at_builtin; refine wpList_own_src rfl (.tmp 28) (.tmp 32) 58 58 rfl w.heap.size 5 i0 _ 1 1 Tryd.underlying58 hi0 hz0 hz1 hz2 rfl _ _ _ rfl (HO.out.alloc _) _ 1 [.int .u8 (bits .xor .u8 0 (x.toNat : Int))] rfl (src_one Tryd.underlying58 hz1 _ _ _ rfl) ?c1 ?c2 ?c3 ?_)
          case c1 => unfold maxLen; omega
          case c2 => omega
          case c3 => have := HBL.out.size; simp; omega
          intro v3 w3 hown3 hg3 hat3
          have HX3 : Hid (Below w.heap.size w w3 ∧ w3.ownsRow w.heap.size 5 1 v3 (i + 1) (bs (M.take (i + 1)))) := Lib.hid ⟨below_own (HBL.out.alloc HBL.out.size _) hg3 (fun g hg => (HO.out.lt g hg).1), by rw [HST.out 0 HBB.out]; exact hown3⟩
          clear hown3 hg3 hat3
          go_wp2_with fail
          go_roundg g
          case rel => exact ⟨i + 1, by omega, by go_num, HX3.out.2, HX3.out.1⟩
          case measure => omega
      · obtain rfl : i = 64 := by omega
        have hT : M.take 64 = M := List.take_of_length_le (by rw [HM.out.2]; omega)
        have HTT := Lib.hid hT; clear hT
        go_wp2_with fail
        go_ret
        exact ⟨_, rfl, by have h := HO.out; rw [HTT.out] at h; exact h, HBL.out⟩
theorem padkey_any (k : List UInt8) (x : UInt8) (X : Int) (hX : X = x.toNat) (hk : k.length ≤ 1099511627776) (w : World) (hK : KR w) :
    Calls Tryd.prog 69 #[.string (sb k), .int .u8 X] w fun e w' => ∃ v', e = .returned v' ∧ w'.ownsRow w.heap.size 5 1 v' 64 (bs (mask (ekey k) x)) ∧ Below w.heap.size w w' := by
  subst hX
  exact padkey_aux k _ _ x rfl rfl hk w hK

set_option maxRecDepth 100000 in
set_option maxHeartbeats 2000000 in
theorem rmac_aux (k t I O R1 R2 : List UInt8) (hI : I = mask (ekey k) 54) (hO : O = mask (ekey k) 92) (hR1 : R1 = sha (I ++ t)) (hR2 : R2 = sha (O ++ R1)) (ht : t.length ≤ 1000000) (hk : k.length ≤ 1099511627776) (w : World) (hK : KR w) :
    Calls Tryd.prog 57 #[.string (sb k), .string (sb t)] w fun e w' => e = .returned (.string (sb R2)) ∧ Below w.heap.size w w' := by
  obtain ⟨i0, hi0, hz0, hz1, hz2⟩ := info_parts Tryd.info5
  have hIl : I.length = 64 := by rw [hI, mask_length _ _ (ekey_length k)]
  have hOl : O.length = 64 := by rw [hO, mask_length _ _ (ekey_length k)]
  have hR1l : R1.length = 32 := by rw [hR1, sha_length]
  have hR2l : R2.length = 32 := by rw [hR2, sha_length]
  have HPI : Hid (∀ W, KR W → Calls Tryd.prog 69 #[.string (sb k), .int .u8 54] W fun e w' => ∃ v', e = .returned v' ∧ w'.ownsRow W.heap.size 5 1 v' 64 (bs I) ∧ Below W.heap.size W w') := Lib.hid fun W hk' => by rw [hI]; exact padkey_any k 54 54 rfl hk W hk'
  have HPO : Hid (∀ W, KR W → Calls Tryd.prog 69 #[.string (sb k), .int .u8 92] W fun e w' => ∃ v', e = .returned v' ∧ w'.ownsRow W.heap.size 5 1 v' 64 (bs O) ∧ Below W.heap.size W w') := Lib.hid fun W hk' => by rw [hO]; exact padkey_any k 92 92 rfl hk W hk'
  have HS1 : Hid (∀ (v : Value) (W : World) (base : Nat), W.ownsRow base 5 1 v (64 + t.length) (bs (I ++ t)) → KR W → Calls Tryd.prog 71 #[v] W fun e w' => e = .returned (.agg (bs R1).toArray) ∧ Below W.heap.size W w') := Lib.hid fun v W base hown hk' => by
    have hl : (I ++ t).length = 64 + t.length := by rw [List.length_append, hIl]
    rw [← hl] at hown
    obtain ⟨A, c, rfl, hrd, hA⟩ := own_rd hown
    rw [hR1]
    exact rsum_any (I ++ t) A _ c rfl hA (by omega) W hrd hk'
  have HS2 : Hid (∀ (v : Value) (W : World) (base : Nat), W.ownsRow base 5 1 v (64 + 32) (bs (O ++ R1)) → KR W → Calls Tryd.prog 71 #[v] W fun e w' => e = .returned (.agg (bs R2).toArray) ∧ Below W.heap.size W w') := Lib.hid fun v W base hown hk' => by
    have hl : (O ++ R1).length = 64 + 32 := by rw [List.length_append, hOl, hR1l]
    rw [← hl] at hown
    obtain ⟨A, c, rfl, hrd, hA⟩ := own_rd hown
    rw [hR2]
    exact rsum_any (O ++ R1) A _ c rfl hA (by omega) W hrd hk'
  have HB1 : Hid (∀ W, Calls Tryd.prog 70 #[.agg (bs R1).toArray] W fun e w' => e = .returned (.string (sb R1)) ∧ Below W.heap.size W w') := Lib.hid fun W => b32_any R1 hR1l W
  have HB2 : Hid (∀ W, Calls Tryd.prog 70 #[.agg (bs R2).toArray] W fun e w' => e = .returned (.string (sb R2)) ∧ Below W.heap.size W w') := Lib.hid fun W => b32_any R2 hR2l W
  have hsR1 : R1.length = 32 := hR1l
  have HR1L := Lib.hid hsR1
  have HK := Lib.hid hK; clear hK hI hO hR1 hR2 hIl hOl hR1l hR2l hsR1
  go_enter Tryd.func57, Tryd.ntmps57
  go_wp2_with fail
  refine (HPI.out _ HK.out).mono ?_
  rintro e w1 ⟨v1, rfl, hown1, hb1⟩
  have HX1 : Hid (Below w.heap.size w w1 ∧ w1.ownsRow w.heap.size 5 1 v1 64 (bs I)) := Lib.hid ⟨hb1, hown1⟩
  clear hb1 hown1
  go_wp2_with (at_builtin; refine wpList_own_src rfl (.tmp 9) (.tmp 10) 58 9 rfl w.heap.size 5 i0 _ 1 1 Tryd.underlying58 hi0 hz0 hz1 hz2 rfl _ _ _ rfl HX1.out.2 _ t.length (bs t) rfl (src_sb Tryd.underlying9 hz1 t) ?c1 ?c2 ?c3 ?_)
  case c1 => unfold maxLen; omega
  case c2 => omega
  case c3 => exact HX1.out.1.size
  intro v2 w2 hown2 hg2 hat2
  have HX2 : Hid (Below w.heap.size w w2 ∧ w2.ownsRow w.heap.size 5 1 v2 (64 + t.length) (bs (I ++ t))) := Lib.hid ⟨below_own HX1.out.1 hg2 (fun g hg => (HX1.out.2.lt g hg).1), by rw [bs_append]; exact hown2⟩
  clear hown2 hg2 hat2
  go_wp2_with fail
  refine (HPO.out _ (HK.out.of HX2.out.1)).mono ?_
  rintro e w3 ⟨v3, rfl, hown3, hb3⟩
  have HX3 : Hid (Below w.heap.size w w3 ∧ w3.ownsRow w.heap.size 5 1 v2 (64 + t.length) (bs (I ++ t)) ∧ w3.ownsRow w.heap.size 5 1 v3 64 (bs O)) := Lib.hid ⟨below_next HX2.out.1 hb3, own_keep HX2.out.2 hb3, own_mono hown3 HX2.out.1.size⟩
  clear hb3 hown3
  go_wp2_with fail
  refine (HS1.out _ _ _ HX3.out.2.1 (HK.out.of HX3.out.1)).mono ?_
  rintro e w4 ⟨rfl, hb4⟩
  have HX4 : Hid (Below w.heap.size w w4 ∧ w4.ownsRow w.heap.size 5 1 v3 64 (bs O)) := Lib.hid ⟨below_next HX3.out.1 hb4, own_keep HX3.out.2.2 hb4⟩
  clear hb4
  go_wp2_with fail
  refine (HB1.out _).mono ?_
  rintro e w5 ⟨rfl, hb5⟩
  have HX5 : Hid (Below w.heap.size w w5 ∧ w5.ownsRow w.heap.size 5 1 v3 64 (bs O)) := Lib.hid ⟨below_next HX4.out.1 hb5, own_keep HX4.out.2 hb5⟩
  clear hb5
  go_wp2_with (at_builtin; refine wpList_own_src rfl (.tmp 14) (.tmp 17) 58 9 rfl w.heap.size 5 i0 _ 1 1 Tryd.underlying58 hi0 hz0 hz1 hz2 rfl _ _ _ rfl HX5.out.2 _ 32 (bs R1) rfl (by rw [← HR1L.out]; exact src_sb Tryd.underlying9 hz1 R1) ?c1 ?c2 ?c3 ?_)
  case c1 => unfold maxLen; omega
  case c2 => omega
  case c3 => exact HX5.out.1.size
  intro v6 w6 hown6 hg6 hat6
  have HX6 : Hid (Below w.heap.size w w6 ∧ w6.ownsRow w.heap.size 5 1 v6 (64 + 32) (bs (O ++ R1))) := Lib.hid ⟨below_own HX5.out.1 hg6 (fun g hg => (HX5.out.2.lt g hg).1), by rw [bs_append]; exact hown6⟩
  clear hown6 hg6 hat6
  go_wp2_with fail
  refine (HS2.out _ _ _ HX6.out.2 (HK.out.of HX6.out.1)).mono ?_
  rintro e w7 ⟨rfl, hb7⟩
  have HX7 : Hid (Below w.heap.size w w7) := Lib.hid (below_next HX6.out.1 hb7)
  clear hb7
  go_wp2_with fail
  refine (HB2.out _).mono ?_
  rintro e w8 ⟨rfl, hb8⟩
  have HX8 : Hid (Below w.heap.size w w8) := Lib.hid (below_next HX7.out hb8)
  clear hb8
  go_wp2_with fail
  go_ret
  exact ⟨rfl, HX8.out⟩
theorem rmac_any (k t : List UInt8) (ht : t.length ≤ 1000000) (hk : k.length ≤ 1099511627776) (w : World) (hK : KR w) :
    Calls Tryd.prog 57 #[.string (sb k), .string (sb t)] w fun e w' => e = .returned (.string (sb (mac k t))) ∧ Below w.heap.size w w' :=
  rmac_aux k t _ _ _ _ rfl rfl rfl (by rw [mac]) ht hk w hK
end Go.Proofs.YtbgcnfikcddcpaaDoor
