/-
  The walks of the reference's start, leaf, Digest, fits.
-/
import Derived.Test.YtbgcnfikcddcpaaDoorSRDig
namespace Go.Proofs.YtbgcnfikcddcpaaDoor
open Go.RowKit
set_option linter.unusedVariables false
set_option linter.unusedSimpArgs false
open Sha Sgn
set_option maxRecDepth 100000 in
set_option maxHeartbeats 1000000 in
theorem rstart_aux (s : List UInt8) (i : Int) (hi : inI i) (hs : s.length ≤ 1000000) (k : Nat) (hk : k ≤ 1000) (E M Y D : List UInt8) (hE : E = eL [i, (k : Int)]) (hM : M = cmsg i k) (hY : Y = mac s M) (hD : D = Y.take 16) (w : World) (hK : KR w) :
    Calls Tryd.prog 39 #[.string (sb s), .int .i64 i, .int .i64 (k : Int)] w fun e w' => e = .returned (.agg (bs D).toArray) ∧ Below w.heap.size w w' := by
  have hcat : ({ data := #[99, 104, 97, 105, 110] } : ByteArray) ++ sb E = sb M := by
    rw [hM, cmsg, ← hE]
    exact sb_append [99, 104, 97, 105, 110] E
  have hadd := fun (W : World) => run_cat (P := Tryd.prog) { data := #[99, 104, 97, 105, 110] } (sb E) (by have h1 := eL_length [i, (k : Int)]; rw [sb_size, hE]; simp only [List.length_cons, List.length_nil] at h1; show 5 + _ ≤ _; omega) W
  rw [hcat] at hadd
  have hY32 : Y.length = 32 := by rw [hY, mac, sha_length]
  have hDl : (bs D).length = 16 := by rw [bs_length, hD, List.length_take]; omega
  have HIN : Hid (∀ (b : Nat) (W : World), Rd W (some ⟨b, 0, none⟩) [.int .i64 i, .int .i64 (k : Int)] → Calls Tryd.prog 56 #[.slice (some ⟨b, 0, none⟩) 2 2] W fun e w' => e = .returned (.string (sb E)) ∧ Below W.heap.size W w') :=
    Lib.hid fun b W h => rists_at _ E hE b 2 rfl (by simp) (by intro m hm; simp at hm; rcases hm with rfl | rfl; exact hi; unfold inI; omega) W h
  have HMC : Hid (∀ (W : World), KR W → Calls Tryd.prog 57 #[.string (sb s), .string (sb M)] W fun e w' => e = .returned (.string (sb Y)) ∧ Below W.heap.size W w') :=
    Lib.hid fun W hk => by rw [hY]; exact rmac_any s M (by rw [hM]; exact cmsg_length i k) (by omega) W hk
  have HDG : Hid (∀ (W : World), Calls Tryd.prog 46 #[.string (sb Y)] W fun e w' => e = .returned (.agg (bs D).toArray) ∧ Below W.heap.size W w') :=
    Lib.hid fun W => rdig_any Y D hD (by omega) W
  have HDL := Lib.hid hDl
  have HK := Lib.hid hK
  clear hE hM hY hD hY32 hDl hcat hK hs hi
  have H0 : Hid (Blk (w.alloc (.cells #[.int .u8 0, .int .u8 0, .int .u8 0, .int .u8 0, .int .u8 0, .int .u8 0, .int .u8 0, .int .u8 0, .int .u8 0, .int .u8 0, .int .u8 0, .int .u8 0, .int .u8 0, .int .u8 0, .int .u8 0, .int .u8 0] 23)) w.heap.size (bs (List.replicate 16 0)) 23 ∧ Below w.heap.size w (w.alloc (.cells #[.int .u8 0, .int .u8 0, .int .u8 0, .int .u8 0, .int .u8 0, .int .u8 0, .int .u8 0, .int .u8 0, .int .u8 0, .int .u8 0, .int .u8 0, .int .u8 0, .int .u8 0, .int .u8 0, .int .u8 0, .int .u8 0] 23))) := Lib.hid ⟨Blk.at w _ _ _ _ rfl rfl, below_a1 _ _⟩
  go_enter Tryd.func39, Tryd.ntmps39
  go_wp2_with (first
    | (go_at_call 56; (with_reducible refine (HIN.out _ _ ?_).mono ?_); exact Rd.of_blk (Blk.at _ [.int .i64 i, .int .i64 (k : Int)] _ _ _ rfl (by simp)); rintro e x1 ⟨rfl, hb1⟩; have HX1 : Hid (Blk x1 w.heap.size (bs (List.replicate 16 0)) 23 ∧ Below w.heap.size w x1) := Lib.hid ⟨(H0.out.1.alloc _).below hb1 (H0.out.1.alloc _).lt, below_next (al H0.out.2 _) hb1⟩; clear hb1)
    | (go_at_call 57; (with_reducible refine (HMC.out _ ?_).mono ?_); exact (HK.out.of HX1.out.2); rintro e x2 ⟨rfl, hb2⟩; have HX2 : Hid (Blk x2 w.heap.size (bs (List.replicate 16 0)) 23 ∧ Below w.heap.size w x2) := Lib.hid ⟨HX1.out.1.below hb2 HX1.out.1.lt, below_next HX1.out.2 hb2⟩; clear hb2)
    | (go_at_call 46; (with_reducible refine (HDG.out _).mono ?_); rintro e x3 ⟨rfl, hb3⟩; have HX3 : Hid (Blk x3 w.heap.size (bs (List.replicate 16 0)) 23 ∧ Below w.heap.size w x3) := Lib.hid ⟨HX2.out.1.below hb3 HX2.out.1.lt, below_next HX2.out.2 hb3⟩; clear hb3)
    | (refine wpList_store_blk rfl 23 (.tmp 6) (.tmp 14) rfl w.heap.size 0 rfl (bs D) rfl HX3.out.1 16 Tryd.size44 HDL.out (by rw [bs_length, List.length_replicate]; omega) (bs_one _) ?_; intro x4 hst4; rw [List.take_zero, List.nil_append, List.drop_of_length_le (by rw [bs_length, List.length_replicate]; omega), List.append_nil] at hst4; have HX4 := Lib.hid hst4; clear hst4))
  refine ret_blk rfl _ rfl HX4.out.1 _ Tryd.underlying23 rfl (by rw [HDL.out]; exact Tryd.size44) rfl ⟨rfl, HX4.out.below HX3.out.2 (by omega)⟩
theorem rstart_any (s : List UInt8) (i : Int) (hi : inI i) (hs : s.length ≤ 1000000) (k : Nat) (hk : k ≤ 1000) (w : World) (hK : KR w) :
    Calls Tryd.prog 39 #[.string (sb s), .int .i64 i, .int .i64 (k : Int)] w fun e w' => e = .returned (.agg (bs (bot s i k)).toArray) ∧ Below w.heap.size w w' :=
  rstart_aux s i hi hs k hk _ _ _ _ rfl rfl rfl (by rw [bot]) w hK

/-- A string as it grows by sixteen bytes a round. -/
def piece (Q : Nat → List UInt8) (s0 : List UInt8) : Nat → List UInt8
  | 0 => s0
  | k + 1 => piece Q s0 k ++ Q k
theorem piece_length (Q : Nat → List UInt8) (s0 : List UInt8) (hQ : ∀ k, (Q k).length = 16) : ∀ k, (piece Q s0 k).length = s0.length + 16 * k
  | 0 => rfl
  | k + 1 => by rw [piece, List.length_append, piece_length Q s0 hQ k, hQ]; omega
theorem piece_flat (Q : Nat → List UInt8) (s0 : List UInt8) : ∀ k, piece Q s0 k = s0 ++ (List.range k).flatMap Q
  | 0 => by simp [piece]
  | k + 1 => by rw [piece, piece_flat Q s0 k, List.range_succ, List.flatMap_append]; simp
attribute [irreducible] piece
theorem piece_succ (Q : Nat → List UInt8) (s0 : List UInt8) (k : Nat) : piece Q s0 (k + 1) = piece Q s0 k ++ Q k := by rw [piece]
theorem piece_zero (Q : Nat → List UInt8) (s0 : List UInt8) : piece Q s0 0 = s0 := by rw [piece]

set_option maxRecDepth 100000 in
set_option maxHeartbeats 1000000 in
theorem rleaf_aux (s : List UInt8) (i : Int) (hi : inI i) (hs : s.length ≤ 1000000) (Q : Nat → List UInt8) (hQ : Q = fun c => adv i c 0 3 (bot s i c)) (T K D : List UInt8) (hT : T = piece Q [] 68) (hK9 : K = dig 9 [T]) (hD : D = dig 1 [K]) (w : World) (hK : KR w) :
    Calls Tryd.prog 51 #[.string (sb s), .int .i64 i] w fun e w' => e = .returned (.agg (bs D).toArray) ∧ Below w.heap.size w w' := by
  have hQ16 : ∀ k, (Q k).length = 16 := fun k => by rw [hQ]; exact adv_length _ _ _ _ _ (bot_length _ _ _)
  have hTl : T.length = 1088 := by rw [hT, piece_length Q [] hQ16]; rfl
  have hKl : K.length = 16 := by rw [hK9, dig_length]
  have hDl : D.length = 16 := by rw [hD, dig_length]
  have HK := Lib.hid hK; clear hK
  have HST : Hid (∀ (k : Nat), k < 68 → ∀ W, KR W → Calls Tryd.prog 39 #[.string (sb s), .int .i64 i, .int .i64 (k : Int)] W fun e w' => e = .returned (.agg (bs (bot s i k)).toArray) ∧ Below W.heap.size W w') := Lib.hid fun k hk W h => rstart_any s i hi hs k (by omega) W h
  have HAD : Hid (∀ (k : Nat), k < 68 → ∀ W, KR W → Calls Tryd.prog 38 #[.int .i64 i, .int .i64 (k : Int), .int .i64 0, .int .i64 3, .agg (bs (bot s i k)).toArray] W fun e w' => e = .returned (.agg (bs (Q k)).toArray) ∧ Below W.heap.size W w') := Lib.hid fun k hk W h => by
    rw [hQ]
    exact radv_any i hi k 0 3 (k : Int) 0 3 rfl rfl rfl _ (by omega) (by omega) (bot_length _ _ _) W h
  have HTX : Hid (∀ (k : Nat), ∀ W, Calls Tryd.prog 37 #[.agg (bs (Q k)).toArray] W fun e w' => e = .returned (.string (sb (Q k))) ∧ Below W.heap.size W w') := Lib.hid fun k W => text_any _ (hQ16 k) W
  have HTK : Hid (∀ W, Calls Tryd.prog 37 #[.agg (bs K).toArray] W fun e w' => e = .returned (.string (sb K)) ∧ Below W.heap.size W w') := Lib.hid fun W => text_any K hKl W
  have HOF9 : Hid (∀ (b : Nat) (W : World), Rd W (some ⟨b, 0, none⟩) [.string (sb T)] → KR W → Calls Tryd.prog 41 #[.int .i64 9, .slice (some ⟨b, 0, none⟩) 1 1] W fun e w' => e = .returned (.agg (bs K).toArray) ∧ Below W.heap.size W w') :=
    Lib.hid fun b W h hk => rof_at 9 [T] K hK9 b 1 rfl (by intro p hp; simp at hp; rcases hp with rfl; omega) (by simp) W h hk
  have HOF1 : Hid (∀ (b : Nat) (W : World), Rd W (some ⟨b, 0, none⟩) [.string (sb K)] → KR W → Calls Tryd.prog 41 #[.int .i64 1, .slice (some ⟨b, 0, none⟩) 1 1] W fun e w' => e = .returned (.agg (bs D).toArray) ∧ Below W.heap.size W w') :=
    Lib.hid fun b W h hk => rof_at 1 [K] D hD b 1 rfl (by intro p hp; simp at hp; rcases hp with rfl; omega) (by simp) W h hk
  have HQ : Hid (∀ k, (Q k).length = 16) := Lib.hid hQ16
  have HT := Lib.hid hT
  have HKL : Hid ((bs K).length = 16) := Lib.hid (by rw [bs_length]; exact hKl)
  have HDL : Hid ((bs D).length = 16) := Lib.hid (by rw [bs_length]; exact hDl)
  clear hT hTl hKl hDl hK9 hD hQ hQ16 hs hi
  have H0 : Hid (Blk (w.alloc (.cells #[.int .u8 0, .int .u8 0, .int .u8 0, .int .u8 0, .int .u8 0, .int .u8 0, .int .u8 0, .int .u8 0, .int .u8 0, .int .u8 0, .int .u8 0, .int .u8 0, .int .u8 0, .int .u8 0, .int .u8 0, .int .u8 0] 23)) w.heap.size (bs (List.replicate 16 0)) 23 ∧ Below w.heap.size w (w.alloc (.cells #[.int .u8 0, .int .u8 0, .int .u8 0, .int .u8 0, .int .u8 0, .int .u8 0, .int .u8 0, .int .u8 0, .int .u8 0, .int .u8 0, .int .u8 0, .int .u8 0, .int .u8 0, .int .u8 0, .int .u8 0, .int .u8 0] 23))) := Lib.hid ⟨Blk.at w _ _ _ _ rfl rfl, below_a1 _ _⟩
  go_enter Tryd.func51, Tryd.ntmps51
  go_wp2_with fail
  go_loopg [5, 6] 68 (fun g s5 s6 wr => ∃ k : Nat, k + g = 68 ∧ s6 = .int .i64 k ∧ s5 = .string (sb (piece Q [] k)) ∧ Blk wr w.heap.size (bs (List.replicate 16 0)) 23 ∧ Below w.heap.size w wr)
  case atStart => exact ⟨0, rfl, rfl, by rw [piece_zero]; rfl, H0.out⟩
  case round =>
    clear H0
    obtain ⟨k, hk, rfl, rfl, hB, hBl⟩ := hrel
    by_cases hlt : k < 68
    · obtain ⟨g, rfl⟩ : ∃ g, gk = g + 1 := ⟨gk - 1, by omega⟩
      have HS := Lib.hid (And.intro hB hBl); clear hB hBl
      have hLl := piece_length Q [] HQ.out k
      have hnx := piece_succ Q [] k
      have HST' := Lib.hid (HST.out k hlt)
      have HAD' := Lib.hid (HAD.out k hlt)
      have HTX' := Lib.hid (HTX.out k)
      have hXl := HQ.out k
      generalize piece Q [] k = L at hLl hnx ⊢
      obtain ⟨X, hX⟩ : ∃ X, X = Q k := ⟨_, rfl⟩
      rw [← hX] at HAD' HTX' hXl hnx
      obtain ⟨V, hV⟩ : ∃ V, V = bot s i k := ⟨_, rfl⟩
      rw [← hV] at HAD' HST'
      have hcat := sb_append L X
      have hadd := fun (W : World) => run_cat (P := Tryd.prog) (sb L) (sb X) (by rw [sb_size, sb_size, hXl, hLl, List.length_nil]; omega) W
      rw [hcat] at hadd
      have HNX := Lib.hid hnx
      clear hcat hLl hXl hnx hX hV
      go_wp2_with (first
        | ((with_reducible refine (HST'.out _ ?_).mono ?_); exact (HK.out.of HS.out.2); rintro e x1 ⟨rfl, hb1⟩; have HX1 : Hid (Blk x1 w.heap.size (bs (List.replicate 16 0)) 23 ∧ Below w.heap.size w x1) := Lib.hid ⟨HS.out.1.below hb1 HS.out.1.lt, below_next HS.out.2 hb1⟩; clear hb1)
        | ((with_reducible refine (HAD'.out _ ?_).mono ?_); exact (HK.out.of HX1.out.2); rintro e x2 ⟨rfl, hb2⟩; have HX2 : Hid (Blk x2 w.heap.size (bs (List.replicate 16 0)) 23 ∧ Below w.heap.size w x2) := Lib.hid ⟨HX1.out.1.below hb2 HX1.out.1.lt, below_next HX1.out.2 hb2⟩; clear hb2)
        | ((with_reducible refine (HTX'.out _).mono ?_); rintro e x3 ⟨rfl, hb3⟩; have HX3 : Hid (Blk x3 w.heap.size (bs (List.replicate 16 0)) 23 ∧ Below w.heap.size w x3) := Lib.hid ⟨HX2.out.1.below hb3 HX2.out.1.lt, below_next HX2.out.2 hb3⟩; clear hb3))
      go_roundg g
      case rel => exact ⟨k + 1, by omega, by go_num, by rw [HNX.out], HX3.out⟩
      case measure => omega
    · obtain rfl : k = 68 := by omega
      rw [← HT.out]
      have HS := Lib.hid (And.intro hB hBl); clear hB hBl
      go_wp2_with (first
        | ((with_reducible refine (HOF9.out _ _ ?_ ?_).mono ?_); exact Rd.of_blk (Blk.at wr [.string (sb T)] _ _ _ rfl rfl); exact HK.out.of (al HS.out.2 _); rintro e x1 ⟨rfl, hb1⟩; have HX1 : Hid (Blk x1 w.heap.size (bs (List.replicate 16 0)) 23 ∧ Below w.heap.size w x1) := Lib.hid ⟨(HS.out.1.alloc _).below hb1 (HS.out.1.alloc _).lt, below_next (al HS.out.2 _) hb1⟩; clear hb1)
        | (refine wpList_store_blk rfl 23 (.tmp 7) (.tmp 24) rfl x1.heap.size 0 rfl (bs K) rfl (Blk.new' x1 (bs (List.replicate 16 0)) _ 23 rfl) 16 Tryd.size44 HKL.out (by rw [bs_length, List.length_replicate]; omega) (bs_one _) ?_; intro x2 hst2; rw [List.take_zero, List.nil_append, List.drop_of_length_le (by rw [bs_length, List.length_replicate]; omega), List.append_nil] at hst2; have HX2 : Hid (Blk x2 x1.heap.size (bs K) 23 ∧ Blk x2 w.heap.size (bs (List.replicate 16 0)) 23 ∧ Below w.heap.size w x2) := Lib.hid ⟨hst2.1, hst2.other (HX1.out.1.alloc _) (by have := HX1.out.1.lt; omega), hst2.below (al HX1.out.2 _) HX1.out.2.size⟩; clear hst2)
        | (refine wpList_load_blk rfl 23 (.tmp 7) rfl x1.heap.size 0 rfl HX2.out.1 _ Tryd.underlying23 rfl 16 Tryd.size44 (by rw [HKL.out]; omega) ?_; rw [List.drop_zero, List.take_of_length_le (by rw [HKL.out]; omega)])
        | ((with_reducible refine (HTK.out _).mono ?_); rintro e x3 ⟨rfl, hb3⟩; have HX3 : Hid (Blk x3 w.heap.size (bs (List.replicate 16 0)) 23 ∧ Below w.heap.size w x3) := Lib.hid ⟨HX2.out.2.1.below hb3 HX2.out.2.1.lt, below_next HX2.out.2.2 hb3⟩; clear hb3)
        | ((with_reducible refine (HOF1.out _ _ ?_ ?_).mono ?_); exact Rd.of_blk (Blk.at x3 [.string (sb K)] _ _ _ rfl rfl); exact HK.out.of (al HX3.out.2 _); rintro e x4 ⟨rfl, hb4⟩; have HX4 : Hid (Blk x4 w.heap.size (bs (List.replicate 16 0)) 23 ∧ Below w.heap.size w x4) := Lib.hid ⟨(HX3.out.1.alloc _).below hb4 (HX3.out.1.alloc _).lt, below_next (al HX3.out.2 _) hb4⟩; clear hb4)
        | (refine wpList_store_blk rfl 23 (.tmp 4) (.tmp 28) rfl w.heap.size 0 rfl (bs D) rfl HX4.out.1 16 Tryd.size44 HDL.out (by rw [bs_length, List.length_replicate]; omega) (bs_one _) ?_; intro x5 hst5; rw [List.take_zero, List.nil_append, List.drop_of_length_le (by rw [bs_length, List.length_replicate]; omega), List.append_nil] at hst5; have HX5 := Lib.hid hst5; clear hst5))
      refine ret_blk rfl _ rfl HX5.out.1 _ Tryd.underlying23 rfl (by rw [HDL.out]; exact Tryd.size44) rfl ⟨rfl, HX5.out.below HX4.out.2 (by omega)⟩
end Go.Proofs.YtbgcnfikcddcpaaDoor
