/-
  The walks of the reference's start, leaf, levels (rows of digests, one for each level of the tree).
-/
import Derived.Test.YtbgcnfikcddcpaaDoorSRDig
namespace Go.Proofs.YtbgcnfikcddcpaaDoor
open Go.RowKit
set_option linter.unusedVariables false
set_option linter.unusedSimpArgs false
open Sha Sgn
set_option maxRecDepth 100000 in
set_option maxHeartbeats 1000000 in
theorem rstart_aux (s : List UInt8) (i : Int) (hi : inI i) (hs : s.length ≤ 1000000) (k : Nat) (hk : k ≤ 1000) (E M Y D : List UInt8) (hE : E = eL [i, (k : Int)]) (hM : M = cmsg i k) (hY : Y = mac s M) (hD : D = Y.take 16) (w : World) (hK : KR w) :
    Calls Tryd.prog 39 #[.string (sb s), .int .i64 i, .int .i64 (k : Int)] w fun e w' => e = .returned (.agg (bs D).toArray) ∧ Below w.heap.size w w' := by
  have hcat : ({ data := #[99, 104, 97, 105, 110] } : ByteArray) ++ sb E = sb M := by
    rw [hM, cmsg, ← hE]
    exact sb_append [99, 104, 97, 105, 110] E
  have hadd := fun (W : World) => run_cat (P := Tryd.prog) { data := #[99, 104, 97, 105, 110] } (sb E) (by have h1 := eL_length [i, (k : Int)]; rw [sb_size, hE]; simp only [List.length_cons, List.length_nil] at h1; show 5 + _ ≤ _; omega) W
  rw [hcat] at hadd
  have hY32 : Y.length = 32 := by rw [hY, mac, sha_length]
  have hDl : (bs D).length = 16 := by rw [bs_length, hD, List.length_take]; omega
  have HIN : Hid (∀ (b : Nat) (W : World), Rd W (some ⟨b, 0, none⟩) [.int .i64 i, .int .i64 (k : Int)] → Calls Tryd.prog 56 #[.slice (some ⟨b, 0, none⟩) 2 2] W fun e w' => e = .returned (.string (sb E)) ∧ Below W.heap.size W w') :=
    Lib.hid fun b W h => rists_at _ E hE b 2 rfl (by simp) (by intro m hm; simp at hm; rcases hm with rfl | rfl; exact hi; unfold inI; omega) W h
  have HMC : Hid (∀ (W : World), KR W → Calls Tryd.prog 57 #[.string (sb s), .string (sb M)] W fun e w' => e = .returned (.string (sb Y)) ∧ Below W.heap.size W w') :=
    Lib.hid fun W hk => by rw [hY]; exact rmac_any s M (by rw [hM]; exact cmsg_length i k) (by omega) W hk
  have HDG : Hid (∀ (W : World), Calls Tryd.prog 46 #[.string (sb Y)] W fun e w' => e = .returned (.agg (bs D).toArray) ∧ Below W.heap.size W w') :=
    Lib.hid fun W => rdig_any Y D hD (by omega) W
  have HDL := Lib.hid hDl
  have HK := Lib.hid hK
  clear hE hM hY hD hY32 hDl hcat hK hs hi
  have H0 : Hid (Blk (w.alloc (.cells #[.int .u8 0, .int .u8 0, .int .u8 0, .int .u8 0, .int .u8 0, .int .u8 0, .int .u8 0, .int .u8 0, .int .u8 0, .int .u8 0, .int .u8 0, .int .u8 0, .int .u8 0, .int .u8 0, .int .u8 0, .int .u8 0] 23)) w.heap.size (bs (List.replicate 16 0)) 23 ∧ Below w.heap.size w (w.alloc (.cells #[.int .u8 0, .int .u8 0, .int .u8 0, .int .u8 0, .int .u8 0, .int .u8 0, .int .u8 0, .int .u8 0, .int .u8 0, .int .u8 0, .int .u8 0, .int .u8 0, .int .u8 0, .int .u8 0, .int .u8 0, .int .u8 0] 23))) := Lib.hid ⟨Blk.at w _ _ _ _ rfl rfl, below_a1 _ _⟩
  go_enter Tryd.func39, Tryd.ntmps39
  go_wp2_with (first
    | (go_at_call 56; (with_reducible refine (HIN.out _ _ ?_).mono ?_); exact Rd.of_blk (Blk.at _ [.int .i64 i, .int .i64 (k : Int)] _ _ _ rfl (by simp)); rintro e x1 ⟨rfl, hb1⟩; have HX1 : Hid (Blk x1 w.heap.size (bs (List.replicate 16 0)) 23 ∧ Below w.heap.size w x1) := Lib.hid ⟨(H0.out.1.alloc _).below hb1 (H0.out.1.alloc _).lt, below_next (al H0.out.2 _) hb1⟩; clear hb1)
    | (go_at_call 57; (with_reducible refine (HMC.out _ ?_).mono ?_); exact (HK.out.of HX1.out.2); rintro e x2 ⟨rfl, hb2⟩; have HX2 : Hid (Blk x2 w.heap.size (bs (List.replicate 16 0)) 23 ∧ Below w.heap.size w x2) := Lib.hid ⟨HX1.out.1.below hb2 HX1.out.1.lt, below_next HX1.out.2 hb2⟩; clear hb2)
    | (go_at_call 46; (with_reducible refine (HDG.out _).mono ?_); rintro e x3 ⟨rfl, hb3⟩; have HX3 : Hid (Blk x3 w.heap.size (bs (List.replicate 16 0)) 23 ∧ Below w.heap.size w x3) := Lib.hid ⟨HX2.out.1.below hb3 HX2.out.1.lt, below_next HX2.out.2 hb3⟩; clear hb3)
    | (refine wpList_store_blk rfl 23 (.tmp 6) (.tmp 14) rfl w.heap.size 0 rfl (bs D) rfl HX3.out.1 16 Tryd.size44 HDL.out (by rw [bs_length, List.length_replicate]; omega) (bs_one _) ?_; intro x4 hst4; rw [List.take_zero, List.nil_append, List.drop_of_length_le (by rw [bs_length, List.length_replicate]; omega), List.append_nil] at hst4; have HX4 := Lib.hid hst4; clear hst4))
  refine ret_blk rfl _ rfl HX4.out.1 _ Tryd.underlying23 rfl (by rw [HDL.out]; exact Tryd.size44) rfl ⟨rfl, HX4.out.below HX3.out.2 (by omega)⟩
theorem rstart_any (s : List UInt8) (i : Int) (hi : inI i) (hs : s.length ≤ 1000000) (k : Nat) (hk : k ≤ 1000) (w : World) (hK : KR w) :
    Calls Tryd.prog 39 #[.string (sb s), .int .i64 i, .int .i64 (k : Int)] w fun e w' => e = .returned (.agg (bs (bot s i k)).toArray) ∧ Below w.heap.size w w' :=
  rstart_aux s i hi hs k hk _ _ _ _ rfl rfl rfl (by rw [bot]) w hK

/-- A string as it grows by sixteen bytes a round. -/
def piece (Q : Nat → List UInt8) (s0 : List UInt8) : Nat → List UInt8
  | 0 => s0
  | k + 1 => piece Q s0 k ++ Q k
theorem piece_length (Q : Nat → List UInt8) (s0 : List UInt8) (hQ : ∀ k, (Q k).length = 16) : ∀ k, (piece Q s0 k).length = s0.length + 16 * k
  | 0 => rfl
  | k + 1 => by rw [piece, List.length_append, piece_length Q s0 hQ k, hQ]; omega
theorem piece_flat (Q : Nat → List UInt8) (s0 : List UInt8) : ∀ k, piece Q s0 k = s0 ++ (List.range k).flatMap Q
  | 0 => by simp [piece]
  | k + 1 => by rw [piece, piece_flat Q s0 k, List.range_succ, List.flatMap_append]; simp
attribute [irreducible] piece
theorem piece_succ (Q : Nat → List UInt8) (s0 : List UInt8) (k : Nat) : piece Q s0 (k + 1) = piece Q s0 k ++ Q k := by rw [piece]
theorem piece_zero (Q : Nat → List UInt8) (s0 : List UInt8) : piece Q s0 0 = s0 := by rw [piece]

set_option maxRecDepth 100000 in
set_option maxHeartbeats 1000000 in
theorem rleaf_aux (s : List UInt8) (i : Int) (hi : inI i) (hs : s.length ≤ 1000000) (Q : Nat → List UInt8) (hQ : Q = fun c => adv i c 0 3 (bot s i c)) (T K D : List UInt8) (hT : T = piece Q [] 68) (hK9 : K = dig 9 [T]) (hD : D = dig 1 [K]) (w : World) (hK : KR w) :
    Calls Tryd.prog 51 #[.string (sb s), .int .i64 i] w fun e w' => e = .returned (.agg (bs D).toArray) ∧ Below w.heap.size w w' := by
  have hQ16 : ∀ k, (Q k).length = 16 := fun k => by rw [hQ]; exact adv_length _ _ _ _ _ (bot_length _ _ _)
  have hTl : T.length = 1088 := by rw [hT, piece_length Q [] hQ16]; rfl
  have hKl : K.length = 16 := by rw [hK9, dig_length]
  have hDl : D.length = 16 := by rw [hD, dig_length]
  have HK := Lib.hid hK; clear hK
  have HST : Hid (∀ (k : Nat), k < 68 → ∀ W, KR W → Calls Tryd.prog 39 #[.string (sb s), .int .i64 i, .int .i64 (k : Int)] W fun e w' => e = .returned (.agg (bs (bot s i k)).toArray) ∧ Below W.heap.size W w') := Lib.hid fun k hk W h => rstart_any s i hi hs k (by omega) W h
  have HAD : Hid (∀ (k : Nat), k < 68 → ∀ W, KR W → Calls Tryd.prog 38 #[.int .i64 i, .int .i64 (k : Int), .int .i64 0, .int .i64 3, .agg (bs (bot s i k)).toArray] W fun e w' => e = .returned (.agg (bs (Q k)).toArray) ∧ Below W.heap.size W w') := Lib.hid fun k hk W h => by
    rw [hQ]
    exact radv_any i hi k 0 3 (k : Int) 0 3 rfl rfl rfl _ (by omega) (by omega) (bot_length _ _ _) W h
  have HTX : Hid (∀ (k : Nat), ∀ W, Calls Tryd.prog 37 #[.agg (bs (Q k)).toArray] W fun e w' => e = .returned (.string (sb (Q k))) ∧ Below W.heap.size W w') := Lib.hid fun k W => text_any _ (hQ16 k) W
  have HTK : Hid (∀ W, Calls Tryd.prog 37 #[.agg (bs K).toArray] W fun e w' => e = .returned (.string (sb K)) ∧ Below W.heap.size W w') := Lib.hid fun W => text_any K hKl W
  have HOF9 : Hid (∀ (b : Nat) (W : World), Rd W (some ⟨b, 0, none⟩) [.string (sb T)] → KR W → Calls Tryd.prog 41 #[.int .i64 9, .slice (some ⟨b, 0, none⟩) 1 1] W fun e w' => e = .returned (.agg (bs K).toArray) ∧ Below W.heap.size W w') :=
    Lib.hid fun b W h hk => rof_at 9 [T] K hK9 b 1 rfl (by intro p hp; simp at hp; rcases hp with rfl; omega) (by simp) W h hk
  have HOF1 : Hid (∀ (b : Nat) (W : World), Rd W (some ⟨b, 0, none⟩) [.string (sb K)] → KR W → Calls Tryd.prog 41 #[.int .i64 1, .slice (some ⟨b, 0, none⟩) 1 1] W fun e w' => e = .returned (.agg (bs D).toArray) ∧ Below W.heap.size W w') :=
    Lib.hid fun b W h hk => rof_at 1 [K] D hD b 1 rfl (by intro p hp; simp at hp; rcases hp with rfl; omega) (by simp) W h hk
  have HQ : Hid (∀ k, (Q k).length = 16) := Lib.hid hQ16
  have HT := Lib.hid hT
  have HKL : Hid ((bs K).length = 16) := Lib.hid (by rw [bs_length]; exact hKl)
  have HDL : Hid ((bs D).length = 16) := Lib.hid (by rw [bs_length]; exact hDl)
  clear hT hTl hKl hDl hK9 hD hQ hQ16 hs hi
  have H0 : Hid (Blk (w.alloc (.cells #[.int .u8 0, .int .u8 0, .int .u8 0, .int .u8 0, .int .u8 0, .int .u8 0, .int .u8 0, .int .u8 0, .int .u8 0, .int .u8 0, .int .u8 0, .int .u8 0, .int .u8 0, .int .u8 0, .int .u8 0, .int .u8 0] 23)) w.heap.size (bs (List.replicate 16 0)) 23 ∧ Below w.heap.size w (w.alloc (.cells #[.int .u8 0, .int .u8 0, .int .u8 0, .int .u8 0, .int .u8 0, .int .u8 0, .int .u8 0, .int .u8 0, .int .u8 0, .int .u8 0, .int .u8 0, .int .u8 0, .int .u8 0, .int .u8 0, .int .u8 0, .int .u8 0] 23))) := Lib.hid ⟨Blk.at w _ _ _ _ rfl rfl, below_a1 _ _⟩
  go_enter Tryd.func51, Tryd.ntmps51
  go_wp2_with fail
  go_loopg [5, 6] 68 (fun g s5 s6 wr => ∃ k : Nat, k + g = 68 ∧ s6 = .int .i64 k ∧ s5 = .string (sb (piece Q [] k)) ∧ Blk wr w.heap.size (bs (List.replicate 16 0)) 23 ∧ Below w.heap.size w wr)
  case atStart => exact ⟨0, rfl, rfl, by rw [piece_zero]; rfl, H0.out⟩
  case round =>
    clear H0
    obtain ⟨k, hk, rfl, rfl, hB, hBl⟩ := hrel
    by_cases hlt : k < 68
    · obtain ⟨g, rfl⟩ : ∃ g, gk = g + 1 := ⟨gk - 1, by omega⟩
      have HS := Lib.hid (And.intro hB hBl); clear hB hBl
      have hLl := piece_length Q [] HQ.out k
      have hnx := piece_succ Q [] k
      have HST' := Lib.hid (HST.out k hlt)
      have HAD' := Lib.hid (HAD.out k hlt)
      have HTX' := Lib.hid (HTX.out k)
      have hXl := HQ.out k
      generalize piece Q [] k = L at hLl hnx ⊢
      obtain ⟨X, hX⟩ : ∃ X, X = Q k := ⟨_, rfl⟩
      rw [← hX] at HAD' HTX' hXl hnx
      obtain ⟨V, hV⟩ : ∃ V, V = bot s i k := ⟨_, rfl⟩
      rw [← hV] at HAD' HST'
      have hcat := sb_append L X
      have hadd := fun (W : World) => run_cat (P := Tryd.prog) (sb L) (sb X) (by rw [sb_size, sb_size, hXl, hLl, List.length_nil]; omega) W
      rw [hcat] at hadd
      have HNX := Lib.hid hnx
      clear hcat hLl hXl hnx hX hV
      go_wp2_with (first
        | ((with_reducible refine (HST'.out _ ?_).mono ?_); exact (HK.out.of HS.out.2); rintro e x1 ⟨rfl, hb1⟩; have HX1 : Hid (Blk x1 w.heap.size (bs (List.replicate 16 0)) 23 ∧ Below w.heap.size w x1) := Lib.hid ⟨HS.out.1.below hb1 HS.out.1.lt, below_next HS.out.2 hb1⟩; clear hb1)
        | ((with_reducible refine (HAD'.out _ ?_).mono ?_); exact (HK.out.of HX1.out.2); rintro e x2 ⟨rfl, hb2⟩; have HX2 : Hid (Blk x2 w.heap.size (bs (List.replicate 16 0)) 23 ∧ Below w.heap.size w x2) := Lib.hid ⟨HX1.out.1.below hb2 HX1.out.1.lt, below_next HX1.out.2 hb2⟩; clear hb2)
        | ((with_reducible refine (HTX'.out _).mono ?_); rintro e x3 ⟨rfl, hb3⟩; have HX3 : Hid (Blk x3 w.heap.size (bs (List.replicate 16 0)) 23 ∧ Below w.heap.size w x3) := Lib.hid ⟨HX2.out.1.below hb3 HX2.out.1.lt, below_next HX2.out.2 hb3⟩; clear hb3))
      go_roundg g
      case rel => exact ⟨k + 1, by omega, by go_num, by rw [HNX.out], HX3.out⟩
      case measure => omega
    · obtain rfl : k = 68 := by omega
      rw [← HT.out]
      have HS := Lib.hid (And.intro hB hBl); clear hB hBl
      go_wp2_with (first
        | ((with_reducible refine (HOF9.out _ _ ?_ ?_).mono ?_); exact Rd.of_blk (Blk.at wr [.string (sb T)] _ _ _ rfl rfl); exact HK.out.of (al HS.out.2 _); rintro e x1 ⟨rfl, hb1⟩; have HX1 : Hid (Blk x1 w.heap.size (bs (List.replicate 16 0)) 23 ∧ Below w.heap.size w x1) := Lib.hid ⟨(HS.out.1.alloc _).below hb1 (HS.out.1.alloc _).lt, below_next (al HS.out.2 _) hb1⟩; clear hb1)
        | (refine wpList_store_blk rfl 23 (.tmp 7) (.tmp 24) rfl x1.heap.size 0 rfl (bs K) rfl (Blk.new' x1 (bs (List.replicate 16 0)) _ 23 rfl) 16 Tryd.size44 HKL.out (by rw [bs_length, List.length_replicate]; omega) (bs_one _) ?_; intro x2 hst2; rw [List.take_zero, List.nil_append, List.drop_of_length_le (by rw [bs_length, List.length_replicate]; omega), List.append_nil] at hst2; have HX2 : Hid (Blk x2 x1.heap.size (bs K) 23 ∧ Blk x2 w.heap.size (bs (List.replicate 16 0)) 23 ∧ Below w.heap.size w x2) := Lib.hid ⟨hst2.1, hst2.other (HX1.out.1.alloc _) (by have := HX1.out.1.lt; omega), hst2.below (al HX1.out.2 _) HX1.out.2.size⟩; clear hst2)
        | (refine wpList_load_blk rfl 23 (.tmp 7) rfl x1.heap.size 0 rfl HX2.out.1 _ Tryd.underlying23 rfl 16 Tryd.size44 (by rw [HKL.out]; omega) ?_; rw [List.drop_zero, List.take_of_length_le (by rw [HKL.out]; omega)])
        | ((with_reducible refine (HTK.out _).mono ?_); rintro e x3 ⟨rfl, hb3⟩; have HX3 : Hid (Blk x3 w.heap.size (bs (List.replicate 16 0)) 23 ∧ Below w.heap.size w x3) := Lib.hid ⟨HX2.out.2.1.below hb3 HX2.out.2.1.lt, below_next HX2.out.2.2 hb3⟩; clear hb3)
        | ((with_reducible refine (HOF1.out _ _ ?_ ?_).mono ?_); exact Rd.of_blk (Blk.at x3 [.string (sb K)] _ _ _ rfl rfl); exact HK.out.of (al HX3.out.2 _); rintro e x4 ⟨rfl, hb4⟩; have HX4 : Hid (Blk x4 w.heap.size (bs (List.replicate 16 0)) 23 ∧ Below w.heap.size w x4) := Lib.hid ⟨(HX3.out.1.alloc _).below hb4 (HX3.out.1.alloc _).lt, below_next (al HX3.out.2 _) hb4⟩; clear hb4)
        | (refine wpList_store_blk rfl 23 (.tmp 4) (.tmp 28) rfl w.heap.size 0 rfl (bs D) rfl HX4.out.1 16 Tryd.size44 HDL.out (by rw [bs_length, List.length_replicate]; omega) (bs_one _) ?_; intro x5 hst5; rw [List.take_zero, List.nil_append, List.drop_of_length_le (by rw [bs_length, List.length_replicate]; omega), List.append_nil] at hst5; have HX5 := Lib.hid hst5; clear hst5))
      refine ret_blk rfl _ rfl HX5.out.1 _ Tryd.underlying23 rfl (by rw [HDL.out]; exact Tryd.size44) rfl ⟨rfl, HX5.out.below HX4.out.2 (by omega)⟩
theorem step_own2 {P : Program} {w : World} {ops : Array Oper} {o : Oper} {a : Act} {K : Act → World → Prop} {Q : Exit → Act → World → Prop} {E : Prop} (hgd : o.guard = none) (s x : Operand) (t tx : TypeId)
    (ho : o.op = .call { callee := .builtin .append, args := #[s, x], argTypes := #[t, tx] })
    (base : Nat) (e : TypeId) (i : TypeInfo) (z : Value) (size bytes : Nat) (ht : P.underlying t = some (.slice e)) (hi : P.info? e = some i) (hz : i.zero = some z)
    (hsize : i.size = size) (hby : i.bytes = bytes) (hzs : z.cells.size = size) (v : Value) (n : Nat) (xs : List Value) (hs : a.eval s = v) (hown : w.ownsRow base e size v n xs)
    (y : Value) (m : Nat) (news : List Value) (hx : a.eval x = y) (hsrc : Src P i.size tx y m news w) (h63 : n + m ≤ maxLen) (hbytes : (n + m) * bytes ≤ 140737488355328) (hbase : base ≤ w.heap.size)
    (h : ∀ v' w', w'.ownsRow base e size v' (n + m) (xs ++ news) → w.grownBy w' v.ownBlock → (v'.ownBlock = v.ownBlock ∨ v'.ownBlock = some w.heap.size) → K (a.put o.dst v') w') :
    if Region.wanted o (yielded ops a.tmps) = true then Oper.wp P o a w K Q else E := by
  rw [if_pos (by simp [Region.wanted, hgd])]
  exact wp_own_src s x t tx ho base e i z size bytes ht hi hz hsize hby hzs v n xs hs hown y m news hx hsrc h63 hbytes hbase h
theorem flatMap_same {α β : Type} {l : List α} {f g : α → List β} (h : ∀ x ∈ l, f x = g x) : l.flatMap f = l.flatMap g := by
  rw [List.flatMap_def, List.flatMap_def, List.map_congr_left h]
theorem tops_bots (s : List UInt8) (i : Int) : topsN i (bots s i) Z68 68 = piece (fun c => adv i c 0 3 (bot s i c)) [] 68 := by
  rw [piece_flat, List.nil_append]
  unfold topsN
  refine flatMap_same fun c hc => ?_
  rw [Z68_get, bots_get _ _ _ (by simpa using hc)]
theorem rleaf_any (s : List UInt8) (i : Nat) (I : Int) (hI : I = (i : Int)) (hi : inI I) (hs : s.length ≤ 1000000) (w : World) (hK : KR w) :
    Calls Tryd.prog 51 #[.string (sb s), .int .i64 I] w fun e w' => e = .returned (.agg (bs (node s 0 i)).toArray) ∧ Below w.heap.size w w' :=
  rleaf_aux s I hi hs _ rfl _ _ _ rfl rfl (by rw [node, leafN, tops_bots, hI]) w hK
/-- The cells of the first m nodes of level j. -/
def Lev (s : List UInt8) (j m : Nat) : List Value := (List.range m).flatMap fun k => bs (node s j k)
theorem Lev_zero (s : List UInt8) (j : Nat) : Lev s j 0 = [] := rfl
theorem Lev_succ (s : List UInt8) (j m : Nat) : Lev s j (m + 1) = Lev s j m ++ bs (node s j m) := by rw [Lev, List.range_succ, List.flatMap_append]; simp [Lev]
theorem Lev_length (s : List UInt8) (j : Nat) : ∀ m, (Lev s j m).length = 16 * m
  | 0 => rfl
  | m + 1 => by rw [Lev_succ, List.length_append, Lev_length s j m, bs_length, node_length]; omega
theorem Lev_get (s : List UInt8) (j : Nat) : ∀ m k t, k < m → t < 16 → (Lev s j m)[16 * k + t]? = (bs (node s j k))[t]?
  | 0, _, _, h, _ => by omega
  | m + 1, k, t, h, ht => by
    rw [Lev_succ]
    by_cases hk : k = m
    · subst hk
      rw [List.getElem?_append_right (by rw [Lev_length]; omega), Lev_length, show 16 * k + t - 16 * k = t from by omega]
    · rw [List.getElem?_append_left (by rw [Lev_length]; omega)]
      exact Lev_get s j m k t (by omega) ht
attribute [irreducible] Lev
/-- In block g lie the first m nodes of level j. -/
def RowI (w : World) (s : List UInt8) (j m g : Nat) : Prop := g < w.heap.size ∧ ∀ i u, (Lev s j m)[i]? = some u → w.cell? ⟨g, i, none⟩ = some u
theorem RowI.next {w w' : World} {s : List UInt8} {j m g : Nat} (h : RowI w s j m g) (hb : Below w.heap.size w w') : RowI w' s j m g :=
  ⟨Nat.lt_of_lt_of_le h.1 hb.size, fun i u hu => (hb.cell (p := ⟨g, i, none⟩) h.1).trans (h.2 i u hu)⟩
theorem RowI.grown {w w' : World} {s : List UInt8} {j m g : Nat} {row : Option Nat} (h : RowI w s j m g) (hg : w.grownBy w' row) (hne : some g ≠ row) : RowI w' s j m g :=
  ⟨Nat.lt_of_lt_of_le h.1 hg.size, fun i u hu => by
    have hbk := hg.block g h.1 hne
    rw [← h.2 i u hu]
    simp only [World.cell?]
    rw [hbk]⟩
theorem RowI.range {w : World} {s : List UInt8} {j m g : Nat} (h : RowI w s j m g) (k : Nat) (hk : k < m) (o : Nat) (ho : o = 16 * k) : w.rangeAt g o (bs (node s j k)) := fun t u hu => by
  have ht : t < 16 := by have := (List.getElem?_eq_some_iff.1 hu).1; rw [bs_length, node_length] at this; exact this
  rw [ho]
  exact h.2 _ _ (by rw [Lev_get s j m k t hk ht]; exact hu)
theorem RowI.of_own {w : World} {base : Nat} {e : TypeId} {s : List UInt8} {j m g c : Nat} (h : w.ownsRow base e 16 (.slice (some ⟨g, 0, none⟩) m c) m (Lev s j m)) : RowI w s j m g :=
  ⟨(h.lt g rfl).2, fun i u hu => by
    have hi : i < m * 16 := by have := (List.getElem?_eq_some_iff.1 hu).1; rw [Lev_length] at this; omega
    rw [h.cellAt i hi]; exact hu⟩
/-- The slice of n rows in block g: row j has the nodes of level j. -/
def OutI (w0 w : World) (s : List UInt8) (h n g c : Nat) : Prop :=
  ∃ R : List Value, w.ownsRow w0.heap.size 48 1 (.slice (some ⟨g, 0, none⟩) n c) n R ∧ (∀ j, j < n → ∃ b cp, R[j]? = some (.slice (some ⟨b, 0, none⟩) (2 ^ (h - j)) cp) ∧ b ≠ g ∧ RowI w s j (2 ^ (h - j)) b) ∧ Below w0.heap.size w0 w
theorem OutI.next {w0 w w' : World} {s : List UInt8} {h n g c : Nat} (H : OutI w0 w s h n g c) (hb : Below w.heap.size w w') : OutI w0 w' s h n g c := by
  obtain ⟨R, h1, h2, h3⟩ := H
  exact ⟨R, own_keep h1 hb, fun j hj => by obtain ⟨b, cp, e, hne, hr⟩ := h2 j hj; exact ⟨b, cp, e, hne, hr.next hb⟩, below_next h3 hb⟩
theorem OutI.row {w0 w : World} {s : List UInt8} {h n g c : Nat} (H : OutI w0 w s h n g c) (j : Nat) (hj : j < n) : ∃ b cp, w.cell? ⟨g, j, none⟩ = some (.slice (some ⟨b, 0, none⟩) (2 ^ (h - j)) cp) ∧ RowI w s j (2 ^ (h - j)) b := by
  obtain ⟨R, h1, h2, h3⟩ := H
  obtain ⟨b, cp, e, _, hr⟩ := h2 j hj
  exact ⟨b, cp, by rw [h1.cellAt j (by omega), e], hr⟩
theorem OutI.snoc {w0 w wa w1 : World} {s : List UInt8} {h n g c b cp g1 c1 : Nat} {R : List Value} (h1 : w.ownsRow w0.heap.size 48 1 (.slice (some ⟨g, 0, none⟩) n c) n R) (h2 : ∀ j, j < n → ∃ b cp, R[j]? = some (.slice (some ⟨b, 0, none⟩) (2 ^ (h - j)) cp) ∧ b ≠ g ∧ RowI w s j (2 ^ (h - j)) b)
    (h3 : Below w0.heap.size w0 w) (hba : Below w.heap.size w wa) (hr : RowI w s n (2 ^ (h - n)) b) (hbg : b ≠ g)
    (ho : w1.ownsRow w0.heap.size 48 1 (.slice (some ⟨g1, 0, none⟩) (n + 1) c1) (n + 1) (R ++ [.slice (some ⟨b, 0, none⟩) (2 ^ (h - n)) cp])) (hg : wa.grownBy w1 (some g)) (hat : some g1 = some g ∨ some g1 = some wa.heap.size) : OutI w0 w1 s h (n + 1) g1 c1 := by
  have hga : g < wa.heap.size := Nat.lt_of_lt_of_le (h1.lt g rfl).2 hba.size
  have hold : ∀ {j m x : Nat}, RowI w s j m x → x ≠ g → x ≠ g1 ∧ RowI w1 s j m x := fun {j m x} hx hne => by
    have hxa := hx.next hba
    refine ⟨?_, hxa.grown hg (fun e => hne (Option.some.inj e))⟩
    rcases hat with h | h
    · rw [Option.some.inj h]; exact hne
    · rw [Option.some.inj h]; exact Nat.ne_of_lt hxa.1
  have hRn : R.length = n := by have := h1.1; omega
  refine ⟨_, ho, fun j hj => ?_, (below_next h3 hba).grown hg (Nat.le_trans h3.size hba.size) (fun k hk => by rw [← Option.some.inj hk]; exact (h1.lt g rfl).1)⟩
  by_cases hjn : j < n
  · obtain ⟨b', cp', e, hne, hr'⟩ := h2 j hjn
    exact ⟨b', cp', by rw [List.getElem?_append_left (by omega)]; exact e, (hold hr' hne).1, (hold hr' hne).2⟩
  · obtain rfl : j = n := by omega
    exact ⟨b, cp, by rw [List.getElem?_append_right (by omega), hRn, Nat.sub_self]; rfl, (hold hr hbg).1, (hold hr hbg).2⟩
theorem shift6 (h : Nat) (h6 : h ≤ 6) : ∀ W, Sem.run Tryd.prog (Op.shift BinOp.shl IntKind.i64 1 IntKind.i64 (h : Int)) W = .ok (.int .i64 ((2 ^ h : Nat) : Int)) W := by
  have : h = 0 ∨ h = 1 ∨ h = 2 ∨ h = 3 ∨ h = 4 ∨ h = 5 ∨ h = 6 := by omega
  rcases this with rfl | rfl | rfl | rfl | rfl | rfl | rfl <;> intro W <;> kernel_rfl
theorem Tryd.infoRow : (Tryd.prog.info? 48).map (fun i => (i.zero, i.size, i.bytes)) = some (some (.slice none 0 0), 1, 24) := by kernel_rfl
set_option maxRecDepth 100000 in
set_option maxHeartbeats 4000000 in
theorem rlevels_aux (s : List UInt8) (hs : s.length ≤ 1000000) (h : Nat) (h6 : h ≤ 6) (w : World) (hK : KR w) :
    Calls Tryd.prog 25 #[.string (sb s), .int .i64 (h : Int)] w fun e w' => ∃ g c, e = .returned (.slice (some ⟨g, 0, none⟩) (h + 1) c) ∧ OutI w w' s h (h + 1) g c := by
  obtain ⟨i0, hi0, hz0, hz1, hz2⟩ := info_parts Tryd.info23
  obtain ⟨i1, hi1, hy0, hy1, hy2⟩ := info_parts Tryd.infoRow
  have hP64 : 2 ^ h ≤ 2 ^ 6 := Nat.pow_le_pow_right (by omega) h6
  have hP0 : 0 < 2 ^ h := Nat.two_pow_pos h
  obtain ⟨P, hP⟩ : ∃ P, P = 2 ^ h := ⟨_, rfl⟩
  rw [← hP] at hP64 hP0
  have hP64 : P ≤ 64 := hP64
  have hshf : wrap64 (2 ^ h) = (P : Int) := by
    rw [show (2 : Int) ^ h = (P : Int) from by rw [hP]; simp]
    exact IntWalk.wrap64_in _ (by omega)
  have HPE := Lib.hid hP; clear hP
  have HK := Lib.hid hK; clear hK
  have HLF : Hid (∀ (i : Nat), i < 64 → ∀ W, KR W → Calls Tryd.prog 51 #[.string (sb s), .int .i64 (i : Int)] W fun e w' => e = .returned (.agg (bs (node s 0 i)).toArray) ∧ Below W.heap.size W w') := Lib.hid fun i hi W hk => rleaf_any s i _ rfl (by unfold inI; omega) hs W hk
  go_enter Tryd.func25, Tryd.ntmps25
  go_wp2_with fail
  go_loopg [5, 6] P (fun g s5 s6 wr => ∃ i : Nat, i + g = P ∧ s6 = .int .i64 i ∧ wr.ownsRow w.heap.size 23 16 s5 i (Lev s 0 i) ∧ Below w.heap.size w wr)
  case atStart => exact ⟨0, by omega, rfl, by rw [Lev_zero]; exact World.ownsRow_nil _ _ _ _, Below.refl _ _⟩
  case round =>
    obtain ⟨i, hi, rfl, hown, hBl⟩ := hrel
    by_cases hlt : i < P
    · obtain ⟨g, rfl⟩ : ∃ g, gk = g + 1 := ⟨gk - 1, by omega⟩
      obtain ⟨X, hX⟩ : ∃ X, X = node s 0 i := ⟨_, rfl⟩
      have hXl : X.length = 16 := by rw [hX, node_length]
      have hfl : Lev s 0 (i + 1) = Lev s 0 i ++ bs X := by rw [Lev_succ, hX]
      have HLI := Lib.hid (HLF.out i (by omega))
      rw [← hX] at HLI
      have HF := Lib.hid (And.intro hfl hXl); clear hfl hX hXl
      have HA := Lib.hid (And.intro hown hBl); clear hown hBl
      go_wp2_with fail
      refine (HLI.out _ (HK.out.of HA.out.2)).mono ?_
      rintro e x2 ⟨rfl, hb2⟩
      have HX2 : Hid (x2.ownsRow w.heap.size 23 16 _ i (Lev s 0 i) ∧ Below w.heap.size w x2) := Lib.hid ⟨own_keep HA.out.1 hb2, below_next HA.out.2 hb2⟩
      clear hb2
      have hsrc : Src Tryd.prog i0.size 48 (.slice (some ⟨x2.heap.size, 0, none⟩) 1 1) 1 (bs X) (x2.alloc (.cells (bs X).toArray 23)) :=
        Src.ofSlice _ Tryd.underlying48 ⟨x2.heap.size, 0, none⟩ 1 1 (bs X) (by rw [bs_length, HF.out.2, hz1]) (World.news_of_block (heap_alloc_new x2 _)) (bs_one X)
      have HSRC := Lib.hid hsrc; clear hsrc
      have hxb : (bs X).length = 16 := by rw [bs_length]; exact HF.out.2
      have hfold := fold16 X HF.out.2
      go_wp2_with (at_builtin; refine wpList_own_src rfl (.tmp 17) (.tmp 21) 48 48 rfl w.heap.size 23 i0 _ 16 16 Tryd.underlying48 hi0 hz0 hz1 hz2 rfl _ i _ rfl (HX2.out.1.alloc _) _ 1 (bs X) rfl HSRC.out ?c1 ?c2 ?c3 ?_)
      case c1 => unfold maxLen; omega
      case c2 => omega
      case c3 => have := HX2.out.2.size; simp; omega
      intro v3 x3 hown3 hg3 hat3
      have HX3 : Hid (x3.ownsRow w.heap.size 23 16 v3 (i + 1) (Lev s 0 (i + 1)) ∧ Below w.heap.size w x3) := Lib.hid
        ⟨by rw [HF.out.1]; exact hown3, (HX2.out.2.alloc HX2.out.2.size _).grown hg3 (by have := HX2.out.2.size; simp; omega) (fun g hg => (HX2.out.1.lt g hg).1)⟩
      clear hown3 hg3 hat3
      go_wp2_with fail
      go_roundg g
      case rel => exact ⟨i + 1, by omega, by go_num, HX3.out⟩
      case measure => omega
    · obtain rfl : i = P := by omega
      obtain ⟨g0, c0, rfl, hg0w, hg0⟩ := hown.form hP0
      have HR0 : Hid (RowI wr s 0 (2 ^ (h - 0)) g0 ∧ Below w.heap.size w wr) := Lib.hid ⟨by rw [Nat.sub_zero, ← HPE.out]; exact RowI.of_own hown, hBl⟩
      clear hown hBl
      go_wp2_with fail
      simp only [hshf]
      clear hshf
      have HO0 : Hid (OutI w (wr.alloc (.cells #[.slice (some ⟨g0, 0, none⟩) i c0] 48)) s h 1 wr.heap.size 1) := Lib.hid (by
        refine ⟨_, World.ownsRow_lit wr #[.slice (some ⟨g0, 0, none⟩) i c0] 1 HR0.out.2.size (by unfold maxLen; omega) rfl, fun j hj => ?_, al HR0.out.2 _⟩
        obtain rfl : j = 0 := by omega
        exact ⟨g0, c0, by rw [Nat.sub_zero, ← HPE.out]; rfl, Nat.ne_of_lt HR0.out.1.1, HR0.out.1.next (below_a1 _ _)⟩)
      clear HR0 hg0w hg0
      generalize wr.heap.size = G0 at HO0 ⊢
      generalize wr.alloc (.cells #[.slice (some ⟨g0, 0, none⟩) i c0] 48) = w0 at HO0 ⊢
      go_loopg [7, 8, 9, 10] h (fun g s7 s8 s9 s10 wr => ∃ l G c : Nat, l + g = h ∧ s8 = .int .i64 l ∧ s7 = .slice (some ⟨G, 0, none⟩) (l + 1) c ∧ OutI w wr s h (l + 1) G c)
      case atStart => exact ⟨0, G0, 1, by omega, rfl, rfl, HO0.out⟩
      case round =>
        clear HO0
        obtain ⟨l, G, c, hl, rfl, rfl, hO⟩ := hrel
        by_cases hlt : l < h
        · obtain ⟨g, rfl⟩ : ∃ g, gk = g + 1 := ⟨gk - 1, by omega⟩
          obtain ⟨b, cp, hcell, hrow⟩ := hO.row l (by omega)
          obtain ⟨half, hhalf⟩ : ∃ q, q = 2 ^ (h - (l + 1)) := ⟨_, rfl⟩
          have h2 : 2 ^ (h - l) = 2 * half := by rw [hhalf, show h - l = h - (l + 1) + 1 from by omega, Nat.pow_succ]; omega
          rw [h2] at hcell hrow
          have hhl : half ≤ 64 := by
            have : 2 ^ (h - (l + 1)) ≤ 2 ^ 6 := Nat.pow_le_pow_right (by omega) (by omega)
            rw [hhalf]; exact this
          have HA := Lib.hid (And.intro hO (And.intro hcell (And.intro hrow (And.intro h2 hhalf))))
          clear hO hcell hrow h2 hhalf
          have hdl : decide ((l : Int) < (h : Int)) = true := by simp; omega
          go_wp2_with fail
          clear hdl
          have hGlt : G < wr.heap.size := World.block_lt_of_cell? wr ⟨G, l, none⟩ HA.out.2.1
          have HCE : Hid (∀ W, Below wr.heap.size wr W → W.cell? ⟨G, l, none⟩ = some (.slice (some ⟨b, 0, none⟩) (2 * half) cp)) := Lib.hid fun W hb => (hb.cell (p := ⟨G, l, none⟩) hGlt).trans HA.out.2.1
          have HRO : Hid (∀ W, Below wr.heap.size wr W → RowI W s l (2 * half) b) := Lib.hid fun W hb => HA.out.2.2.1.next hb
          have HGL := Lib.hid hGlt
          clear hGlt
          have HBW : Hid (∀ W, Below wr.heap.size wr W → Below w.heap.size w W) := Lib.hid fun W hb => by obtain ⟨R, _, _, h3⟩ := HA.out.1; exact below_next h3 hb
          go_loopg [9, 10] half (fun g s9 s10 wk => ∃ q : Nat, q + g = half ∧ s10 = .int .i64 ((2 * q : Nat) : Int) ∧ wk.ownsRow wr.heap.size 23 16 s9 q (Lev s (l + 1) q) ∧ Below wr.heap.size wr wk)
          case atStart => exact ⟨0, by omega, rfl, by rw [Lev_zero]; exact World.ownsRow_nil _ _ _ _, Below.refl _ _⟩
          case round =>
            obtain ⟨q, hq, rfl, hown, hBl⟩ := hrel
            have hc0 := HCE.out _ hBl
            by_cases hlq : q < half
            · obtain ⟨g', rfl⟩ : ∃ g', gk = g' + 1 := ⟨gk - 1, by omega⟩
              obtain ⟨t, ht⟩ : ∃ t, t = 2 * q := ⟨_, rfl⟩
              obtain ⟨t1, ht1⟩ : ∃ t1, t1 = t + 1 := ⟨_, rfl⟩
              obtain ⟨M, hM⟩ : ∃ M, M = 2 * half := ⟨_, rfl⟩
              obtain ⟨X, hX⟩ : ∃ X, X = node s l t := ⟨_, rfl⟩
              obtain ⟨Y, hY⟩ : ∃ Y, Y = node s l t1 := ⟨_, rfl⟩
              obtain ⟨D, hD⟩ : ∃ D, D = par X Y := ⟨_, rfl⟩
              have hXl : X.length = 16 := by rw [hX, node_length]
              have hYl : Y.length = 16 := by rw [hY, node_length]
              have hDl : D.length = 16 := by rw [hD, par_length]
              have hDn : D = node s (l + 1) q := by rw [hD, hX, hY, ht1, ht, node]
              have HND : Hid (∀ W, KR W → Calls Tryd.prog 47 #[.agg (bs X).toArray, .agg (bs Y).toArray] W fun e w' => e = .returned (.agg (bs D).toArray) ∧ Below W.heap.size W w') := Lib.hid fun W hk => by rw [hD]; exact rnode_any X Y hXl hYl W hk
              have HSS : Hid (∀ W, Below _ _ W → (W.cell? ⟨G, l, none⟩ = some (.slice (some ⟨b, 0, none⟩) M cp) ∧ W.rangeAt b (t * 16) (bs X) ∧ W.rangeAt b (t1 * 16) (bs Y))) := Lib.hid fun W hb => ⟨by rw [hM]; exact HCE.out W hb, by rw [hX]; exact (HRO.out W hb).range t (by omega) _ (Nat.mul_comm _ _), by rw [hY]; exact (HRO.out W hb).range t1 (by omega) _ (Nat.mul_comm _ _)⟩
              have hfl : Lev s (l + 1) (q + 1) = Lev s (l + 1) q ++ bs D := by rw [Lev_succ, hDn]
              have hw1 : IntKind.i64.wrap ((t : Int) + 1) = (t1 : Int) := by rw [IntWalk.i64_in _ (by omega)]; omega
              have hM128 : M ≤ 128 := by omega
              have HBX : Hid ((bs D).length = 16) := Lib.hid (by rw [bs_length, hDl])
              have hb0 : (0 : Int) ≤ (t : Int) := by omega
              have hb1 : (t : Int) < (M : Int) := by omega
              have hb2 : (0 : Int) ≤ (t1 : Int) := by omega
              have hb3 : (t1 : Int) < (M : Int) := by omega
              have hb4 : (0 : Int) ≤ (l : Int) := by omega
              have hb5 : (l : Int) < (l : Int) + 1 := by omega
              have hd1 : decide ((t : Int) + 1 < (M : Int)) = true := by simp; omega
              rw [← hM] at hc0
              rw [← ht]
              have hsX : (Tryd.prog.info? 23).map (·.size) = some (bs X).length := by rw [bs_length, hXl]; exact Tryd.size44
              have hsY : (Tryd.prog.info? 23).map (·.size) = some (bs Y).length := by rw [bs_length, hYl]; exact Tryd.size44
              have hun := Tryd.underlying23
              have HF := Lib.hid (And.intro hfl (And.intro hDl (And.intro ht1 (And.intro ht hM))))
              have HS := Lib.hid (And.intro hown hBl)
              clear hown hBl hX hY hD hXl hYl hDl hDn hfl ht ht1 hM
              go_wp2_with fail
              clear hc0
              refine wp_region_held_drew (S := fun w' => w'.cell? ⟨G, l, none⟩ = some (.slice (some ⟨b, 0, none⟩) M cp) ∧ w'.rangeAt b (t * 16) (bs X) ∧ w'.rangeAt b (t1 * 16) (bs Y)) (by kernel_rfl) (HSS.out _ HS.out.2.drew) (fun hS0 => ?_)
              refine wpAnyH_take (i := 0) (oi := { dst := some 40, op := Op.move (Operand.tmp 9), type := 48, pos := "ref.go:75", after := #[], guard := none }) (v := ?_) rfl (by kernel_rfl) (by kernel_rfl) (by kernel_rfl) (fun _ _ _ h => h) (Or.inl ⟨by rfl, ?_⟩) (by assumption) ?_
              rotate_left
              · (intro w' hSw; (try dsimp only at hSw); obtain ⟨hcS, hrX, hrY⟩ := hSw; go_simp; try with_reducible rfl)
              try simp only [Act.put, List.setIfInBounds_toArray, List.set_cons_zero, List.set_cons_succ]
              refine wpAnyH_take (i := 1) (oi := { dst := some 41, op := Op.move (Operand.tmp 7), type := 49, pos := "ref.go:75", after := #[], guard := none }) (v := ?_) rfl (by kernel_rfl) (by kernel_rfl) (by kernel_rfl) (fun _ _ _ h => h) (Or.inl ⟨by rfl, ?_⟩) (by assumption) ?_
              rotate_left
              · (intro w' hSw; (try dsimp only at hSw); obtain ⟨hcS, hrX, hrY⟩ := hSw; go_simp; try with_reducible rfl)
              try simp only [Act.put, List.setIfInBounds_toArray, List.set_cons_zero, List.set_cons_succ]
              refine wpAnyH_take (i := 2) (oi := { dst := some 42, op := Op.move (Operand.tmp 8), type := 3, pos := "ref.go:75", after := #[], guard := none }) (v := ?_) rfl (by kernel_rfl) (by kernel_rfl) (by kernel_rfl) (fun _ _ _ h => h) (Or.inl ⟨by rfl, ?_⟩) (by assumption) ?_
              rotate_left
              · (intro w' hSw; (try dsimp only at hSw); obtain ⟨hcS, hrX, hrY⟩ := hSw; go_simp; try with_reducible rfl)
              try simp only [Act.put, List.setIfInBounds_toArray, List.set_cons_zero, List.set_cons_succ]
              refine wpAnyH_take (i := 3) (oi := { dst := some 43, op := Op.indexAddr 49 (Operand.tmp 41) (Operand.tmp 42), type := 0, pos := "ref.go:75", after := #[{ on := 1, ground := Ground.data }, { on := 2, ground := Ground.data }], guard := none }) (v := ?_) rfl (by kernel_rfl) (by kernel_rfl) (by kernel_rfl) (fun _ _ _ h => h) (Or.inl ⟨by rfl, ?_⟩) (by assumption) ?_
              rotate_left
              · (intro w' hSw; (try dsimp only at hSw); obtain ⟨hcS, hrX, hrY⟩ := hSw; go_simp; try with_reducible rfl)
              try simp only [Act.put, List.setIfInBounds_toArray, List.set_cons_zero, List.set_cons_succ]
              refine wpAnyH_take (i := 4) (oi := { dst := some 44, op := Op.load 48 (Operand.tmp 43), type := 48, pos := "ref.go:75", after := #[{ on := 3, ground := Ground.data }], guard := none }) (v := ?_) rfl (by kernel_rfl) (by kernel_rfl) (by kernel_rfl) (fun _ _ _ h => h) (Or.inl ⟨by rfl, ?_⟩) (by assumption) ?_
              rotate_left
              · (intro w' hSw; (try dsimp only at hSw); obtain ⟨hcS, hrX, hrY⟩ := hSw; go_simp; try with_reducible rfl)
              try simp only [Act.put, List.setIfInBounds_toArray, List.set_cons_zero, List.set_cons_succ]
              refine wpAnyH_take (i := 5) (oi := { dst := some 45, op := Op.move (Operand.tmp 10), type := 3, pos := "ref.go:75", after := #[], guard := none }) (v := ?_) rfl (by kernel_rfl) (by kernel_rfl) (by kernel_rfl) (fun _ _ _ h => h) (Or.inl ⟨by rfl, ?_⟩) (by assumption) ?_
              rotate_left
              · (intro w' hSw; (try dsimp only at hSw); obtain ⟨hcS, hrX, hrY⟩ := hSw; go_simp; try with_reducible rfl)
              try simp only [Act.put, List.setIfInBounds_toArray, List.set_cons_zero, List.set_cons_succ]
              refine wpAnyH_take (i := 6) (oi := { dst := some 46, op := Op.indexAddr 48 (Operand.tmp 44) (Operand.tmp 45), type := 0, pos := "ref.go:75", after := #[{ on := 4, ground := Ground.data }, { on := 5, ground := Ground.data }], guard := none }) (v := ?_) rfl (by kernel_rfl) (by kernel_rfl) (by kernel_rfl) (fun _ _ _ h => h) (Or.inl ⟨by rfl, ?_⟩) (by assumption) ?_
              rotate_left
              · (intro w' hSw; (try dsimp only at hSw); obtain ⟨hcS, hrX, hrY⟩ := hSw; go_simp; try with_reducible rfl)
              try simp only [Act.put, List.setIfInBounds_toArray, List.set_cons_zero, List.set_cons_succ]
              refine wpAnyH_take (i := 7) (oi := { dst := some 47, op := Op.load 23 (Operand.tmp 46), type := 23, pos := "ref.go:75", after := #[{ on := 6, ground := Ground.data }], guard := none }) (v := _) rfl (by kernel_rfl) (by kernel_rfl) (by kernel_rfl) (fun _ _ _ h => h) (yieldsIf_load_mid (by rfl) _ _ rfl _ _ rfl _ _ (fun w h => h.2.1) hun rfl hsX) (by assumption) ?_
              try simp only [Act.put, List.setIfInBounds_toArray, List.set_cons_zero, List.set_cons_succ]
              refine wpAnyH_take (i := 8) (oi := { dst := some 48, op := Op.move (Operand.tmp 7), type := 49, pos := "ref.go:75", after := #[], guard := none }) (v := ?_) rfl (by kernel_rfl) (by kernel_rfl) (by kernel_rfl) (fun _ _ _ h => h) (Or.inl ⟨by rfl, ?_⟩) (by assumption) ?_
              rotate_left
              · (intro w' hSw; (try dsimp only at hSw); obtain ⟨hcS, hrX, hrY⟩ := hSw; go_simp; try with_reducible rfl)
              try simp only [Act.put, List.setIfInBounds_toArray, List.set_cons_zero, List.set_cons_succ]
              refine wpAnyH_take (i := 9) (oi := { dst := some 49, op := Op.move (Operand.tmp 8), type := 3, pos := "ref.go:75", after := #[], guard := none }) (v := ?_) rfl (by kernel_rfl) (by kernel_rfl) (by kernel_rfl) (fun _ _ _ h => h) (Or.inl ⟨by rfl, ?_⟩) (by assumption) ?_
              rotate_left
              · (intro w' hSw; (try dsimp only at hSw); obtain ⟨hcS, hrX, hrY⟩ := hSw; go_simp; try with_reducible rfl)
              try simp only [Act.put, List.setIfInBounds_toArray, List.set_cons_zero, List.set_cons_succ]
              refine wpAnyH_take (i := 10) (oi := { dst := some 50, op := Op.indexAddr 49 (Operand.tmp 48) (Operand.tmp 49), type := 0, pos := "ref.go:75", after := #[{ on := 8, ground := Ground.data }, { on := 9, ground := Ground.data }], guard := none }) (v := ?_) rfl (by kernel_rfl) (by kernel_rfl) (by kernel_rfl) (fun _ _ _ h => h) (Or.inl ⟨by rfl, ?_⟩) (by assumption) ?_
              rotate_left
              · (intro w' hSw; (try dsimp only at hSw); obtain ⟨hcS, hrX, hrY⟩ := hSw; go_simp; try with_reducible rfl)
              try simp only [Act.put, List.setIfInBounds_toArray, List.set_cons_zero, List.set_cons_succ]
              refine wpAnyH_take (i := 11) (oi := { dst := some 51, op := Op.load 48 (Operand.tmp 50), type := 48, pos := "ref.go:75", after := #[{ on := 10, ground := Ground.data }], guard := none }) (v := ?_) rfl (by kernel_rfl) (by kernel_rfl) (by kernel_rfl) (fun _ _ _ h => h) (Or.inl ⟨by rfl, ?_⟩) (by assumption) ?_
              rotate_left
              · (intro w' hSw; (try dsimp only at hSw); obtain ⟨hcS, hrX, hrY⟩ := hSw; go_simp; try with_reducible rfl)
              try simp only [Act.put, List.setIfInBounds_toArray, List.set_cons_zero, List.set_cons_succ]
              refine wpAnyH_take (i := 12) (oi := { dst := some 52, op := Op.move (Operand.tmp 10), type := 3, pos := "ref.go:75", after := #[], guard := none }) (v := ?_) rfl (by kernel_rfl) (by kernel_rfl) (by kernel_rfl) (fun _ _ _ h => h) (Or.inl ⟨by rfl, ?_⟩) (by assumption) ?_
              rotate_left
              · (intro w' hSw; (try dsimp only at hSw); obtain ⟨hcS, hrX, hrY⟩ := hSw; go_simp; try with_reducible rfl)
              try simp only [Act.put, List.setIfInBounds_toArray, List.set_cons_zero, List.set_cons_succ]
              refine wpAnyH_take (i := 13) (oi := { dst := some 53, op := Op.binOp BinOp.add 3 (Operand.tmp 52) (Operand.const (Value.int IntKind.i64 1)) 3, type := 3, pos := "ref.go:75", after := #[{ on := 12, ground := Ground.data }], guard := none }) (v := ?_) rfl (by kernel_rfl) (by kernel_rfl) (by kernel_rfl) (fun _ _ _ h => h) (Or.inl ⟨by rfl, ?_⟩) (by assumption) ?_
              rotate_left
              · (intro w' hSw; (try dsimp only at hSw); obtain ⟨hcS, hrX, hrY⟩ := hSw; go_simp; try with_reducible rfl)
              try simp only [Act.put, List.setIfInBounds_toArray, List.set_cons_zero, List.set_cons_succ]
              refine wpAnyH_take (i := 14) (oi := { dst := some 54, op := Op.indexAddr 48 (Operand.tmp 51) (Operand.tmp 53), type := 0, pos := "ref.go:75", after := #[{ on := 11, ground := Ground.data }, { on := 13, ground := Ground.data }], guard := none }) (v := ?_) rfl (by kernel_rfl) (by kernel_rfl) (by kernel_rfl) (fun _ _ _ h => h) (Or.inl ⟨by rfl, ?_⟩) (by assumption) ?_
              rotate_left
              · (intro w' hSw; (try dsimp only at hSw); obtain ⟨hcS, hrX, hrY⟩ := hSw; go_simp; try with_reducible rfl)
              try simp only [Act.put, List.setIfInBounds_toArray, List.set_cons_zero, List.set_cons_succ]
              refine wpAnyH_take (i := 15) (oi := { dst := some 55, op := Op.load 23 (Operand.tmp 54), type := 23, pos := "ref.go:75", after := #[{ on := 14, ground := Ground.data }], guard := none }) (v := _) rfl (by kernel_rfl) (by kernel_rfl) (by kernel_rfl) (fun _ _ _ h => h) (yieldsIf_load_mid (by rfl) _ _ rfl _ _ rfl _ _ (fun w h => h.2.2) hun rfl hsY) (by assumption) ?_
              try simp only [Act.put, List.setIfInBounds_toArray, List.set_cons_zero, List.set_cons_succ]
              refine wpAnyH_ready (rs := [16]) (by kernel_rfl) (by simp) ?_
              refine AllReadyH.cons (o := { dst := some 56, op := Op.call { callee := Callee.value (Operand.func 47), args := #[Operand.tmp 47, Operand.tmp 55], argTypes := #[23, 23] }, type := 23, pos := "ref.go:75", after := #[{ on := 7, ground := Ground.data }, { on := 15, ground := Ground.data }], guard := none }) rfl (fun K hK => ?_) AllReadyH.nil
              go_simp
              go_at_call 47
              refine (HND.out _ (HK.out.of (HBW.out _ HS.out.2.drew))).mono ?_
              rintro e y1 ⟨rfl, hb1⟩
              have HY1 := Lib.hid (And.intro (own_keep HS.out.1.drew hb1) (below_next HS.out.2.drew hb1))
              clear hb1
              have hxb := HBX.out
              have hfold := fold16 D HF.out.2.1
              refine hK _ _ (HSS.out _ HY1.out.2) (fun hS1 => ?_)
              clear hK K hS0
              try simp only [Act.put, List.setIfInBounds_toArray, List.set_cons_zero, List.set_cons_succ]
              refine wpAnyH_ready (rs := [17]) (by kernel_rfl) (by simp) ?_
              refine AllReadyH.cons (o := { dst := some 57, op := Op.buildSlice 48 1 #[(0, Operand.tmp 56)], type := 48, pos := "ref.go:75", after := #[{ on := 16, ground := Ground.data }], guard := none }) rfl (fun K hK => ?_) AllReadyH.nil
              go_simp
              refine hK _ _ (HSS.out _ (al HY1.out.2 _)) (fun hS2 => ?_)
              clear hK K hS1 hxb hfold
              try simp only [Act.put, List.setIfInBounds_toArray, List.set_cons_zero, List.set_cons_succ]
              have HSRC : Hid (Src Tryd.prog i0.size 48 (.slice (some ⟨y1.heap.size, 0, none⟩) 1 1) 1 (bs D) (y1.alloc (.cells (bs D).toArray 23))) := Lib.hid
                (Src.ofSlice _ Tryd.underlying48 ⟨y1.heap.size, 0, none⟩ 1 1 (bs D) (by rw [HBX.out, hz1]) (World.news_of_block (heap_alloc_new y1 _)) (bs_one D))
              refine wpAnyH_ready (rs := [18]) (by kernel_rfl) (by simp) ?_
              refine AllReadyH.cons (o := { dst := some 58, op := Op.call { callee := Callee.builtin Builtin.append, args := #[Operand.tmp 40, Operand.tmp 57], argTypes := #[48, 48] }, type := 48, pos := "ref.go:75", after := #[{ on := 0, ground := Ground.data }, { on := 17, ground := Ground.data }, { on := 16, ground := Ground.chain }], guard := none }) rfl (fun K hK => ?_) AllReadyH.nil
              refine step_own2 rfl (.tmp 40) (.tmp 57) 48 48 rfl _ 23 i0 _ 16 16 Tryd.underlying48 hi0 hz0 hz1 hz2 rfl _ q _ rfl (HY1.out.1.alloc _) _ 1 (bs D) rfl HSRC.out (by unfold maxLen; omega) (by omega) (by have := HY1.out.2.size; simp; omega) ?_
              intro v3 x3 hown3 hg3 hat3
              have HX3 := Lib.hid (And.intro (HF.out.1 ▸ hown3) ((HY1.out.2.alloc HY1.out.2.size _).grown hg3 (by have := HY1.out.2.size; simp; omega) (fun g hg => (HY1.out.1.lt g hg).1)))
              clear hown3 hg3 hat3
              refine hK _ _ (HSS.out _ HX3.out.2) (fun hS3 => ?_)
              clear hK K hS2
              try simp only [Act.put, List.setIfInBounds_toArray, List.set_cons_zero, List.set_cons_succ]
              refine wpAnyH_take (i := 19) (oi := { dst := some 9, op := Op.assign (Operand.tmp 58), type := 48, pos := "ref.go:75", after := #[{ on := 18, ground := Ground.data }, { on := 18, ground := Ground.chain }, { on := 0, ground := Ground.phase }, { on := 1, ground := Ground.phase }, { on := 2, ground := Ground.phase }, { on := 3, ground := Ground.phase }, { on := 4, ground := Ground.phase }, { on := 5, ground := Ground.phase }, { on := 6, ground := Ground.phase }, { on := 7, ground := Ground.phase }, { on := 8, ground := Ground.phase }, { on := 9, ground := Ground.phase }, { on := 10, ground := Ground.phase }, { on := 11, ground := Ground.phase }, { on := 12, ground := Ground.phase }, { on := 13, ground := Ground.phase }, { on := 14, ground := Ground.phase }, { on := 15, ground := Ground.phase }, { on := 16, ground := Ground.phase }, { on := 17, ground := Ground.phase }, { on := 18, ground := Ground.phase }], guard := none }) (v := ?_) rfl (by kernel_rfl) (by kernel_rfl) (by kernel_rfl) (fun _ _ _ h => h) (Or.inl ⟨by rfl, ?_⟩) (by assumption) ?_
              rotate_left
              · (intro w' hSw; (try dsimp only at hSw); obtain ⟨hcS, hrX, hrY⟩ := hSw; go_simp; try with_reducible rfl)
              try simp only [Act.put, List.setIfInBounds_toArray, List.set_cons_zero, List.set_cons_succ]
              refine wpAnyH_done (by kernel_rfl) ?_ _
              go_wp2_with fail
              go_roundg g'
              case rel => exact ⟨q + 1, by omega, by have e := HF.out.2.2.2.1; simp; omega, HX3.out⟩
              case measure => omega
            · obtain rfl : q = half := by omega
              have hq0 : 0 < q := by rw [HA.out.2.2.2.2]; exact Nat.two_pow_pos _
              obtain ⟨b1, cp1, rfl, hlo, hb1w⟩ := hown.form hq0
              have hrow1 := RowI.of_own hown
              rw [HA.out.2.2.2.2] at hrow1
              have HN := Lib.hid (And.intro hrow1 (And.intro (HA.out.1.next hBl) (show b1 ≠ G by have := HGL.out; omega)))
              have hdq : decide (2 * (q : Int) + 1 < 2 * (q : Int)) = false := by simp; omega
              clear hown hBl hlo hb1w hrow1
              obtain ⟨R, ho1, ho2, ho3⟩ := HN.out.2.1
              have HOO := Lib.hid (And.intro ho1 (And.intro ho2 ho3))
              clear ho1 ho2 ho3
              go_wp2_with (at_builtin; refine wpList_own_src rfl (.tmp 59) (.tmp 61) 49 49 rfl w.heap.size 48 i1 _ 1 24 Tryd.underlying49 hi1 hy0 hy1 hy2 rfl _ (l + 1) _ rfl (HOO.out.1.alloc _) _ 1 [.slice (some ⟨b1, 0, none⟩) q cp1] rfl (src_one Tryd.underlying49 hy1 _ _ _ rfl) ?c1 ?c2 ?c3 ?_)
              case c1 => unfold maxLen; omega
              case c2 => omega
              case c3 => have := HOO.out.2.2.size; simp; omega
              intro v1 w1 hown1 hg1 hat1
              obtain ⟨G1, c1, rfl, _, _⟩ := hown1.form (by omega)
              have HX1 : Hid (OutI w w1 s h (l + 1 + 1) G1 c1) := Lib.hid (OutI.snoc HOO.out.1 HOO.out.2.1 HOO.out.2.2 (below_a1 _ _) HN.out.1 HN.out.2.2 (by rw [← HA.out.2.2.2.2]; exact hown1) hg1 (hat1.imp (fun e => e) (fun e => e.trans (by simp))))
              clear hown1 hg1 hat1
              go_wp2_with fail
              go_roundg g
              case rel => exact ⟨l + 1, G1, c1, by omega, by go_num, rfl, HX1.out⟩
              case measure => omega
        · obtain rfl : l = h := by omega
          have HO := Lib.hid hO; clear hO
          go_wp2_with fail
          go_ret
          exact ⟨G, c, rfl, HO.out⟩
theorem rlevels_any (s : List UInt8) (hs : s.length ≤ 1000000) (h : Nat) (H : Int) (hH : H = (h : Int)) (h6 : h ≤ 6) (w : World) (hK : KR w) :
    Calls Tryd.prog 25 #[.string (sb s), .int .i64 H] w fun e w' => ∃ g c, e = .returned (.slice (some ⟨g, 0, none⟩) (h + 1) c) ∧ OutI w w' s h (h + 1) g c := by
  subst hH
  exact rlevels_aux s hs h h6 w hK
end Go.Proofs.YtbgcnfikcddcpaaDoor
