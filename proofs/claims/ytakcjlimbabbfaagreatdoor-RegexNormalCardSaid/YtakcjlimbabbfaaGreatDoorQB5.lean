/- Part of the proof. -/
import Derived.Test.YtakcjlimbabbfaaGreatDoorQB4
set_option linter.unusedVariables false
set_option linter.unusedSimpArgs false
set_option maxRecDepth 1000000
set_option maxHeartbeats 8000000
namespace Go.Proofs.YtakcjlimbabbfaaGreatDoor
open Go.RowKit
open Alp
open Rgx
theorem dD {N : Int} (h : 0 <= N) (M : Int) : N.tmod M = N % M /\ N.tdiv M = N / M := ⟨Int.tmod_eq_emod_of_nonneg h, Int.tdiv_eq_ediv_of_nonneg h⟩
theorem wrap_small {n : Nat} (h : n <= 9223372036854775807) : IntKind.i64.wrap (n : Int) = (n : Int) := IntWalk.i64_in _ (by omega)
theorem kv {P : Program} {w : World} {ops : Array Oper} {o : Oper} {a : Act} {K : Act -> World -> Prop} {Q : Exit -> Act -> World -> Prop} {E : Prop} (hgd : o.guard = none) (ty : TypeId) (x : Operand) (ho : o.op = .load ty x) (g j : Nat) (hx : a.eval x = .pointer (some ⟨g, j, none⟩)) (C : List Value) (hc : w.rangeAt g j C) (d : TypeDesc) (hu : P.underlying ty = some d) (hd : d.isRow = true) (hi : (P.info? ty).map (·.size) = some C.length)
  (h : K (a.put o.dst (.agg C.toArray)) w) :
  if Region.wanted o (yielded ops a.tmps) = true then Oper.wp P o a w K Q else E := by
 rw [if_pos (by simp [Region.wanted, hgd])];exact wp_load_mid ty x ho g j hx _ d hc hu hd hi h
theorem nR {q : Nat -> Prop} {base N5 d5 : Nat} {B5 : Option Addr} {S : List Rx} {xs : List Value} {wr W w9 : World} (hC : aG (fun b => q b /\ some b ≠ Value.ownBlock (.slice B5 N5 d5)) wr xs S) (hO : wr.ownsRow base 25 3 (.slice B5 N5 d5) N5 xs) (hN : N5 = S.length) (hq : ∀ b, wr.heap.size <= b -> q b) (hb : Below wr.heap.size wr W) {r : Rx} {K : Int} (hK : K = r.kind) {A B : Option Addr} {n c m d : Nat} (hr : ai (fun b => wr.heap.size <= b) W r A n c B m d) {v9 : Value} (hown : w9.ownsRow base 25 3 v9 (N5 + 1) (xs ++ (zV K A n c B m d))) (hg : (W.alloc (zC K A n c B m d)).grownBy w9 (Value.ownBlock (.slice B5 N5 d5))) (hat : v9.ownBlock = Value.ownBlock (.slice B5 N5 d5) \/ v9.ownBlock = some (W.alloc (zC K A n c B m d)).heap.size) : az q base v9 (S ++ [r]) w9 := by
 subst hK hN;exact az.app hC (aB hb _) (aG.one ((hr.mono fun b hb => ⟨hq b hb, fun e => by have := (hO.lt b e.symm).2; omega⟩).below (ag W _)).q) rfl hg hat hown
theorem CY (l : List Int) (M : Int) (hM : 1 <= M) (hM2 : M <= 64) (A : Option Addr) (n c : Nat) (hn : n = l.length) (hnc : n <= c) (hcm : c <= 9223372036854775807) (hl : ∀ x ∈ l, bI x) (w : World) (hr : Rd w A (iv l)) : Calls Tryz.prog 37 #[.slice A n c, .int .i64 M] w (dn (fun _ => False) w (fD M l)) := by
 obtain ⟨i0, hi0, hz0, hz1, hz2⟩ := info_parts iq;obtain ⟨T, hT⟩ : ∃ T, T = min n 16 := ⟨_, rfl⟩;have HX : Hid (n = l.length /\ (∀ x ∈ l, bI x) /\ Rd w A (iv l) /\ T = (l.take 16).length) := Lh ⟨hn, hl, hr, by simp; omega⟩;have hTn : T <= n := by omega
 have hTN : T <= 16 := by omega
 have hT2 : T < n -> T = 16 := by omega
 have hM0 : ¬ M = 0 := by omega
 have hb1 : Below w.heap.size w (w.alloc zR) := ag w _;have HB1 : Hid (aa (w.alloc zR) w.heap.size zL 25 /\ Below w.heap.size w (w.alloc zR) /\ (w.alloc zR).heap.size = w.heap.size + 1) := Lh ⟨aa.at w _ _ 25 _ rfl rfl, hb1, by simp⟩;clear hn hl hr hT hb1;go_enter Tryz.func37, Tryz.ntmps37;go_wp2_with fail
 go_loopg [5, 6] T (fun gq s5 s6 wr => ∃ (i : Nat) (S : List Rx), i + gq = T /\ s6 = .int .i64 (i : Int) /\ Hid (az (fun b => w.heap.size + 1 <= b) (w.heap.size + 1) s5 S wr /\ S = gy M (l.take i) /\ Below (w.alloc zR).heap.size (w.alloc zR) wr))
 case atStart => exact ⟨0, [], by omega, rfl, Lh ⟨az.nil _ _ _, by simp [gy], Below.refl _ _⟩⟩
 case round =>
  obtain ⟨i, S, hi, rfl, HI⟩ := hrel;obtain ⟨B5, d5, hv, hnd, hdm, _⟩ := HI.out.1.e;obtain ⟨N5, hN5⟩ : ∃ N, N = S.length := ⟨_, rfl⟩;rw [<- hN5] at hv hnd;subst hv;have HN5 := Lh hN5;have hSl : N5 <= 16 := by
   have h1 := (xU hM hM2 l i (by have := HX.out.1; omega)).2.1;rw [<- HI.out.2.1] at h1;omega
  clear hN5 hdm
  by_cases hlt : i < T
  ·obtain ⟨gg, rfl⟩ : ∃ g, gk = g + 1 := ⟨gk - 1, by omega⟩;have h1 : i < n := by omega
   have h2 : i < 16 := by omega
   have hil : i < l.length := by rw [<- HX.out.1]; exact h1
   obtain ⟨b, o, hAe, hcs⟩ := HX.out.2.2.1.open (by intro e; have := congrArg List.length e; simp [iv] at this; rw [this] at hil; exact absurd hil (by simp));subst hAe;obtain ⟨x, hx⟩ : ∃ x, x = l[i] := ⟨_, rfl⟩;have hc : wr.cell? ⟨b, o + i, none⟩ = some (.int .i64 x) := by
    have h3 := hcs i (.int .i64 x) (by simp [iv, hil, hx]);have h4 := (HB1.out.2.1.cell (p := ⟨b, o + i, none⟩) (World.block_lt_of_cell? w _ h3)).trans h3;exact (HI.out.2.2.cell (p := ⟨b, o + i, none⟩) (World.block_lt_of_cell? _ _ h4)).trans h4
   have HXI : Hid (bI x) := Lh (HX.out.2.1 x (by rw [hx]; exact List.getElem_mem hil));obtain ⟨Nn, hNn⟩ : ∃ N, N = gD x 1048576 := ⟨_, rfl⟩;have HSN : Hid (bi M S Nn = gy M (l.take (i + 1))) := Lh (by rw [List.take_succ_eq_append_getElem hil, yt, <- hx, <- hNn, HI.out.2.1]);have HA : Hid (∀ W, Calls Tryz.prog 58 #[.int .i64 x, .int .i64 1048576] W fun e w' => e = .returned (.int .i64 Nn) /\ W = w') := Lh fun W => by rw [hNn]; exact rM x 1048576 (by have := HXI.out.1; omega) (by have := HXI.out.2; omega) (by omega) (by omega) W
   have hN0 : 0 <= Nn := by rw [hNn]; exact (p9 _ (by omega)).1
   have hN1 : Nn < 1048576 := by rw [hNn]; exact (p9 _ (by omega)).2
   obtain ⟨Aq, hAq⟩ : ∃ A, A = Nn / 8 := ⟨_, rfl⟩;have hA0 : 0 <= Aq := by omega
   have hA1 : Aq <= 131072 := by omega
   obtain ⟨xs, hC, hO⟩ := HI.out.1;rw [<- HN5.out] at hO;have HC := Lh hC;have HO := Lh hO;have HSZ : Hid (w.heap.size + 1 <= wr.heap.size) := Lh (by have h1 := HI.out.2.2.size; have h2 := HB1.out.2.2; omega);have hs1 : N5 + 1 <= maxLen := by unfold maxLen; omega
   have hs2 : (N5 + 1) * 56 <= 140737488355328 := by omega
   have hd1 : decide ((i : Int) < 16) = true := dT (by omega);have hd2 : decide (i < 16) = true := dT h2;clear hcs hx hNn hC hO
   rcases (by omega : (Nn % 8 = 0 \/ Nn % 8 = 1) \/ Nn % 8 = 2 \/ Nn % 8 = 3 \/ Nn % 8 = 4 \/ Nn % 8 = 5 \/ Nn % 8 = 6 \/ Nn % 8 = 7) with h01 | hr8 | hr8 | hr8 | hr8 | hr8 | hr8
   ·rcases h01 with hr8 | hr8
    focus
     have hr1 : Nn.tmod 8 = 0 := by rw [(dD hN0 8).1]; exact hr8
    rotate_left
    have hr1 : Nn.tmod 8 = 1 := by rw [(dD hN0 8).1]; exact hr8
    all_goals
     as_aux_lemma =>
      have hq1 : Nn.tdiv 8 = Aq := by rw [(dD hN0 8).2, hAq]
      obtain ⟨X, hX⟩ : ∃ X, X = Aq % M := ⟨_, rfl⟩;have hx1 : Aq.tmod M = X := by rw [(dD hA0 M).1, hX]
      have hXb : 0 <= X /\ X < M := by rw [hX]; exact ⟨Int.emod_nonneg _ (by omega), Int.emod_lt_of_pos _ (by omega)⟩
      have HSI : Hid (∀ x ∈ ([X] : List Int), bI x) := Lh (by intro x hx; simp at hx; constructor <;> omega);have HSE : Hid (bi M S Nn = S ++ [.mk 2 [X] []]) := Lh (by unfold bi; rw [hr8, if_pos (by omega), <- hAq, <- hX]);have HAPP : Hid (∀ w3, Below (wr.alloc (.cells #[.int .i64 X] 3)).heap.size (wr.alloc (.cells #[.int .i64 X] 3)) w3 -> ∀ v9 w9, w9.ownsRow (w.heap.size + 1) 25 3 v9 (N5 + 1) (xs ++ (zV 2 (some ⟨wr.heap.size, 0, none⟩) 1 1 none 0 0)) -> (w3.alloc (zC 2 (some ⟨wr.heap.size, 0, none⟩) 1 1 none 0 0)).grownBy w9 (Value.ownBlock (.slice B5 N5 d5)) -> (v9.ownBlock = Value.ownBlock (.slice B5 N5 d5) \/ v9.ownBlock = some (w3.alloc (zC 2 (some ⟨wr.heap.size, 0, none⟩) 1 1 none 0 0)).heap.size) -> az (fun b => w.heap.size + 1 <= b) (w.heap.size + 1) v9 (bi M S Nn) w9 /\ Below (w.alloc zR).heap.size (w.alloc zR) w9) := Lh fun w3 hb3 v9 w9 h1 h2 h3 => by
       have hk : aa (wr.alloc (.cells #[.int .i64 X] 3)) wr.heap.size [.int .i64 X] 3 := aa.at wr _ _ 3 _ rfl rfl;have hb : Below wr.heap.size wr w3 := ae (ag wr _) hb3;have hrr : ai (fun b => wr.heap.size <= b) w3 (.mk 2 [X] []) (some ⟨wr.heap.size, 0, none⟩) 1 1 none 0 0 := ai.make (by constructor <;> decide) HSI.out rfl (Nat.le_refl _) (by unfold maxLen; omega) (.inr ⟨wr.heap.size, 0, rfl, fun k v hv => by rw [Nat.zero_add]; exact (hk.below hb3 hk.lt).cell (j := k) hv⟩) (fun _ b o e => by obtain ⟨rfl, _⟩ : wr.heap.size = b /\ 0 = o := (by simpa using e); exact Nat.le_refl _) rfl (Nat.le_refl _) (Nat.zero_le _) (fun i hi => absurd hi (by simp)) (fun h => absurd rfl h);rw [HSE.out];exact ⟨nR HC.out HO.out HN5.out (fun b hb => by have := HSZ.out; omega) hb rfl hrr h1 h2 h3, dJ (aB (ae HI.out.2.2 hb) _) h2 (fun g hg => by have := (HO.out.lt _ hg).1; simp; omega)⟩
      clear hX;clear hr8 hN0 hN1 hAq hil
      go_wp2_with (first
       | ((with_reducible refine (HA.out _).mono ?_); rintro e w2 ⟨rfl, rfl⟩)
       | ((with_reducible refine (lM (some ⟨wr.heap.size, 0, none⟩) 1 1 (wr.alloc (.cells #[.int .i64 X] 3))).mono ?_); rintro e w3 ⟨rfl, hb3⟩; have H3 := Lh hb3; clear hb3)
       | (at_builtin; refine eu rfl (.tmp 34) (.tmp 40) 23 23 rfl (w.heap.size + 1) 25 i0 _ 3 56 Tryz.underlying23 hi0 hz0 hz1 hz2 rfl _ _ _ rfl (dW HO.out (aB (ae (ag wr _) H3.out) _)) _ 1 (zV 2 (some ⟨wr.heap.size, 0, none⟩) 1 1 none 0 0) rfl (gP hz1 w3 _ _ _ _ _ _ _) hs1 hs2 (by have h1 := HSZ.out; have h2 := (ae (ag wr (.cells #[.int .i64 X] 3)) H3.out).size; simp; omega) ?_; intro v9 w9 hown9 hg9 hat9; have HX9 := Lh (HAPP.out w3 H3.out v9 w9 hown9 hg9 hat9); clear hown9 hg9 hat9))
      go_roundg gg
      case rel => exact ⟨i + 1, bi M S Nn, by omega, by go_num, Lh ⟨HX9.out.1, HSN.out, HX9.out.2⟩⟩
      case measure => omega
   ·as_aux_lemma =>
     obtain ⟨X, hX⟩ : ∃ X, X = Aq % M := ⟨_, rfl⟩;have hx1 : Aq.tmod M = X := by rw [(dD hA0 M).1, hX]
     have hXb : 0 <= X /\ X < M := by rw [hX]; exact ⟨Int.emod_nonneg _ (by omega), Int.emod_lt_of_pos _ (by omega)⟩
     obtain ⟨Dq, hDq⟩ : ∃ D, D = Aq / M := ⟨_, rfl⟩;have hD0 : 0 <= Dq := by rw [hDq]; exact Int.ediv_nonneg hA0 (by omega)
     have hD1 : Dq <= Aq := by rw [hDq]; exact Int.ediv_le_self _ hA0
     have hd1 : Aq.tdiv M = Dq := by rw [(dD hA0 M).2, hDq]
     have hd2 : Aq / M = Dq := hDq.symm;obtain ⟨Y, hY⟩ : ∃ Y, Y = Dq % M := ⟨_, rfl⟩;have hy1 : Dq.tmod M = Y := by rw [(dD hD0 M).1, hY]
     have hy2 : Dq % M = Y := hY.symm;have hYb : 0 <= Y /\ Y < M := by rw [hY]; exact ⟨Int.emod_nonneg _ (by omega), Int.emod_lt_of_pos _ (by omega)⟩
     by_cases hxy : X = Y
     ·have u1 : (X == Y) = true := bT hxy;have HSE : Hid (bi M S Nn = S ++ [.mk 2 [X] []]) := Lh (by unfold bi; rw [hr8, if_neg (by omega), if_pos rfl, <- hAq, <- hX, <- hDq, <- hY, if_pos hxy]);have HSI : Hid (∀ x ∈ ([X] : List Int), bI x) := Lh (by intro x hx; simp at hx; constructor <;> omega);clear hxy hX hDq hY;have hr1 : Nn.tmod 8 = 2 := by rw [(dD hN0 8).1]; exact hr8
      have hq1 : Nn.tdiv 8 = Aq := by rw [(dD hN0 8).2, hAq]
      have HAPP : Hid (∀ w3, Below (wr.alloc (.cells #[.int .i64 X] 3)).heap.size (wr.alloc (.cells #[.int .i64 X] 3)) w3 -> ∀ v9 w9, w9.ownsRow (w.heap.size + 1) 25 3 v9 (N5 + 1) (xs ++ (zV 2 (some ⟨wr.heap.size, 0, none⟩) 1 1 none 0 0)) -> (w3.alloc (zC 2 (some ⟨wr.heap.size, 0, none⟩) 1 1 none 0 0)).grownBy w9 (Value.ownBlock (.slice B5 N5 d5)) -> (v9.ownBlock = Value.ownBlock (.slice B5 N5 d5) \/ v9.ownBlock = some (w3.alloc (zC 2 (some ⟨wr.heap.size, 0, none⟩) 1 1 none 0 0)).heap.size) -> az (fun b => w.heap.size + 1 <= b) (w.heap.size + 1) v9 (bi M S Nn) w9 /\ Below (w.alloc zR).heap.size (w.alloc zR) w9) := Lh fun w3 hb3 v9 w9 h1 h2 h3 => by
       have hk : aa (wr.alloc (.cells #[.int .i64 X] 3)) wr.heap.size [.int .i64 X] 3 := aa.at wr _ _ 3 _ rfl rfl;have hb : Below wr.heap.size wr w3 := ae (ag wr _) hb3;have hrr : ai (fun b => wr.heap.size <= b) w3 (.mk 2 [X] []) (some ⟨wr.heap.size, 0, none⟩) 1 1 none 0 0 := ai.make (by constructor <;> decide) HSI.out rfl (Nat.le_refl _) (by unfold maxLen; omega) (.inr ⟨wr.heap.size, 0, rfl, fun k v hv => by rw [Nat.zero_add]; exact (hk.below hb3 hk.lt).cell (j := k) hv⟩) (fun _ b o e => by obtain ⟨rfl, _⟩ : wr.heap.size = b /\ 0 = o := (by simpa using e); exact Nat.le_refl _) rfl (Nat.le_refl _) (Nat.zero_le _) (fun i hi => absurd hi (by simp)) (fun h => absurd rfl h);rw [HSE.out];exact ⟨nR HC.out HO.out HN5.out (fun b hb => by have := HSZ.out; omega) hb rfl hrr h1 h2 h3, dJ (aB (ae HI.out.2.2 hb) _) h2 (fun g hg => by have := (HO.out.lt _ hg).1; simp; omega)⟩
      clear hr8 hN0 hN1 hAq hil
      go_wp2_with (first
       | ((with_reducible refine (HA.out _).mono ?_); rintro e w2 ⟨rfl, rfl⟩)
       | ((with_reducible refine (lM (some ⟨wr.heap.size, 0, none⟩) 1 1 (wr.alloc (.cells #[.int .i64 X] 3))).mono ?_); rintro e w3 ⟨rfl, hb3⟩; have H3 := Lh hb3; clear hb3)
       | (at_builtin; refine eu rfl (.tmp 56) (.tmp 60) 23 23 rfl (w.heap.size + 1) 25 i0 _ 3 56 Tryz.underlying23 hi0 hz0 hz1 hz2 rfl _ _ _ rfl (dW HO.out (aB (ae (ag wr _) H3.out) _)) _ 1 (zV 2 (some ⟨wr.heap.size, 0, none⟩) 1 1 none 0 0) rfl (gP hz1 w3 _ _ _ _ _ _ _) hs1 hs2 (by have h1 := HSZ.out; have h2 := (ae (ag wr (.cells #[.int .i64 X] 3)) H3.out).size; simp; omega) ?_; intro v9 w9 hown9 hg9 hat9; have HX9 := Lh (HAPP.out w3 H3.out v9 w9 hown9 hg9 hat9); clear hown9 hg9 hat9))
      go_roundg gg
      case rel => exact ⟨i + 1, bi M S Nn, by omega, by go_num, Lh ⟨HX9.out.1, HSN.out, HX9.out.2⟩⟩
      case measure => omega
     ·have u1 : (X == Y) = false := bF hxy;have HSE0 : Hid (bi M S Nn = S ++ [.mk 2 [min X Y, max X Y] []]) := Lh (by unfold bi; rw [hr8, if_neg (by omega), if_pos rfl, <- hAq, <- hX, <- hDq, <- hY, if_neg hxy])
      rcases Int.lt_or_gt_of_ne hxy with hlt2 | hlt2
      ·have HSE : Hid (bi M S Nn = S ++ [.mk 2 [X, Y] []]) := Lh (by rw [HSE0.out, show min X Y = X by omega, show max X Y = Y by omega]);have hmn : min X Y = X := by omega
       have hmx : max X Y = Y := by omega
       have HSI : Hid (∀ x ∈ ([X, Y] : List Int), bI x) := Lh (by intro x hx; simp at hx; constructor <;> omega);clear hxy hX hDq hY;have hr1 : Nn.tmod 8 = 2 := by rw [(dD hN0 8).1]; exact hr8
       have hq1 : Nn.tdiv 8 = Aq := by rw [(dD hN0 8).2, hAq]
       have HAPP : Hid (∀ w3, Below (wr.alloc (.cells #[.int .i64 X, .int .i64 Y] 3)).heap.size (wr.alloc (.cells #[.int .i64 X, .int .i64 Y] 3)) w3 -> ∀ v9 w9, w9.ownsRow (w.heap.size + 1) 25 3 v9 (N5 + 1) (xs ++ (zV 2 (some ⟨wr.heap.size, 0, none⟩) 2 2 none 0 0)) -> (w3.alloc (zC 2 (some ⟨wr.heap.size, 0, none⟩) 2 2 none 0 0)).grownBy w9 (Value.ownBlock (.slice B5 N5 d5)) -> (v9.ownBlock = Value.ownBlock (.slice B5 N5 d5) \/ v9.ownBlock = some (w3.alloc (zC 2 (some ⟨wr.heap.size, 0, none⟩) 2 2 none 0 0)).heap.size) -> az (fun b => w.heap.size + 1 <= b) (w.heap.size + 1) v9 (bi M S Nn) w9 /\ Below (w.alloc zR).heap.size (w.alloc zR) w9) := Lh fun w3 hb3 v9 w9 h1 h2 h3 => by
         have hk : aa (wr.alloc (.cells #[.int .i64 X, .int .i64 Y] 3)) wr.heap.size [.int .i64 X, .int .i64 Y] 3 := aa.at wr _ _ 3 _ rfl rfl;have hb : Below wr.heap.size wr w3 := ae (ag wr _) hb3;have hrr : ai (fun b => wr.heap.size <= b) w3 (.mk 2 [X, Y] []) (some ⟨wr.heap.size, 0, none⟩) 2 2 none 0 0 := ai.make (by constructor <;> decide) HSI.out rfl (Nat.le_refl _) (by unfold maxLen; omega) (.inr ⟨wr.heap.size, 0, rfl, fun k v hv => by rw [Nat.zero_add]; exact (hk.below hb3 hk.lt).cell (j := k) hv⟩) (fun _ b o e => by obtain ⟨rfl, _⟩ : wr.heap.size = b /\ 0 = o := (by simpa using e); exact Nat.le_refl _) rfl (Nat.le_refl _) (Nat.zero_le _) (fun i hi => absurd hi (by simp)) (fun h => absurd rfl h);rw [HSE.out];exact ⟨nR HC.out HO.out HN5.out (fun b hb => by have := HSZ.out; omega) hb rfl hrr h1 h2 h3, dJ (aB (ae HI.out.2.2 hb) _) h2 (fun g hg => by have := (HO.out.lt _ hg).1; simp; omega)⟩
       clear hr8 hN0 hN1 hAq hil
       go_wp2_with (first
         | ((with_reducible refine (HA.out _).mono ?_); rintro e w2 ⟨rfl, rfl⟩)
         | ((with_reducible refine (lM (some ⟨wr.heap.size, 0, none⟩) 2 2 (wr.alloc (.cells #[.int .i64 X, .int .i64 Y] 3))).mono ?_); rintro e w3 ⟨rfl, hb3⟩; have H3 := Lh hb3; clear hb3)
         | (at_builtin; refine eu rfl (.tmp 62) (.tmp 71) 23 23 rfl (w.heap.size + 1) 25 i0 _ 3 56 Tryz.underlying23 hi0 hz0 hz1 hz2 rfl _ _ _ rfl (dW HO.out (aB (ae (ag wr _) H3.out) _)) _ 1 (zV 2 (some ⟨wr.heap.size, 0, none⟩) 2 2 none 0 0) rfl (gP hz1 w3 _ _ _ _ _ _ _) hs1 hs2 (by have h1 := HSZ.out; have h2 := (ae (ag wr (.cells #[.int .i64 X, .int .i64 Y] 3)) H3.out).size; simp; omega) ?_; intro v9 w9 hown9 hg9 hat9; have HX9 := Lh (HAPP.out w3 H3.out v9 w9 hown9 hg9 hat9); clear hown9 hg9 hat9))
       go_roundg gg
       case rel => exact ⟨i + 1, bi M S Nn, by omega, by go_num, Lh ⟨HX9.out.1, HSN.out, HX9.out.2⟩⟩
       case measure => omega
      ·have HSE : Hid (bi M S Nn = S ++ [.mk 2 [Y, X] []]) := Lh (by rw [HSE0.out, show min X Y = Y by omega, show max X Y = X by omega]);have hmn : min X Y = Y := by omega
       have hmx : max X Y = X := by omega
       have HSI : Hid (∀ x ∈ ([Y, X] : List Int), bI x) := Lh (by intro x hx; simp at hx; constructor <;> omega);clear hxy hX hDq hY;have hr1 : Nn.tmod 8 = 2 := by rw [(dD hN0 8).1]; exact hr8
       have hq1 : Nn.tdiv 8 = Aq := by rw [(dD hN0 8).2, hAq]
       have HAPP : Hid (∀ w3, Below (wr.alloc (.cells #[.int .i64 Y, .int .i64 X] 3)).heap.size (wr.alloc (.cells #[.int .i64 Y, .int .i64 X] 3)) w3 -> ∀ v9 w9, w9.ownsRow (w.heap.size + 1) 25 3 v9 (N5 + 1) (xs ++ (zV 2 (some ⟨wr.heap.size, 0, none⟩) 2 2 none 0 0)) -> (w3.alloc (zC 2 (some ⟨wr.heap.size, 0, none⟩) 2 2 none 0 0)).grownBy w9 (Value.ownBlock (.slice B5 N5 d5)) -> (v9.ownBlock = Value.ownBlock (.slice B5 N5 d5) \/ v9.ownBlock = some (w3.alloc (zC 2 (some ⟨wr.heap.size, 0, none⟩) 2 2 none 0 0)).heap.size) -> az (fun b => w.heap.size + 1 <= b) (w.heap.size + 1) v9 (bi M S Nn) w9 /\ Below (w.alloc zR).heap.size (w.alloc zR) w9) := Lh fun w3 hb3 v9 w9 h1 h2 h3 => by
         have hk : aa (wr.alloc (.cells #[.int .i64 Y, .int .i64 X] 3)) wr.heap.size [.int .i64 Y, .int .i64 X] 3 := aa.at wr _ _ 3 _ rfl rfl;have hb : Below wr.heap.size wr w3 := ae (ag wr _) hb3;have hrr : ai (fun b => wr.heap.size <= b) w3 (.mk 2 [Y, X] []) (some ⟨wr.heap.size, 0, none⟩) 2 2 none 0 0 := ai.make (by constructor <;> decide) HSI.out rfl (Nat.le_refl _) (by unfold maxLen; omega) (.inr ⟨wr.heap.size, 0, rfl, fun k v hv => by rw [Nat.zero_add]; exact (hk.below hb3 hk.lt).cell (j := k) hv⟩) (fun _ b o e => by obtain ⟨rfl, _⟩ : wr.heap.size = b /\ 0 = o := (by simpa using e); exact Nat.le_refl _) rfl (Nat.le_refl _) (Nat.zero_le _) (fun i hi => absurd hi (by simp)) (fun h => absurd rfl h);rw [HSE.out];exact ⟨nR HC.out HO.out HN5.out (fun b hb => by have := HSZ.out; omega) hb rfl hrr h1 h2 h3, dJ (aB (ae HI.out.2.2 hb) _) h2 (fun g hg => by have := (HO.out.lt _ hg).1; simp; omega)⟩
       clear hr8 hN0 hN1 hAq hil
       go_wp2_with (first
         | ((with_reducible refine (HA.out _).mono ?_); rintro e w2 ⟨rfl, rfl⟩)
         | ((with_reducible refine (lM (some ⟨wr.heap.size, 0, none⟩) 2 2 (wr.alloc (.cells #[.int .i64 Y, .int .i64 X] 3))).mono ?_); rintro e w3 ⟨rfl, hb3⟩; have H3 := Lh hb3; clear hb3)
         | (at_builtin; refine eu rfl (.tmp 62) (.tmp 71) 23 23 rfl (w.heap.size + 1) 25 i0 _ 3 56 Tryz.underlying23 hi0 hz0 hz1 hz2 rfl _ _ _ rfl (dW HO.out (aB (ae (ag wr _) H3.out) _)) _ 1 (zV 2 (some ⟨wr.heap.size, 0, none⟩) 2 2 none 0 0) rfl (gP hz1 w3 _ _ _ _ _ _ _) hs1 hs2 (by have h1 := HSZ.out; have h2 := (ae (ag wr (.cells #[.int .i64 Y, .int .i64 X] 3)) H3.out).size; simp; omega) ?_; intro v9 w9 hown9 hg9 hat9; have HX9 := Lh (HAPP.out w3 H3.out v9 w9 hown9 hg9 hat9); clear hown9 hg9 hat9))
       go_roundg gg
       case rel => exact ⟨i + 1, bi M S Nn, by omega, by go_num, Lh ⟨HX9.out.1, HSN.out, HX9.out.2⟩⟩
       case measure => omega
   ·as_aux_lemma =>
     by_cases hk : 0 < N5
     ·skip
      have t2 : decide ((0 : Int) < (N5 : Int)) = true := dT (by omega);have hr1 : Nn.tmod 8 = 3 := by rw [(dD hN0 8).1]; exact hr8
      have hq1 : Nn.tdiv 8 = Aq := by rw [(dD hN0 8).2, hAq]
      obtain ⟨j, hj⟩ : ∃ j, N5 = j + 1 := ⟨N5 - 1, by omega⟩;have e4 : (N5 : Int) - 1 = (j : Int) := by omega
      have hjN : j < N5 := by omega
      obtain ⟨g, hB5⟩ : ∃ g, B5 = some ⟨g, 0, none⟩ := by
       obtain ⟨B', d', hv', _, _, _, hgg⟩ := HI.out.1.e;simp only [Value.slice.injEq] at hv';obtain ⟨rfl, _⟩ := hv';obtain ⟨g, e, _⟩ := hgg (fun e => by have := HN5.out; rw [e] at this; simp at this; omega);exact ⟨g, e⟩
      subst hB5;obtain ⟨A3, n3, c3, B3, m3, d3, hrg3, hok3⟩ := HI.out.1.kid (k := j) (by rw [<- HN5.out]; omega);obtain ⟨y, hy⟩ : ∃ x, x = ak S j := ⟨_, rfl⟩;rw [<- hy] at hrg3 hok3;obtain ⟨Ky, hKy⟩ : ∃ K, K = y.kind := ⟨_, rfl⟩;rw [<- hKy] at hrg3;have HY : Hid (ai (fun b => (fun b => w.heap.size + 1 <= b) b /\ some b ≠ some g) wr y A3 n3 c3 B3 m3 d3 /\ Ky = y.kind) := Lh ⟨hok3, hKy⟩;have hjS : S.length - 1 = j := by have := HN5.out; omega
      have h0S : 0 < S.length := by have := HN5.out; omega
      have HSE : Hid (bi M S Nn = S.set j (.mk 5 [] [y])) := Lh (by unfold bi; rw [hr8]; simp [hjS, h0S, hy]);clear hjS h0S;have HNEW : Hid (∀ w3, Below (wr.alloc (zC Ky A3 n3 c3 B3 m3 d3)).heap.size (wr.alloc (zC Ky A3 n3 c3 B3 m3 d3)) w3 -> az (fun b => w.heap.size + 1 <= b) (w.heap.size + 1) (.slice (some ⟨g, 0, none⟩) N5 d5) S w3 /\ aP (fun b => (fun b => w.heap.size + 1 <= b) b /\ some b ≠ some g) w3 (.mk 5 [] [y]) (.slice none 0 0) (.slice (some ⟨wr.heap.size, 0, none⟩) 1 1)) := Lh fun w3 hb3 => by
       have hk : aa (wr.alloc (zC Ky A3 n3 c3 B3 m3 d3)) wr.heap.size (zV Ky A3 n3 c3 B3 m3 d3) 25 := aa.at wr _ _ 25 _ rfl rfl;have hb : Below wr.heap.size wr w3 := ae (ag wr _) hb3;have hy3 := HY.out.1.below hb;have hg9 := HO.out.lt g rfl;refine ⟨HI.out.1.below hb, (jm 5 (by constructor <;> decide) (aG.one hy3.q) (by simp) (by have h1 := hk.below hb3 hk.lt; rw [HY.out.2] at h1; exact h1) ⟨by have := HSZ.out; omega, fun e => by have := Option.some.inj e; omega⟩).q⟩
      have HFIN : Hid (∀ w3 w9, Below (wr.alloc (zC Ky A3 n3 c3 B3 m3 d3)).heap.size (wr.alloc (zC Ky A3 n3 c3 B3 m3 d3)) w3 -> az (fun b => w.heap.size + 1 <= b) (w.heap.size + 1) (.slice (some ⟨g, 0, none⟩) N5 d5) (S.set j (.mk 5 [] [y])) w9 /\ w3.grownBy w9 (some g) -> az (fun b => w.heap.size + 1 <= b) (w.heap.size + 1) (.slice (some ⟨g, 0, none⟩) N5 d5) (bi M S Nn) w9 /\ Below (w.alloc zR).heap.size (w.alloc zR) w9) := Lh fun w3 w9 hb3 h => by
       rw [HSE.out];exact ⟨h.1, dJ (ae HI.out.2.2 (ae (ag wr _) hb3)) h.2 (fun g' hg' => by obtain rfl := Option.some.inj hg'; have := (HO.out.lt g rfl).1; simp; omega)⟩
      clear hr8 hN0 hN1 hAq hil hj hy hKy hok3
      go_wp2_with (first
       | ((with_reducible refine (HA.out _).mono ?_); rintro e w2 ⟨rfl, rfl⟩)
       | (refine aA rfl (.tmp 86) rfl g (j * 3) rfl Ky A3 B3 n3 c3 m3 d3 hrg3 ?_)
       | ((with_reducible refine (iB 5 (some ⟨wr.heap.size, 0, none⟩) 1 1 (wr.alloc (zC Ky A3 n3 c3 B3 m3 d3))).mono ?_); rintro e w3 ⟨rfl, hb3⟩; have H3 := Lh hb3; have HN3 := Lh (HNEW.out w3 hb3); clear hb3)
       | (refine kT rfl (.tmp 90) (.tmp 89) rfl HN3.out.1 HN5.out hjN rfl (.mk 5 [] [y]) 5 rfl none (some ⟨wr.heap.size, 0, none⟩) 0 0 1 1 rfl HN3.out.2 ?_; intro w9 hw9; have HX9 := Lh (HFIN.out w3 w9 H3.out hw9); clear hw9))
      go_roundg gg
      case rel => exact ⟨i + 1, bi M S Nn, by omega, by go_num, Lh ⟨HX9.out.1, HSN.out, HX9.out.2⟩⟩
      case measure => omega
     ·skip
      have t2 : decide ((0 : Int) < (N5 : Int)) = false := dF (by omega);have hr1 : Nn.tmod 8 = 3 := by rw [(dD hN0 8).1]; exact hr8
      have hq1 : Nn.tdiv 8 = Aq := by rw [(dD hN0 8).2, hAq]
      have h0S : ¬ 0 < S.length := by have := HN5.out; omega
      have HSE : Hid (bi M S Nn = S) := Lh (by unfold bi; rw [hr8]; simp [h0S]; try omega);clear h0S;have HX9 : Hid (az (fun b => w.heap.size + 1 <= b) (w.heap.size + 1) (.slice B5 N5 d5) (bi M S Nn) wr) := Lh (by rw [HSE.out]; exact HI.out.1);clear hr8 hN0 hN1 hAq hil
      go_wp2_with ((with_reducible refine (HA.out _).mono ?_); rintro e w2 ⟨rfl, rfl⟩)
      go_roundg gg
      case rel => exact ⟨i + 1, bi M S Nn, by omega, by go_num, Lh ⟨HX9.out, HSN.out, HI.out.2.2⟩⟩
      case measure => omega
   ·skip
    by_cases hk : 1 < N5
    ·skip
     have t2 : decide ((1 : Int) < (N5 : Int)) = true := dT (by omega);have hr1 : Nn.tmod 8 = 4 := by rw [(dD hN0 8).1]; exact hr8
     have hq1 : Nn.tdiv 8 = Aq := by rw [(dD hN0 8).2, hAq]
     obtain ⟨j, hj⟩ : ∃ j, N5 = j + 2 := ⟨N5 - 2, by omega⟩;have e4 : (N5 : Int) - 2 = (j : Int) := by omega
     obtain ⟨j1, hj1⟩ : ∃ k, k = j + 1 := ⟨_, rfl⟩;have e5 : (N5 : Int) - 1 = (j1 : Int) := by omega
     have hj1N : j1 < N5 := by omega
     have wj : IntKind.i64.wrap (j : Int) = (j : Int) := wrap_small (by omega);have wj1 : IntKind.i64.wrap (j1 : Int) = (j1 : Int) := wrap_small (by omega);have hjN : j < N5 := by omega
     obtain ⟨g, hB5⟩ : ∃ g, B5 = some ⟨g, 0, none⟩ := by
      obtain ⟨B', d', hv', _, _, _, hgg⟩ := HI.out.1.e;simp only [Value.slice.injEq] at hv';obtain ⟨rfl, _⟩ := hv';obtain ⟨g, e, _⟩ := hgg (fun e => by have := HN5.out; rw [e] at this; simp at this; omega);exact ⟨g, e⟩
     subst hB5;obtain ⟨A3, n3, c3, B3, m3, d3, hrg3, hok3⟩ := HI.out.1.kid (k := j) (by rw [<- HN5.out]; omega);obtain ⟨y, hy⟩ : ∃ x, x = ak S j := ⟨_, rfl⟩;rw [<- hy] at hrg3 hok3;obtain ⟨Ky, hKy⟩ : ∃ K, K = y.kind := ⟨_, rfl⟩;rw [<- hKy] at hrg3;have HY : Hid (ai (fun b => (fun b => w.heap.size + 1 <= b) b /\ some b ≠ some g) wr y A3 n3 c3 B3 m3 d3 /\ Ky = y.kind) := Lh ⟨hok3, hKy⟩;obtain ⟨A4, n4, c4, B4, m4, d4, hrg4, hok4⟩ := HI.out.1.kid (k := j1) (by rw [<- HN5.out]; omega);obtain ⟨y2, hy2⟩ : ∃ x, x = ak S j1 := ⟨_, rfl⟩;rw [<- hy2] at hrg4 hok4;obtain ⟨Kx, hKx⟩ : ∃ K, K = y2.kind := ⟨_, rfl⟩;rw [<- hKx] at hrg4;have HX4 : Hid (ai (fun b => (fun b => w.heap.size + 1 <= b) b /\ some b ≠ some g) wr y2 A4 n4 c4 B4 m4 d4 /\ Kx = y2.kind) := Lh ⟨hok4, hKx⟩;have hjS : S.length - 1 = j1 := by have := HN5.out; omega
     have hjS2 : S.length - 2 = j := by have := HN5.out; omega
     have h0S : 1 < S.length := by have := HN5.out; omega
     have HSE : Hid (bi M S Nn = (S.set j (.mk 3 [] [y, y2])).take j1) := Lh (by unfold bi; rw [hr8]; simp [hjS, hjS2, h0S, hy, hy2]);clear hjS hjS2 h0S;have HNEW : Hid (∀ w3, Below (wr.alloc (.cells #[.int .i64 Ky, .slice A3 n3 c3, .slice B3 m3 d3, .int .i64 Kx, .slice A4 n4 c4, .slice B4 m4 d4] 25)).drew.heap.size (wr.alloc (.cells #[.int .i64 Ky, .slice A3 n3 c3, .slice B3 m3 d3, .int .i64 Kx, .slice A4 n4 c4, .slice B4 m4 d4] 25)).drew w3 -> az (fun b => w.heap.size + 1 <= b) (w.heap.size + 1) (.slice (some ⟨g, 0, none⟩) N5 d5) S w3 /\ aP (fun b => (fun b => w.heap.size + 1 <= b) b /\ some b ≠ some g) w3 (.mk 3 [] [y, y2]) (.slice none 0 0) (.slice (some ⟨wr.heap.size, 0, none⟩) 2 2)) := Lh fun w3 hb3 => by
      have hk : aa (wr.alloc (.cells #[.int .i64 Ky, .slice A3 n3 c3, .slice B3 m3 d3, .int .i64 Kx, .slice A4 n4 c4, .slice B4 m4 d4] 25)).drew wr.heap.size [.int .i64 Ky, .slice A3 n3 c3, .slice B3 m3 d3, .int .i64 Kx, .slice A4 n4 c4, .slice B4 m4 d4] 25 := aa.at wr _ _ 25 _ rfl rfl;have hb : Below wr.heap.size wr w3 := ae (ag _ _).drew hb3;have hy3 := HY.out.1.below hb;have hx3 := HX4.out.1.below hb;have hg9 := HO.out.lt g rfl;refine ⟨HI.out.1.below hb, (jm 3 (by constructor <;> decide) (aG.app (aG.one hy3.q) (aG.one hx3.q)) (by simp) (by have h1 := hk.below hb3 hk.lt; rw [HY.out.2, HX4.out.2] at h1; exact h1) ⟨by have := HSZ.out; omega, fun e => by have := Option.some.inj e; omega⟩).q⟩
     have HFIN : Hid (∀ w3 w9, Below (wr.alloc (.cells #[.int .i64 Ky, .slice A3 n3 c3, .slice B3 m3 d3, .int .i64 Kx, .slice A4 n4 c4, .slice B4 m4 d4] 25)).drew.heap.size (wr.alloc (.cells #[.int .i64 Ky, .slice A3 n3 c3, .slice B3 m3 d3, .int .i64 Kx, .slice A4 n4 c4, .slice B4 m4 d4] 25)).drew w3 -> az (fun b => w.heap.size + 1 <= b) (w.heap.size + 1) (.slice (some ⟨g, 0, none⟩) N5 d5) (S.set j (.mk 3 [] [y, y2])) w9 /\ w3.grownBy w9 (some g) -> az (fun b => w.heap.size + 1 <= b) (w.heap.size + 1) (.slice (some ⟨g, 0, none⟩) j1 d5) (bi M S Nn) w9 /\ Below (w.alloc zR).heap.size (w.alloc zR) w9) := Lh fun w3 w9 hb3 h => by
      rw [HSE.out];exact ⟨h.1.cut (by rw [List.length_set]; exact HN5.out) (by omega), dJ (ae HI.out.2.2 (ae (ag _ _).drew hb3)) h.2 (fun g' hg' => by obtain rfl := Option.some.inj hg'; have := (HO.out.lt g rfl).1; simp; omega)⟩
     have HRW : Hid (wr.rangeAt g (j * 3) (zV Ky A3 n3 c3 B3 m3 d3) /\ wr.rangeAt g (j1 * 3) (zV Kx A4 n4 c4 B4 m4 d4)) := Lh ⟨hrg3, hrg4⟩;have HRD : Hid (wr.drew.rangeAt g (j * 3) (zV Ky A3 n3 c3 B3 m3 d3) /\ wr.drew.rangeAt g (j1 * 3) (zV Kx A4 n4 c4 B4 m4 d4)) := Lh HRW.out;have hcut := fun W => o8 (P := Tryz.prog) Tryz.underlying23 hi0 (some ⟨g, 0, none⟩) N5 j1 d5 (by omega) W
     clear hr8 hN0 hN1 hAq hil hj hy hKy hok3 hy2 hKx hok4 hrg3 hrg4 hj1
     go_upto_region 19 with ((with_reducible refine (HA.out _).mono ?_); rintro e w2 ⟨rfl, rfl⟩)
     refine wp_region_held_drew (S := fun _ => True) (by kernel_rfl) (trivial) (fun hS0 => ?_);refine bW 0 ?_;refine bW 1 ?_;refine bW 2 ?_;refine bW 3 ?_;refine bW 4 ?_;refine bW 5 ?_;refine bW 6 ?_;refine bW 8 ?_;refine bW 9 ?_;refine bW 10 ?_;refine wpAnyH_take (i := 11) (oi := { dst := some 109, op := Op.indexAddr 23 (Operand.tmp 106) (Operand.tmp 108), type := 0, pos := "ref.go:601", after := #[{ on := 8, ground := Ground.data }, { on := 10, ground := Ground.data }], guard := none }) (v := ?_) rfl (by kernel_rfl) (by kernel_rfl) (by kernel_rfl) (fun _ _ _ h => h) (Or.inl ⟨by rfl, ?_⟩) (by assumption) ?_
     rotate_left
     ·(intro w' hSw; (try dsimp only at hSw); go_simp; try with_reducible rfl)
     (try simp only [Act.put, pP]);refine wpAnyH_ready (rs := [7, 12]) (by kernel_rfl) (by simp) ?_;refine AllReadyH.cons (o := ⟨some 105, .load 25 (.tmp 104), 25, _, _, none⟩) rfl (fun KK hK => ?_) (AllReadyH.cons (o := ⟨some 110, .load 25 (.tmp 109), 25, _, _, none⟩) rfl (fun KK hK => ?_) AllReadyH.nil)
     refine kv rfl 25 (.tmp 104) rfl g (j * 3) rfl (zV Ky A3 n3 c3 B3 m3 d3) HRD.out.1 _ Tryz.underlying25 rfl au ?_;refine hK.out _ _ trivial (fun hS1 => ?_);clear hK KK hS1;(try simp only [Act.put, pP]);refine wpAnyH_ready (rs := [12]) (by kernel_rfl) (by simp) ?_;refine AllReadyH.cons (o := ⟨some 110, .load 25 (.tmp 109), 25, _, _, none⟩) rfl (fun KK hK => ?_) AllReadyH.nil
     refine kv rfl 25 (.tmp 109) rfl g (j1 * 3) rfl (zV Kx A4 n4 c4 B4 m4 d4) HRD.out.2 _ Tryz.underlying25 rfl au ?_;refine hK.out _ _ trivial (fun hS1 => ?_);clear hK KK hS1;try simp only [Act.put, pP]
     rotate_left
     refine kv rfl 25 (.tmp 109) rfl g (j1 * 3) rfl (zV Kx A4 n4 c4 B4 m4 d4) HRD.out.2 _ Tryz.underlying25 rfl au ?_;refine hK.out _ _ trivial (fun hS1 => ?_);clear hK KK hS1;(try simp only [Act.put, pP]);refine wpAnyH_ready (rs := [7]) (by kernel_rfl) (by simp) ?_;refine AllReadyH.cons (o := ⟨some 105, .load 25 (.tmp 104), 25, _, _, none⟩) rfl (fun KK hK => ?_) AllReadyH.nil
     refine kv rfl 25 (.tmp 104) rfl g (j * 3) rfl (zV Ky A3 n3 c3 B3 m3 d3) HRD.out.1 _ Tryz.underlying25 rfl au ?_;refine hK.out _ _ trivial (fun hS1 => ?_);clear hK KK hS1;try simp only [Act.put, pP]
     all_goals
      refine wpAnyH_ready (rs := [13]) (by kernel_rfl) (by simp) ?_;refine wA rfl (fun KK hK => ?_) AllReadyH.nil
      go_simp;refine hK.out _ _ trivial (fun hS1 => ?_);clear hK KK hS1;(try simp only [Act.put, pP]);refine wpAnyH_ready (rs := [14]) (by kernel_rfl) (by simp) ?_;refine wA rfl (fun KK hK => ?_) AllReadyH.nil
      go_simp;go_at_call 40;refine (iB 3 (some ⟨wr.heap.size, 0, none⟩) 2 2 (wr.alloc (.cells #[.int .i64 Ky, .slice A3 n3 c3, .slice B3 m3 d3, .int .i64 Kx, .slice A4 n4 c4, .slice B4 m4 d4] 25)).drew).mono ?_;rintro e w3 ⟨rfl, hb3⟩;have H3 := Lh hb3;have HN3 := Lh (HNEW.out w3 hb3);clear hb3;refine hK.out _ _ trivial (fun hS2 => ?_);clear hK KK hS2;(try simp only [Act.put, pP]);refine wpAnyH_take (i := 15) (oi := { dst := some 113, op := Op.indexAddr 23 (Operand.tmp 98) (Operand.tmp 100), type := 0, pos := "ref.go:601", after := #[{ on := 0, ground := Ground.data }, { on := 2, ground := Ground.data }, { on := 0, ground := Ground.phase }, { on := 1, ground := Ground.phase }, { on := 2, ground := Ground.phase }, { on := 3, ground := Ground.phase }, { on := 4, ground := Ground.phase }, { on := 5, ground := Ground.phase }, { on := 6, ground := Ground.phase }, { on := 7, ground := Ground.phase }, { on := 8, ground := Ground.phase }, { on := 9, ground := Ground.phase }, { on := 10, ground := Ground.phase }, { on := 11, ground := Ground.phase }, { on := 12, ground := Ground.phase }, { on := 13, ground := Ground.phase }, { on := 14, ground := Ground.phase }], guard := none }) (v := ?_) rfl (by kernel_rfl) (by kernel_rfl) (by kernel_rfl) (fun _ _ _ h => h) (Or.inl ⟨by rfl, ?_⟩) (by assumption) ?_
      rotate_left
      ·(intro w' hSw; (try dsimp only at hSw); go_simp; try with_reducible rfl)
      (try simp only [Act.put, pP]);refine wpAnyH_ready (rs := [16]) (by kernel_rfl) (by simp) ?_;refine AllReadyH.cons (o := ⟨none, .store 25 (.tmp 113) (.tmp 112), 0, _, _, none⟩) rfl (fun KK hK => ?_) AllReadyH.nil
      refine sZ rfl (.tmp 113) (.tmp 112) rfl HN3.out.1 HN5.out hjN rfl (.mk 3 [] [y, y2]) 3 rfl none (some ⟨wr.heap.size, 0, none⟩) 0 0 2 2 rfl HN3.out.2 ?_;intro w9 hw9;have HX9 := Lh (HFIN.out w3 w9 H3.out hw9);clear hw9;refine hK.out _ _ trivial (fun hS3 => ?_);clear hK KK hS3;(try simp only [Act.put, pP]);refine wpAnyH_done (by kernel_rfl) ?_ _;go_wp2_with fail
      go_roundg gg
      case rel => exact ⟨i + 1, bi M S Nn, by omega, by go_num, Lh ⟨HX9.out.1, HSN.out, HX9.out.2⟩⟩
      case measure => omega
    ·skip
     have t2 : decide ((1 : Int) < (N5 : Int)) = false := dF (by omega);have hr1 : Nn.tmod 8 = 4 := by rw [(dD hN0 8).1]; exact hr8
     have hq1 : Nn.tdiv 8 = Aq := by rw [(dD hN0 8).2, hAq]
     have h0S : ¬ 1 < S.length := by have := HN5.out; omega
     have HSE : Hid (bi M S Nn = S) := Lh (by unfold bi; rw [hr8]; simp [h0S]; try omega);clear h0S;have HX9 : Hid (az (fun b => w.heap.size + 1 <= b) (w.heap.size + 1) (.slice B5 N5 d5) (bi M S Nn) wr) := Lh (by rw [HSE.out]; exact HI.out.1);clear hr8 hN0 hN1 hAq hil
     go_wp2_with ((with_reducible refine (HA.out _).mono ?_); rintro e w2 ⟨rfl, rfl⟩)
     go_roundg gg
     case rel => exact ⟨i + 1, bi M S Nn, by omega, by go_num, Lh ⟨HX9.out, HSN.out, HI.out.2.2⟩⟩
     case measure => omega
   ·skip
    by_cases hk : 1 < N5
    ·skip
     have t2 : decide ((1 : Int) < (N5 : Int)) = true := dT (by omega);have hr1 : Nn.tmod 8 = 5 := by rw [(dD hN0 8).1]; exact hr8
     have hq1 : Nn.tdiv 8 = Aq := by rw [(dD hN0 8).2, hAq]
     obtain ⟨j, hj⟩ : ∃ j, N5 = j + 2 := ⟨N5 - 2, by omega⟩;have e4 : (N5 : Int) - 2 = (j : Int) := by omega
     obtain ⟨j1, hj1⟩ : ∃ k, k = j + 1 := ⟨_, rfl⟩;have e5 : (N5 : Int) - 1 = (j1 : Int) := by omega
     have hj1N : j1 < N5 := by omega
     have wj : IntKind.i64.wrap (j : Int) = (j : Int) := wrap_small (by omega);have wj1 : IntKind.i64.wrap (j1 : Int) = (j1 : Int) := wrap_small (by omega);have hjN : j < N5 := by omega
     obtain ⟨g, hB5⟩ : ∃ g, B5 = some ⟨g, 0, none⟩ := by
      obtain ⟨B', d', hv', _, _, _, hgg⟩ := HI.out.1.e;simp only [Value.slice.injEq] at hv';obtain ⟨rfl, _⟩ := hv';obtain ⟨g, e, _⟩ := hgg (fun e => by have := HN5.out; rw [e] at this; simp at this; omega);exact ⟨g, e⟩
     subst hB5;obtain ⟨A3, n3, c3, B3, m3, d3, hrg3, hok3⟩ := HI.out.1.kid (k := j) (by rw [<- HN5.out]; omega);obtain ⟨y, hy⟩ : ∃ x, x = ak S j := ⟨_, rfl⟩;rw [<- hy] at hrg3 hok3;obtain ⟨Ky, hKy⟩ : ∃ K, K = y.kind := ⟨_, rfl⟩;rw [<- hKy] at hrg3;have HY : Hid (ai (fun b => (fun b => w.heap.size + 1 <= b) b /\ some b ≠ some g) wr y A3 n3 c3 B3 m3 d3 /\ Ky = y.kind) := Lh ⟨hok3, hKy⟩;obtain ⟨A4, n4, c4, B4, m4, d4, hrg4, hok4⟩ := HI.out.1.kid (k := j1) (by rw [<- HN5.out]; omega);obtain ⟨y2, hy2⟩ : ∃ x, x = ak S j1 := ⟨_, rfl⟩;rw [<- hy2] at hrg4 hok4;obtain ⟨Kx, hKx⟩ : ∃ K, K = y2.kind := ⟨_, rfl⟩;rw [<- hKx] at hrg4;have HX4 : Hid (ai (fun b => (fun b => w.heap.size + 1 <= b) b /\ some b ≠ some g) wr y2 A4 n4 c4 B4 m4 d4 /\ Kx = y2.kind) := Lh ⟨hok4, hKx⟩;have hjS : S.length - 1 = j1 := by have := HN5.out; omega
     have hjS2 : S.length - 2 = j := by have := HN5.out; omega
     have h0S : 1 < S.length := by have := HN5.out; omega
     have HSE : Hid (bi M S Nn = (S.set j (.mk 4 [] [y, y2])).take j1) := Lh (by unfold bi; rw [hr8]; simp [hjS, hjS2, h0S, hy, hy2]);clear hjS hjS2 h0S;have HNEW : Hid (∀ w3, Below (wr.alloc (.cells #[.int .i64 Ky, .slice A3 n3 c3, .slice B3 m3 d3, .int .i64 Kx, .slice A4 n4 c4, .slice B4 m4 d4] 25)).drew.heap.size (wr.alloc (.cells #[.int .i64 Ky, .slice A3 n3 c3, .slice B3 m3 d3, .int .i64 Kx, .slice A4 n4 c4, .slice B4 m4 d4] 25)).drew w3 -> az (fun b => w.heap.size + 1 <= b) (w.heap.size + 1) (.slice (some ⟨g, 0, none⟩) N5 d5) S w3 /\ aP (fun b => (fun b => w.heap.size + 1 <= b) b /\ some b ≠ some g) w3 (.mk 4 [] [y, y2]) (.slice none 0 0) (.slice (some ⟨wr.heap.size, 0, none⟩) 2 2)) := Lh fun w3 hb3 => by
      have hk : aa (wr.alloc (.cells #[.int .i64 Ky, .slice A3 n3 c3, .slice B3 m3 d3, .int .i64 Kx, .slice A4 n4 c4, .slice B4 m4 d4] 25)).drew wr.heap.size [.int .i64 Ky, .slice A3 n3 c3, .slice B3 m3 d3, .int .i64 Kx, .slice A4 n4 c4, .slice B4 m4 d4] 25 := aa.at wr _ _ 25 _ rfl rfl;have hb : Below wr.heap.size wr w3 := ae (ag _ _).drew hb3;have hy3 := HY.out.1.below hb;have hx3 := HX4.out.1.below hb;have hg9 := HO.out.lt g rfl;refine ⟨HI.out.1.below hb, (jm 4 (by constructor <;> decide) (aG.app (aG.one hy3.q) (aG.one hx3.q)) (by simp) (by have h1 := hk.below hb3 hk.lt; rw [HY.out.2, HX4.out.2] at h1; exact h1) ⟨by have := HSZ.out; omega, fun e => by have := Option.some.inj e; omega⟩).q⟩
     have HFIN : Hid (∀ w3 w9, Below (wr.alloc (.cells #[.int .i64 Ky, .slice A3 n3 c3, .slice B3 m3 d3, .int .i64 Kx, .slice A4 n4 c4, .slice B4 m4 d4] 25)).drew.heap.size (wr.alloc (.cells #[.int .i64 Ky, .slice A3 n3 c3, .slice B3 m3 d3, .int .i64 Kx, .slice A4 n4 c4, .slice B4 m4 d4] 25)).drew w3 -> az (fun b => w.heap.size + 1 <= b) (w.heap.size + 1) (.slice (some ⟨g, 0, none⟩) N5 d5) (S.set j (.mk 4 [] [y, y2])) w9 /\ w3.grownBy w9 (some g) -> az (fun b => w.heap.size + 1 <= b) (w.heap.size + 1) (.slice (some ⟨g, 0, none⟩) j1 d5) (bi M S Nn) w9 /\ Below (w.alloc zR).heap.size (w.alloc zR) w9) := Lh fun w3 w9 hb3 h => by
      rw [HSE.out];exact ⟨h.1.cut (by rw [List.length_set]; exact HN5.out) (by omega), dJ (ae HI.out.2.2 (ae (ag _ _).drew hb3)) h.2 (fun g' hg' => by obtain rfl := Option.some.inj hg'; have := (HO.out.lt g rfl).1; simp; omega)⟩
     have HRW : Hid (wr.rangeAt g (j * 3) (zV Ky A3 n3 c3 B3 m3 d3) /\ wr.rangeAt g (j1 * 3) (zV Kx A4 n4 c4 B4 m4 d4)) := Lh ⟨hrg3, hrg4⟩;have HRD : Hid (wr.drew.rangeAt g (j * 3) (zV Ky A3 n3 c3 B3 m3 d3) /\ wr.drew.rangeAt g (j1 * 3) (zV Kx A4 n4 c4 B4 m4 d4)) := Lh HRW.out;have hcut := fun W => o8 (P := Tryz.prog) Tryz.underlying23 hi0 (some ⟨g, 0, none⟩) N5 j1 d5 (by omega) W
     clear hr8 hN0 hN1 hAq hil hj hy hKy hok3 hy2 hKx hok4 hrg3 hrg4 hj1
     go_upto_region 22 with ((with_reducible refine (HA.out _).mono ?_); rintro e w2 ⟨rfl, rfl⟩)
     refine wp_region_held_drew (S := fun _ => True) (by kernel_rfl) (trivial) (fun hS0 => ?_);refine bW 0 ?_;refine bW 1 ?_;refine bW 2 ?_;refine bW 3 ?_;refine bW 4 ?_;refine bW 5 ?_;refine bW 6 ?_;refine bW 8 ?_;refine bW 9 ?_;refine bW 10 ?_;refine wpAnyH_take (i := 11) (oi := { dst := some 136, op := Op.indexAddr 23 (Operand.tmp 133) (Operand.tmp 135), type := 0, pos := "ref.go:604", after := #[{ on := 8, ground := Ground.data }, { on := 10, ground := Ground.data }], guard := none }) (v := ?_) rfl (by kernel_rfl) (by kernel_rfl) (by kernel_rfl) (fun _ _ _ h => h) (Or.inl ⟨by rfl, ?_⟩) (by assumption) ?_
     rotate_left
     ·(intro w' hSw; (try dsimp only at hSw); go_simp; try with_reducible rfl)
     (try simp only [Act.put, pP]);refine wpAnyH_ready (rs := [7, 12]) (by kernel_rfl) (by simp) ?_;refine AllReadyH.cons (o := ⟨some 132, .load 25 (.tmp 131), 25, _, _, none⟩) rfl (fun KK hK => ?_) (AllReadyH.cons (o := ⟨some 137, .load 25 (.tmp 136), 25, _, _, none⟩) rfl (fun KK hK => ?_) AllReadyH.nil)
     refine kv rfl 25 (.tmp 131) rfl g (j * 3) rfl (zV Ky A3 n3 c3 B3 m3 d3) HRD.out.1 _ Tryz.underlying25 rfl au ?_;refine hK.out _ _ trivial (fun hS1 => ?_);clear hK KK hS1;(try simp only [Act.put, pP]);refine wpAnyH_ready (rs := [12]) (by kernel_rfl) (by simp) ?_;refine AllReadyH.cons (o := ⟨some 137, .load 25 (.tmp 136), 25, _, _, none⟩) rfl (fun KK hK => ?_) AllReadyH.nil
     refine kv rfl 25 (.tmp 136) rfl g (j1 * 3) rfl (zV Kx A4 n4 c4 B4 m4 d4) HRD.out.2 _ Tryz.underlying25 rfl au ?_;refine hK.out _ _ trivial (fun hS1 => ?_);clear hK KK hS1;try simp only [Act.put, pP]
     rotate_left
     refine kv rfl 25 (.tmp 136) rfl g (j1 * 3) rfl (zV Kx A4 n4 c4 B4 m4 d4) HRD.out.2 _ Tryz.underlying25 rfl au ?_;refine hK.out _ _ trivial (fun hS1 => ?_);clear hK KK hS1;(try simp only [Act.put, pP]);refine wpAnyH_ready (rs := [7]) (by kernel_rfl) (by simp) ?_;refine AllReadyH.cons (o := ⟨some 132, .load 25 (.tmp 131), 25, _, _, none⟩) rfl (fun KK hK => ?_) AllReadyH.nil
     refine kv rfl 25 (.tmp 131) rfl g (j * 3) rfl (zV Ky A3 n3 c3 B3 m3 d3) HRD.out.1 _ Tryz.underlying25 rfl au ?_;refine hK.out _ _ trivial (fun hS1 => ?_);clear hK KK hS1;try simp only [Act.put, pP]
     all_goals
      refine wpAnyH_ready (rs := [13]) (by kernel_rfl) (by simp) ?_;refine wA rfl (fun KK hK => ?_) AllReadyH.nil
      go_simp;refine hK.out _ _ trivial (fun hS1 => ?_);clear hK KK hS1;(try simp only [Act.put, pP]);refine wpAnyH_ready (rs := [14]) (by kernel_rfl) (by simp) ?_;refine wA rfl (fun KK hK => ?_) AllReadyH.nil
      go_simp;go_at_call 40;refine (iB 4 (some ⟨wr.heap.size, 0, none⟩) 2 2 (wr.alloc (.cells #[.int .i64 Ky, .slice A3 n3 c3, .slice B3 m3 d3, .int .i64 Kx, .slice A4 n4 c4, .slice B4 m4 d4] 25)).drew).mono ?_;rintro e w3 ⟨rfl, hb3⟩;have H3 := Lh hb3;have HN3 := Lh (HNEW.out w3 hb3);clear hb3;refine hK.out _ _ trivial (fun hS2 => ?_);clear hK KK hS2;(try simp only [Act.put, pP]);refine wpAnyH_take (i := 15) (oi := { dst := some 140, op := Op.indexAddr 23 (Operand.tmp 125) (Operand.tmp 127), type := 0, pos := "ref.go:604", after := #[{ on := 0, ground := Ground.data }, { on := 2, ground := Ground.data }, { on := 0, ground := Ground.phase }, { on := 1, ground := Ground.phase }, { on := 2, ground := Ground.phase }, { on := 3, ground := Ground.phase }, { on := 4, ground := Ground.phase }, { on := 5, ground := Ground.phase }, { on := 6, ground := Ground.phase }, { on := 7, ground := Ground.phase }, { on := 8, ground := Ground.phase }, { on := 9, ground := Ground.phase }, { on := 10, ground := Ground.phase }, { on := 11, ground := Ground.phase }, { on := 12, ground := Ground.phase }, { on := 13, ground := Ground.phase }, { on := 14, ground := Ground.phase }], guard := none }) (v := ?_) rfl (by kernel_rfl) (by kernel_rfl) (by kernel_rfl) (fun _ _ _ h => h) (Or.inl ⟨by rfl, ?_⟩) (by assumption) ?_
      rotate_left
      ·(intro w' hSw; (try dsimp only at hSw); go_simp; try with_reducible rfl)
      (try simp only [Act.put, pP]);refine wpAnyH_ready (rs := [16]) (by kernel_rfl) (by simp) ?_;refine AllReadyH.cons (o := ⟨none, .store 25 (.tmp 140) (.tmp 139), 0, _, _, none⟩) rfl (fun KK hK => ?_) AllReadyH.nil
      refine sZ rfl (.tmp 140) (.tmp 139) rfl HN3.out.1 HN5.out hjN rfl (.mk 4 [] [y, y2]) 4 rfl none (some ⟨wr.heap.size, 0, none⟩) 0 0 2 2 rfl HN3.out.2 ?_;intro w9 hw9;have HX9 := Lh (HFIN.out w3 w9 H3.out hw9);clear hw9;refine hK.out _ _ trivial (fun hS3 => ?_);clear hK KK hS3;(try simp only [Act.put, pP]);refine wpAnyH_done (by kernel_rfl) ?_ _;go_wp2_with fail
      go_roundg gg
      case rel => exact ⟨i + 1, bi M S Nn, by omega, by go_num, Lh ⟨HX9.out.1, HSN.out, HX9.out.2⟩⟩
      case measure => omega
    ·skip
     have t2 : decide ((1 : Int) < (N5 : Int)) = false := dF (by omega);have hr1 : Nn.tmod 8 = 5 := by rw [(dD hN0 8).1]; exact hr8
     have hq1 : Nn.tdiv 8 = Aq := by rw [(dD hN0 8).2, hAq]
     have h0S : ¬ 1 < S.length := by have := HN5.out; omega
     have HSE : Hid (bi M S Nn = S) := Lh (by unfold bi; rw [hr8]; simp [h0S]; try omega);clear h0S;have HX9 : Hid (az (fun b => w.heap.size + 1 <= b) (w.heap.size + 1) (.slice B5 N5 d5) (bi M S Nn) wr) := Lh (by rw [HSE.out]; exact HI.out.1);clear hr8 hN0 hN1 hAq hil
     go_wp2_with ((with_reducible refine (HA.out _).mono ?_); rintro e w2 ⟨rfl, rfl⟩)
     go_roundg gg
     case rel => exact ⟨i + 1, bi M S Nn, by omega, by go_num, Lh ⟨HX9.out, HSN.out, HI.out.2.2⟩⟩
     case measure => omega
   ·skip
    by_cases hk : 0 < N5
    ·skip
     have t2 : decide ((0 : Int) < (N5 : Int)) = true := dT (by omega);have hr1 : Nn.tmod 8 = 6 := by rw [(dD hN0 8).1]; exact hr8
     have hq1 : Nn.tdiv 8 = Aq := by rw [(dD hN0 8).2, hAq]
     obtain ⟨j, hj⟩ : ∃ j, N5 = j + 1 := ⟨N5 - 1, by omega⟩;have e4 : (N5 : Int) - 1 = (j : Int) := by omega
     have hjN : j < N5 := by omega
     obtain ⟨g, hB5⟩ : ∃ g, B5 = some ⟨g, 0, none⟩ := by
      obtain ⟨B', d', hv', _, _, _, hgg⟩ := HI.out.1.e;simp only [Value.slice.injEq] at hv';obtain ⟨rfl, _⟩ := hv';obtain ⟨g, e, _⟩ := hgg (fun e => by have := HN5.out; rw [e] at this; simp at this; omega);exact ⟨g, e⟩
     subst hB5;obtain ⟨A3, n3, c3, B3, m3, d3, hrg3, hok3⟩ := HI.out.1.kid (k := j) (by rw [<- HN5.out]; omega);obtain ⟨y, hy⟩ : ∃ x, x = ak S j := ⟨_, rfl⟩;rw [<- hy] at hrg3 hok3;obtain ⟨Ky, hKy⟩ : ∃ K, K = y.kind := ⟨_, rfl⟩;rw [<- hKy] at hrg3;have HY : Hid (ai (fun b => (fun b => w.heap.size + 1 <= b) b /\ some b ≠ some g) wr y A3 n3 c3 B3 m3 d3 /\ Ky = y.kind) := Lh ⟨hok3, hKy⟩;have hjS : S.length - 1 = j := by have := HN5.out; omega
     have h0S : 0 < S.length := by have := HN5.out; omega
     have HSE : Hid (bi M S Nn = S.set j (.mk 4 [] [.mk 1 [] [], y])) := Lh (by unfold bi; rw [hr8]; simp [hjS, h0S, hy]);clear hjS h0S;have HNEW : Hid (∀ w3, Below (wr.alloc (.cells #[.int .i64 1, .slice none 0 0, .slice none 0 0, .int .i64 Ky, .slice A3 n3 c3, .slice B3 m3 d3] 25)).heap.size (wr.alloc (.cells #[.int .i64 1, .slice none 0 0, .slice none 0 0, .int .i64 Ky, .slice A3 n3 c3, .slice B3 m3 d3] 25)) w3 -> az (fun b => w.heap.size + 1 <= b) (w.heap.size + 1) (.slice (some ⟨g, 0, none⟩) N5 d5) S w3 /\ aP (fun b => (fun b => w.heap.size + 1 <= b) b /\ some b ≠ some g) w3 (.mk 4 [] [.mk 1 [] [], y]) (.slice none 0 0) (.slice (some ⟨wr.heap.size, 0, none⟩) 2 2)) := Lh fun w3 hb3 => by
      have hk : aa (wr.alloc (.cells #[.int .i64 1, .slice none 0 0, .slice none 0 0, .int .i64 Ky, .slice A3 n3 c3, .slice B3 m3 d3] 25)) wr.heap.size [.int .i64 1, .slice none 0 0, .slice none 0 0, .int .i64 Ky, .slice A3 n3 c3, .slice B3 m3 d3] 25 := aa.at wr _ _ 25 _ rfl rfl;have hb : Below wr.heap.size wr w3 := ae (ag wr _) hb3;have hy3 := HY.out.1.below hb;have hg9 := HO.out.lt g rfl;refine ⟨HI.out.1.below hb, (jm 4 (by constructor <;> decide) (aG.app (aG.one (ai.flat _ w3 (K := 1) (by constructor <;> decide)).q) (aG.one hy3.q)) (by simp) (by have h1 := hk.below hb3 hk.lt; rw [HY.out.2] at h1; exact h1) ⟨by have := HSZ.out; omega, fun e => by have := Option.some.inj e; omega⟩).q⟩
     have HFIN : Hid (∀ w3 w9, Below (wr.alloc (.cells #[.int .i64 1, .slice none 0 0, .slice none 0 0, .int .i64 Ky, .slice A3 n3 c3, .slice B3 m3 d3] 25)).heap.size (wr.alloc (.cells #[.int .i64 1, .slice none 0 0, .slice none 0 0, .int .i64 Ky, .slice A3 n3 c3, .slice B3 m3 d3] 25)) w3 -> az (fun b => w.heap.size + 1 <= b) (w.heap.size + 1) (.slice (some ⟨g, 0, none⟩) N5 d5) (S.set j (.mk 4 [] [.mk 1 [] [], y])) w9 /\ w3.grownBy w9 (some g) -> az (fun b => w.heap.size + 1 <= b) (w.heap.size + 1) (.slice (some ⟨g, 0, none⟩) N5 d5) (bi M S Nn) w9 /\ Below (w.alloc zR).heap.size (w.alloc zR) w9) := Lh fun w3 w9 hb3 h => by
      rw [HSE.out];exact ⟨h.1, dJ (ae HI.out.2.2 (ae (ag wr _) hb3)) h.2 (fun g' hg' => by obtain rfl := Option.some.inj hg'; have := (HO.out.lt g rfl).1; simp; omega)⟩
     clear hr8 hN0 hN1 hAq hil hj hy hKy hok3
     go_wp2_with (first
      |((with_reducible refine (HA.out _).mono ?_); rintro e w2 ⟨rfl, rfl⟩)
      |(refine aA rfl (.tmp 159) rfl g (j * 3) rfl Ky A3 B3 n3 c3 m3 d3 hrg3 ?_)
      |((with_reducible refine (iB 4 (some ⟨wr.heap.size, 0, none⟩) 2 2 (wr.alloc (.cells #[.int .i64 1, .slice none 0 0, .slice none 0 0, .int .i64 Ky, .slice A3 n3 c3, .slice B3 m3 d3] 25))).mono ?_); rintro e w3 ⟨rfl, hb3⟩; have H3 := Lh hb3; have HN3 := Lh (HNEW.out w3 hb3); clear hb3)
      |(refine kT rfl (.tmp 163) (.tmp 162) rfl HN3.out.1 HN5.out hjN rfl (.mk 4 [] [.mk 1 [] [], y]) 4 rfl none (some ⟨wr.heap.size, 0, none⟩) 0 0 2 2 rfl HN3.out.2 ?_; intro w9 hw9; have HX9 := Lh (HFIN.out w3 w9 H3.out hw9); clear hw9))
     go_roundg gg
     case rel => exact ⟨i + 1, bi M S Nn, by omega, by go_num, Lh ⟨HX9.out.1, HSN.out, HX9.out.2⟩⟩
     case measure => omega
    ·skip
     have t2 : decide ((0 : Int) < (N5 : Int)) = false := dF (by omega);have hr1 : Nn.tmod 8 = 6 := by rw [(dD hN0 8).1]; exact hr8
     have hq1 : Nn.tdiv 8 = Aq := by rw [(dD hN0 8).2, hAq]
     have h0S : ¬ 0 < S.length := by have := HN5.out; omega
     have HSE : Hid (bi M S Nn = S) := Lh (by unfold bi; rw [hr8]; simp [h0S]; try omega);clear h0S;have HX9 : Hid (az (fun b => w.heap.size + 1 <= b) (w.heap.size + 1) (.slice B5 N5 d5) (bi M S Nn) wr) := Lh (by rw [HSE.out]; exact HI.out.1);clear hr8 hN0 hN1 hAq hil
     go_wp2_with ((with_reducible refine (HA.out _).mono ?_); rintro e w2 ⟨rfl, rfl⟩)
     go_roundg gg
     case rel => exact ⟨i + 1, bi M S Nn, by omega, by go_num, Lh ⟨HX9.out, HSN.out, HI.out.2.2⟩⟩
     case measure => omega
   ·as_aux_lemma =>
     obtain ⟨Z, hZ⟩ : ∃ Z, Z = Aq % 8 := ⟨_, rfl⟩;have hz81 : Aq.tmod 8 = Z := by rw [(dD hA0 8).1, hZ]
     have hz82 : Aq % 8 = Z := hZ.symm;obtain ⟨Lf, hLf⟩ : ∃ L, L = min 1 Z := ⟨_, rfl⟩;have hlf1 : min 1 Z = Lf := hLf.symm;have HLF : Hid (0 <= Lf /\ Lf <= 1) := Lh (by omega);have HSE : Hid (bi M S Nn = S ++ [.mk Lf [] []]) := Lh (by unfold bi; rw [hr8, hLf, hZ, hAq]; simp);clear hLf hZ;have hr1 : Nn.tmod 8 = 7 := by rw [(dD hN0 8).1]; exact hr8
     have hq1 : Nn.tdiv 8 = Aq := by rw [(dD hN0 8).2, hAq]
     have HAPP : Hid (∀ v9 w9, w9.ownsRow (w.heap.size + 1) 25 3 v9 (N5 + 1) (xs ++ (zV Lf none 0 0 none 0 0)) -> (wr.alloc (zC Lf none 0 0 none 0 0)).grownBy w9 (Value.ownBlock (.slice B5 N5 d5)) -> (v9.ownBlock = Value.ownBlock (.slice B5 N5 d5) \/ v9.ownBlock = some (wr.alloc (zC Lf none 0 0 none 0 0)).heap.size) -> az (fun b => w.heap.size + 1 <= b) (w.heap.size + 1) v9 (bi M S Nn) w9 /\ Below (w.alloc zR).heap.size (w.alloc zR) w9) := Lh fun v9 w9 h1 h2 h3 => by
      have hrr : ai (fun b => wr.heap.size <= b) wr (.mk Lf [] []) none 0 0 none 0 0 := ai.flat _ wr (by have := HLF.out; constructor <;> omega);rw [HSE.out];exact ⟨nR HC.out HO.out HN5.out (fun b hb => by have := HSZ.out; omega) (Below.refl _ _) rfl hrr h1 h2 h3, dJ (aB HI.out.2.2 _) h2 (fun g hg => by have := (HO.out.lt _ hg).1; simp; omega)⟩
     clear hr8 hN0 hN1 hAq hil
     go_wp2_with (first
      |((with_reducible refine (HA.out _).mono ?_); rintro e w2 ⟨rfl, rfl⟩)
      |(at_builtin; refine eu rfl (.tmp 167) (.tmp 172) 23 23 rfl (w.heap.size + 1) 25 i0 _ 3 56 Tryz.underlying23 hi0 hz0 hz1 hz2 rfl _ _ _ rfl (dW HO.out (aB (Below.refl _ _) _)) _ 1 (zV Lf none 0 0 none 0 0) rfl (gP hz1 wr _ _ _ _ _ _ _) hs1 hs2 (by have h1 := HSZ.out; simp; omega) ?_; intro v9 w9 hown9 hg9 hat9; have HX9 := Lh (HAPP.out v9 w9 hown9 hg9 hat9); clear hown9 hg9 hat9))
     go_roundg gg
     case rel => exact ⟨i + 1, bi M S Nn, by omega, by go_num, Lh ⟨HX9.out.1, HSN.out, HX9.out.2⟩⟩
     case measure => omega
  ·obtain rfl : T = i := by omega
   have HE : Hid (gy M (l.take 16) = S) := Lh (by
    rw [HI.out.2.1]
    congr 1
    by_cases h : T < n
    ·rw [hT2 h]
    ·rw [List.take_of_length_le (by have := HX.out.1; omega), List.take_of_length_le (by have := HX.out.1; omega)])
   have HBX := Lh (HB1.out.1.below HI.out.2.2 HB1.out.1.lt)
   by_cases h1 : N5 = 1
   ·obtain ⟨g, hB5⟩ : ∃ g, B5 = some ⟨g, 0, none⟩ := by
     obtain ⟨B', d', hv', _, _, _, hgg⟩ := HI.out.1.e;simp only [Value.slice.injEq] at hv';obtain ⟨rfl, _⟩ := hv';obtain ⟨g, e, _⟩ := hgg (fun e => by have := HN5.out; rw [e] at this; simp at this; omega);exact ⟨g, e⟩
    subst hB5 h1;obtain ⟨A3, n3, c3, B3, m3, d3, hrg3, hok3⟩ := HI.out.1.kid (k := 0) (by rw [<- HN5.out]; omega);obtain ⟨Ky, hKy⟩ : ∃ K, K = (ak S 0).kind := ⟨_, rfl⟩;rw [<- hKy, Nat.zero_mul] at hrg3;have HSP : Hid (fD M l = ak S 0 /\ Ky = (ak S 0).kind) := Lh ⟨by unfold fD; rw [HE.out, if_pos HN5.out.symm], hKy⟩;have HOK := Lh hok3;have HFIN : Hid (∀ w9, aK wr w9 w.heap.size (zV Ky A3 n3 c3 B3 m3 d3) 25 -> aa w9 w.heap.size (zV Ky A3 n3 c3 B3 m3 d3) 25 /\ dn (fun _ => False) w (fD M l) (.returned (.agg #[.int .i64 Ky, .slice A3 n3 c3, .slice B3 m3 d3])) w9) := Lh fun w9 hst => ⟨hst.1, by
     rw [HSP.out.1, HSP.out.2];exact ⟨A3, n3, c3, B3, m3, d3, rfl, (HOK.out.grown (bv hst) (fun b hb e => by have := Option.some.inj e; have := hb.1; omega)).mono (fun b hb => .inr (by have := hb.1; omega)), hst.below (ae HB1.out.2.1 HI.out.2.2) (Nat.le_refl _)⟩⟩
    clear hKy hok3
    by_cases h : T < n
    focus
     have hTe := hT2 h;have hd1 : decide ((T : Int) < 16) = false := dF (by omega);have hd2 : decide (T < 16) = false := dF (by omega);clear hTe
    all_goals
     clear hT2
     go_wp2_with (first
      |(refine aA rfl (.tmp 178) rfl g (0) rfl Ky A3 B3 n3 c3 m3 d3 hrg3 ?_)
      |(refine wB rfl 25 (.tmp 4) (.tmp 179) rfl w.heap.size 0 rfl (zV Ky A3 n3 c3 B3 m3 d3) rfl HBX.out 3 au ?_; intro w9 hst9; have H9 := Lh (HFIN.out w9 hst9); clear hst9))
     exact bM rfl w.heap.size rfl (C := (zV Ky A3 n3 c3 B3 m3 d3)) (T := 25) H9.out.1 _ Tryz.underlying25 rfl au rfl H9.out.2
   ·have e1 : ((N5 : Int) == 1) = false := bF (by omega);have e2 : decide (N5 = 1) = false := dF h1;have HSP : Hid (fD M l = .mk 3 [] S) := Lh (by unfold fD; rw [HE.out, if_neg (by rw [<- HN5.out]; exact h1)]);have HRW : Hid (ai (fun b => w.heap.size + 1 <= b) wr (.mk 3 [] S) none 0 0 B5 N5 d5) := Lh (by
     obtain ⟨B9, d9, hv9, z1, z2, z3, z4⟩ := HI.out.1.e;simp only [Value.slice.injEq] at hv9;obtain ⟨rfl, hn9, rfl⟩ := hv9;exact ai.make (by constructor <;> decide) (fun x hx => (by cases hx)) rfl (Nat.le_refl _) (Nat.zero_le _) (.inl rfl) (fun h => absurd rfl h) hn9 (by rw [hn9]; exact z1) z2 (z3.mono fun b hb => hb.1) (fun hne b o e => by
      obtain ⟨g, e2, h1, h2⟩ := z4 hne;rw [e] at e2;obtain ⟨rfl, _⟩ : b = g /\ o = 0 := by simpa using e2
      exact h1))
    have HFIN : Hid (∀ w3, Below wr.heap.size wr w3 -> aa w3 w.heap.size zL 25 /\ ∀ w9, aK w3 w9 w.heap.size (zV 3 none 0 0 B5 N5 d5) 25 -> aa w9 w.heap.size (zV 3 none 0 0 B5 N5 d5) 25 /\ dn (fun _ => False) w (fD M l) (.returned (.agg #[.int .i64 3, .slice none 0 0, .slice B5 N5 d5])) w9) := Lh fun w3 hb => ⟨HBX.out.below hb HBX.out.lt, fun w9 hst => ⟨hst.1, by
     rw [HSP.out];exact ⟨none, 0, 0, B5, N5, d5, rfl, ((HRW.out.below hb).grown (bv hst) (fun b hb e => by have := Option.some.inj e; omega)).mono (fun b hb => .inr (by omega)), hst.below (ae (ae HB1.out.2.1 HI.out.2.2) hb) (Nat.le_refl _)⟩⟩⟩
    clear h1
    by_cases h : T < n
    focus
     have hTe := hT2 h;have hd1 : decide ((T : Int) < 16) = false := dF (by omega);have hd2 : decide (T < 16) = false := dF (by omega);clear hTe
    all_goals
     clear hT2
     go_wp2_with (first
      |((with_reducible refine (iB 3 B5 N5 d5 wr).mono ?_); rintro e w3 ⟨rfl, hb3⟩; have H3 := Lh (HFIN.out w3 hb3); clear hb3)
      |(refine wB rfl 25 (.tmp 4) (.tmp 181) rfl w.heap.size 0 rfl (zV 3 none 0 0 B5 N5 d5) rfl H3.out.1 3 au ?_; intro w9 hst9; have H9 := Lh (H3.out.2 w9 hst9); clear hst9))
     exact bM rfl w.heap.size rfl (C := (zV 3 none 0 0 B5 N5 d5)) (T := 25) H9.out.1 _ Tryz.underlying25 rfl au rfl H9.out.2
theorem GI (l : List Int) (A : Option Addr) (n c : Nat) (hn : n = l.length) (hnc : n <= c) (hcm : c <= 9223372036854775807) (hl : ∀ x ∈ l, bI x) (w : World) (hr : Rd w A (iv l)) : Calls Tryz.prog 12 #[.slice A n c] w (dn (fun _ => False) w (fD 3 l)) := by
 have hb1 : Below w.heap.size w (w.alloc zR) := ag w _;have HSH : Hid (Calls Tryz.prog 37 #[.slice A n c, .int .i64 3] (w.alloc zR) (dn (fun _ => False) (w.alloc zR) (fD 3 l))) := Lh (CY l 3 (by decide) (by decide) A n c hn hnc hcm hl (w.alloc zR) (hr.below hb1));have HFIN : Hid (∀ w3 K9 A9 n9 c9 B9 m9 d9, K9 = (fD 3 l).kind -> ai (fun b => False \/ (w.alloc zR).heap.size <= b) w3 (fD 3 l) A9 n9 c9 B9 m9 d9 -> Below (w.alloc zR).heap.size (w.alloc zR) w3 -> aa w3 w.heap.size zL 25 /\ ∀ w9, aK w3 w9 w.heap.size (zV K9 A9 n9 c9 B9 m9 d9) 25 -> aa w9 w.heap.size (zV K9 A9 n9 c9 B9 m9 d9) 25 /\ dn (fun _ => False) w (fD 3 l) (.returned (.agg #[.int .i64 K9, .slice A9 n9 c9, .slice B9 m9 d9])) w9) := Lh fun w3 K9 A9 n9 c9 B9 m9 d9 hK h hb => by
  have hk : aa (w.alloc zR) w.heap.size zL 25 := aa.at w _ _ 25 _ rfl rfl;have hsz : (w.alloc zR).heap.size = w.heap.size + 1 := by simp
  refine ⟨hk.below hb hk.lt, fun w9 hst => ⟨hst.1, ?_⟩⟩;rw [hK];exact ⟨A9, n9, c9, B9, m9, d9, rfl, (h.grown (bv hst) (fun b hb e => by have := Option.some.inj e; rcases hb with hb | hb; exact hb; omega)).mono (fun b hb => .inr (by rcases hb with hb | hb; exact hb.elim; omega)), hst.below (ae hb1 hb) (Nat.le_refl _)⟩
 clear hn hnc hcm hl hr hb1;go_enter Tryz.func12, Tryz.ntmps12
 go_wp2_with (first
  |((with_reducible refine HSH.out.mono ?_); rintro e w3 hp; obtain ⟨A9, n9, c9, B9, m9, d9, rfl, hx, hb⟩ := bV hp; obtain ⟨K9, hK9⟩ : ∃ K, K = (fD 3 l).kind := ⟨_, rfl⟩; rw [<- hK9]; have H3 := Lh (HFIN.out w3 K9 A9 n9 c9 B9 m9 d9 hK9 hx hb); clear hp hx hb hK9)
  |(refine wB rfl 25 (.tmp 2) (.tmp 4) rfl w.heap.size 0 rfl (zV K9 A9 n9 c9 B9 m9 d9) rfl H3.out.1 3 au ?_; intro w9 hst9; have H9 := Lh (H3.out.2 w9 hst9); clear hst9))
 exact bM rfl w.heap.size rfl (C := (zV K9 A9 n9 c9 B9 m9 d9)) (T := 25) H9.out.1 _ Tryz.underlying25 rfl au rfl H9.out.2
structure aj (W : World) (b : Nat) (r : Rx) (K : Int) (A : Option Addr) (n c : Nat) (B : Option Addr) (m d : Nat) : Prop where
 rg : W.rangeAt b 0 (zV K A n c B m d)
 ox : aC W r A n c B m d
 hK : K = r.kind
def kF (W : World) (r : Rx) (e : Ending) (w' : World) : Prop := ∃ K A n c B m d, e = .returned (.agg #[.int .i64 K, .slice A n c, .slice B m d]) /\ K = r.kind /\ ai (fun b => W.heap.size <= b) w' r A n c B m d /\ Below W.heap.size W w'
section
variable {W W2 : World} {b : Nat} {r : Rx} {K : Int} {A : Option Addr} {n c : Nat} {B : Option Addr} {m d : Nat}
theorem iZ {e : Ending} (h : kF W r e W2) : ∃ K A n c B m d, e = .returned (.agg #[.int .i64 K, .slice A n c, .slice B m d]) /\ K = r.kind /\ ai (fun b => W.heap.size <= b) W2 r A n c B m d /\ Below W.heap.size W W2 := h
theorem aj.below (h : aj W b r K A n c B m d) (hb : Below W.heap.size W W2) : aj W2 b r K A n c B m d := ⟨fun j u hu => (hb.cell (p := ⟨b, 0 + j, none⟩) (World.block_lt_of_cell? W _ (h.rg j u hu))).trans (h.rg j u hu), h.ox.below hb, h.hK⟩
theorem aj.new (hb : aa W2 b (zV K A n c B m d) 25) (hbl : Below W.heap.size W W2) (ho : aC W r A n c B m d) (hK : K = r.kind) : aj W2 b r K A n c B m d := ⟨aM hb, ho.below hbl, hK⟩
theorem pJ (h : aC W r A n c B m d) (hK : K = r.kind) (hd : DB W) (hc : av r <= 1000000) (s : Rx) (hs : s = bJ r) : Calls Tryz.prog 19 #[.agg #[.int .i64 K, .slice A n c, .slice B m d]] W (kF W s) := by
 subst hK hs;exact (qi hd r (by omega) h).mono fun e w' hp => by
  obtain ⟨A, n, c, B, m, d, rfl, hx, hb⟩ := bV hp;exact ⟨_, A, n, c, B, m, d, rfl, rfl, hx.mono (fun b hb => hb.elim (fun h => h.elim) id), hb⟩
theorem wH (h : aC W r A n c B m d) (hK : K = r.kind) (hd : DB W) (hc : av r <= 1000000) (s : Rx) (hs : s = bJ (aV r)) : Calls Tryz.prog 21 #[.agg #[.int .i64 K, .slice A n c, .slice B m d]] W (kF W s) := by
 subst hK hs;exact (wE hd r (by omega) h).mono fun e w' hp => by
  obtain ⟨A, n, c, B, m, d, rfl, hx, hb⟩ := bV hp;exact ⟨_, A, n, c, B, m, d, rfl, rfl, hx.mono (fun b hb => hb.elim (fun h => h.elim) id), hb⟩
theorem tu (h : aC W r A n c B m d) (hK : K = r.kind) (hd : DB W) (hc : av r <= 1000000) (x : Int) (s : Rx) (hs : s = fZ x r) : Calls Tryz.prog 24 #[.agg #[.int .i64 K, .slice A n c, .slice B m d], .int .i64 x] W (kF W s) := by
 subst hK hs;exact (rG hd x r hc h).mono fun e w' hp => by
  obtain ⟨A, n, c, B, m, d, rfl, hx, hb⟩ := bV hp;exact ⟨_, A, n, c, B, m, d, rfl, rfl, hx.mono (fun b hb => hb.elim (fun h => h.elim) id), hb⟩
theorem qd {r2 : Rx} {K2 : Int} {A2 : Option Addr} {n2 c2 : Nat} {B2 : Option Addr} {m2 d2 : Nat} (h : aC W r A n c B m d) (hK : K = r.kind) (h2 : aC W r2 A2 n2 c2 B2 m2 d2) (hK2 : K2 = r2.kind) (he : r = r2) : Calls Tryz.prog 18 #[.agg #[.int .i64 K, .slice A n c, .slice B m d], .agg #[.int .i64 K2, .slice A2 n2 c2, .slice B2 m2 d2]] W (aI W true) := pF hK hK2 true (by rw [he, qM]; rfl) h h2
theorem qX (h : aC W r A n c B m d) (hK : K = r.kind) (V : Bool) (hV : V = ay r) : Calls Tryz.prog 14 #[.agg #[.int .i64 K, .slice A n c, .slice B m d]] W (aI W V) := jw hK h V hV
theorem ku (h : aC W r A n c B m d) (hK : K = r.kind) (hcnt : av r <= 30000) (l : List Int) (A2 : Option Addr) (n2 c2 : Nat) (hn2 : n2 = l.length) (hc2 : n2 <= c2) (hm2 : c2 <= 9223372036854775807) (hl9 : n2 <= 1000000000) (hL : Rd W A2 (iv l)) (V : Bool) (hV : V = true ↔ (ay r = true /\ bf r l)) : Calls Tryz.prog 28 #[.agg #[.int .i64 K, .slice A n c, .slice B m d], .slice A2 n2 c2] W (aI W V) := by
 subst hK;exact rz h hcnt l A2 n2 c2 hn2 hc2 hm2 hl9 hL V hV
theorem qZ (l : List Int) (A : Option Addr) (n c : Nat) (hn : n = l.length) (hnc : n <= c) (hcm : c <= 9223372036854775807) (hl : ∀ x ∈ l, bI x) (w : World) (hr : Rd w A (iv l)) : Calls Tryz.prog 12 #[.slice A n c] w (kF w (fD 3 l)) := (GI l A n c hn hnc hcm hl w hr).mono fun e w' hp => by
 obtain ⟨A, n, c, B, m, d, rfl, hx, hb⟩ := bV hp;exact ⟨_, A, n, c, B, m, d, rfl, rfl, hx.mono (fun b hb => hb.elim (fun h => h.elim) id), hb⟩
theorem sU (hd : DB W) : Calls Tryz.prog 23 #[] W (aI W true) := Gz W hd
end
theorem tQ {w : World} {ops : Array Oper} {o : Oper} {a : Act} {KK : Act -> World -> Prop} {Q : Exit -> Act -> World -> Prop} {E : Prop} (hgd : o.guard = none) (x y : Operand) (ho : o.op = .store 25 x y) (g : Nat) (hx : a.eval x = .pointer (some ⟨g, 0, none⟩)) (K : Int) (A B : Option Addr) (n c m d : Nat) (hy : a.eval y = .agg #[.int .i64 K, .slice A n c, .slice B m d]) {C : List Value} (hb : aa w g C 25) (hC : C.length = 3)
  (hw : ∀ w1, aK w w1 g (zV K A n c B m d) 25 -> KK (a.put o.dst undef) w1) : if Region.wanted o (yielded ops a.tmps) = true then Oper.wp Tryz.prog o a w KK Q else E := by
 rw [if_pos (by simp [Region.wanted, hgd])];refine wp_store_mid 25 x y ho g 0 #[.int .i64 K, .slice A n c, .slice B m d] hx hy (hb.there 0 3 (by omega)) au (by simp [Value.oneCell']) ?_;have h := aK.of_setCells hb 0 (zV K A n c B m d) (by simp; omega);rw [List.take_zero, List.nil_append, List.drop_of_length_le (by simp; omega), List.append_nil] at h;exact hw _ h
theorem lK (l : List Int) : ay (fD 3 l) = true /\ av (fD 3 l) <= 33 := zn (by decide) (by decide) l
theorem p8 {r : Rx} (h : ay r = true) : bJ r = normR false r := by unfold bJ; rw [if_pos h]
theorem sP {r : Rx} (h : NF r) : bJ r = r := by rw [p8 h.val]; exact rC h
theorem rT {r : Rx} (h : ay r = true) : bJ (aV r) = normR true r := by rw [p8 (by rw [CL]; exact h), F4 h]
theorem Dl {r : Rx} (h : ay r = true) : bJ (aV (bJ (aV r))) = bJ r := by
 rw [rT h, rT (NF.normR true h).val, CB h, p8 h]
theorem F3 {r : Rx} (x : Int) (h : ay r = true) : NF (fZ x r) := by
 unfold fZ;rw [if_pos h];exact NF.dp x (NF.normR false h).val
theorem Gj {r : Rx} (x : Int) (h : ay r = true) : av (fZ x r) <= av r * av r := by
 unfold fZ;rw [if_pos h];have h1 := lJ (s := x) (NF.normR false h).val;have h2 := kM false h;have h3 := iN (Int.le_of_lt (by have := cO (normR false r); omega)) h2;omega
def kD (n : Int) : Int := if n.tmod 5 = 4 then n else gD n 4
theorem symP_in {n : Int} (h : bI n) : bI (kD n) := by
 unfold kD
 split
 ·exact h
 ·have := p9 n (m := 4) (by omega);constructor <;> omega
theorem Ba (n : Int) (hn : bI n) (w : World) : Calls Tryz.prog 26 #[.int .i64 n] w fun e w' => e = .returned (.int .i64 (kD n)) /\ w = w' := by
 have HA : Hid (∀ W, Calls Tryz.prog 58 #[.int .i64 n, .int .i64 4] W fun e w' => e = .returned (.int .i64 (gD n 4)) /\ W = w') := Lh fun W => rM n 4 (by have := hn.1; omega) (by have := hn.2; omega) (by omega) (by omega) W
 by_cases h : n.tmod 5 = 4
 ·have HS : Hid (n = kD n) := Lh (by unfold kD; rw [if_pos h]);have e2 : (n.tmod 5 == 4) = true := bT h;clear h hn;go_enter Tryz.func26, Tryz.ntmps26;go_wp2_with fail;go_ret;exact ⟨qy HS.out, rfl⟩
 ·have HS : Hid (gD n 4 = kD n) := Lh (by unfold kD; rw [if_neg h]);have e2 : (n.tmod 5 == 4) = false := bF h;clear h hn;go_enter Tryz.func26, Tryz.ntmps26
  go_wp2_with ((with_reducible refine (HA.out _).mono ?_); rintro e w3 ⟨rfl, rfl⟩)
  go_ret;exact ⟨qy HS.out, rfl⟩
namespace Rgx
def fM (r : Rx) (l : List Int) : Bool := aL (l.foldl (fun x s => cZ s x) r)
theorem ig {r : Rx} (h : ay r = true) (l : List Int) : fM r l = true ↔ bf r l := (rQ h l).symm
theorem kJ {r : Rx} (h : ay r = true) (l : List Int) : fM r l = true ↔ (ay r = true /\ bf r l) := by rw [ig h]; exact ⟨fun g => ⟨h, g⟩, fun g => g.2⟩
def jG (x y : Rx) (u : List Int) (i : Nat) : Bool := (List.range i).any fun j => fM x (u.take j) && fM y (u.drop j)
def jo (x s : Rx) (u : List Int) (i : Nat) : Bool := decide (u.length = 0) || (List.range i).any fun j => decide (0 < j) && fM x (u.take j) && fM s (u.drop j)
theorem Fw (x y : Rx) (u : List Int) (i : Nat) : jG x y u (i + 1) = (jG x y u i || (fM x (u.take i) && fM y (u.drop i))) := by
 unfold jG;rw [List.range_succ, List.any_append];simp
theorem ES (x s : Rx) (u : List Int) (i : Nat) : jo x s u (i + 1) = (jo x s u i || (decide (0 < i) && fM x (u.take i) && fM s (u.drop i))) := by
 unfold jo;rw [List.range_succ, List.any_append, Bool.or_assoc];simp
theorem qg {x y : Rx} (hx : ay x = true) (hy : ay y = true) : ay (.mk 3 [] [x, y]) = true /\ ay (.mk 4 [] [x, y]) = true /\ ay (.mk 5 [] [x]) = true := by
 refine ⟨?_, ?_, ?_⟩ <;> (rw [gH]; simp [Rx.kind, Rx.syms, Rx.kids, hx, hy])
theorem sF {a b : Bool} (h : a = true ↔ b = true) : a = b := by cases a <;> cases b <;> simp_all
theorem Fb {x y : Rx} (hx : ay x = true) (hy : ay y = true) (u : List Int) : fM (.mk 4 [] [x, y]) u = (fM x u || fM y u) := by
 apply sF
 rw [ig (qg hx hy).2.1, Bool.or_eq_true, ig hx, ig hy];simp [bf, il]
theorem FO {x y : Rx} (u : List Int) : cK [x, y] u ↔ ∃ j, j <= u.length /\ bf x (u.take j) /\ bf y (u.drop j) := by
 constructor
 ·intro h;rw [cK] at h;obtain ⟨a, b, e, h1, h2⟩ := h;rw [cK] at h2;obtain ⟨c, d, e2, h3, h4⟩ := h2;rw [cK] at h4;subst h4;rw [List.append_nil] at e2;subst e2;refine ⟨a.length, ?_, ?_, ?_⟩
  ·rw [e]; simp
  ·rw [e]; simpa using h1
  ·rw [e]; simpa using h3
 ·rintro ⟨j, hj, h1, h2⟩;rw [cK];refine ⟨u.take j, u.drop j, (List.take_append_drop j u).symm, h1, ?_⟩;rw [cK];exact ⟨u.drop j, [], (List.append_nil _).symm, h2, by rw [cK]⟩
theorem Di {x y : Rx} (hx : ay x = true) (hy : ay y = true) (u : List Int) : fM (.mk 3 [] [x, y]) u = jG x y u (u.length + 1) := by
 apply sF
 rw [ig (qg hx hy).1];unfold jG;rw [List.any_eq_true];have e : bf (.mk 3 [] [x, y]) u ↔ cK [x, y] u := by simp [bf]
 rw [e, FO];constructor
 ·rintro ⟨j, hj, h1, h2⟩;exact ⟨j, List.mem_range.2 (by omega), by rw [(ig hx _).2 h1, (ig hy _).2 h2]; rfl⟩
 ·rintro ⟨j, hj, h⟩;rw [Bool.and_eq_true] at h;exact ⟨j, by have := List.mem_range.1 hj; omega, (ig hx _).1 h.1, (ig hy _).1 h.2⟩
theorem BD {P : List Int -> Prop} {u : List Int} : bK P u ↔ u = [] \/ ∃ j, 0 < j /\ j <= u.length /\ P (u.take j) /\ bK P (u.drop j) := by
 constructor
 ·intro h
  cases h with
  |nil => exact .inl rfl
  |app h1 h2 h3 =>
   rename_i a b
   refine .inr ⟨a.length, List.length_pos_iff.2 h2, by simp, by simpa using h1, by simpa using h3⟩
 ·rintro (h | ⟨j, h0, hj, h1, h2⟩)
  ·subst h; exact .nil
  ·have h3 := bK.app h1 (by intro e; have := congrArg List.length e; rw [List.length_take] at this; simp only [List.length_nil] at this; omega) h2
   rwa [List.take_append_drop] at h3
theorem FH {x : Rx} (hx : ay x = true) (u : List Int) : fM (.mk 5 [] [x]) u = jo x (.mk 5 [] [x]) u (u.length + 1) := by
 have hs := (qg hx hx).2.2
 apply sF
 rw [ig hs];unfold jo;rw [Bool.or_eq_true, decide_eq_true_eq, List.any_eq_true];rw [iC, BD];constructor
 ·rintro (h | ⟨j, h0, hj, h1, h2⟩)
  ·exact .inl (by rw [h]; rfl)
  ·refine .inr ⟨j, List.mem_range.2 (by omega), ?_⟩;rw [dT h0, (ig hx _).2 h1, (ig hs _).2 ((iC _).2 h2)]
   rfl
 ·rintro (h | ⟨j, hj, h⟩)
  ·exact .inl (List.eq_nil_of_length_eq_zero h)
  ·simp only [Bool.and_eq_true, decide_eq_true_eq] at h;exact .inr ⟨j, h.1.1, by have := List.mem_range.1 hj; omega, (ig hx _).1 h.1.2, (iC _).1 ((ig hs _).1 h.2)⟩
end Rgx
end Go.Proofs.YtakcjlimbabbfaaGreatDoor
