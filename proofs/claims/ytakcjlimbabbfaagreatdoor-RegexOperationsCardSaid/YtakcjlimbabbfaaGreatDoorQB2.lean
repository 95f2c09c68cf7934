/- Part of the proof. -/
import Derived.Test.YtakcjlimbabbfaaGreatDoorQB1
set_option linter.unusedVariables false
set_option linter.unusedSimpArgs false
set_option maxRecDepth 1000000
set_option maxHeartbeats 8000000
namespace Go.Proofs.YtakcjlimbabbfaaGreatDoor
open Go.RowKit
open Alp
open Rgx
theorem Dw (q : Nat -> Prop) (base n : Nat) (h1 : 1 <= n) (hn : n <= 2000000000000) (w : World) (hb : base <= w.heap.size) : Calls Tryz.prog 150 #[.slice none 0 0, .int .i64 n] w fun e w' => ∃ v, e = .returned v /\ az q base v [] w' /\ Below w.heap.size w w' := by
 obtain ⟨i0, hi0, hz0, hz1, hz2⟩ := info_parts iq;have h := Any8.slices_Grow_grow (P := Tryz.prog) (ρ := tX) Tryz.growRx i0 _ hi0 hz0 (by omega) none 0 0 n [] w (Nat.le_refl _) (by omega) (by rw [hz2]; omega) (by omega) (by simp) (fun _ => rfl) (fun a e => by cases e);refine Calls.mono h ?_;rintro e w' ⟨rfl, rfl⟩;refine ⟨_, rfl, ⟨[], aG.nil _ _, rfl, .inr ⟨w.heap.size, _, _, rfl, hb, heap_alloc_new w.drew _, Nat.zero_le _, grownCap_le_maxLen w _ _ _ (by unfold maxLen; omega), ?_, by simp⟩⟩, aB (Below.refl _ _).drew _⟩;have h2 := grownCap_ge w (0 + n) 0 25;have h3 : (Value.agg #[.int .i64 0, .slice none 0 0, .slice none 0 0]).cells.size = 3 := rfl;simp only [Array.size_append, size_zeroCells, h3, List.size_toArray, List.length_nil];have h4 : tX.t 25 = 25 := rfl;rw [h4];omega
def eG (ks : Nat -> List Rx) : Nat -> List Rx
 |0 => []
 |i + 1 => eG ks i ++ ks i
theorem ui (ks : Nat -> List Rx) {i N : Nat} (h : i <= N) : (eG ks i).length <= (eG ks N).length := by
  induction N with
  | zero => obtain rfl : i = 0 := by omega
            exact Nat.le_refl _
  | succ N ih =>
    by_cases e : i = N + 1
    · subst e; exact Nat.le_refl _
    · have := ih (by omega)
      rw [eG, List.length_append]; omega
theorem xm {p : Nat -> Prop} (N Pb : Nat) (Bf : Nat -> Option Addr) (nf df : Nat -> Nat) (ks : Nat -> List Rx) (w : World) (hN : N <= 1000) (hcell : ∀ i, i < N -> w.cell? ⟨Pb, i, none⟩ = some (.slice (Bf i) (nf i) (df i))) (hrow : ∀ i, i < N -> nf i = (ks i).length /\ aU p w (ks i) (Bf i)) (hp : ∀ b, p b -> b < w.heap.size) (h1 : 1 <= (eG ks N).length) (hT : (eG ks N).length <= 1000000000000) :
  Calls Tryz.prog 125 #[.slice (some ⟨Pb, 0, none⟩) N N] w fun e w' => ∃ v, e = .returned v /\ az (fun b => p b \/ w.heap.size <= b) w.heap.size v (eG ks N) w' /\ Below w.heap.size w w' := by
 obtain ⟨i0, hi0, hz0, hz1, hz2⟩ := info_parts iq;obtain ⟨q, hq⟩ : ∃ q : Nat -> Prop, q = fun b => p b \/ w.heap.size <= b := ⟨_, rfl⟩
 have HQ : Hid ((∀ b, p b -> q b /\ b < w.heap.size) /\ ∀ b, w.heap.size <= b -> q b) := Lh (by subst hq; exact ⟨fun b h => ⟨.inl h, hp b h⟩, fun b h => .inr h⟩);rw [<- hq];have HC := Lh hcell;have HR := Lh hrow;have HT : Hid (1 <= (eG ks N).length /\ (eG ks N).length <= 1000000000000) := Lh ⟨h1, hT⟩;obtain ⟨T, hTe⟩ : ∃ T, T = (eG ks N).length := ⟨_, rfl⟩;have HTE := Lh hTe;clear hq hp hcell hrow h1 hT hTe;go_enter Tryz.func125, Tryz.ntmps125;go_wp2_with fail
 go_loopg [3, 11] N (fun g s3 s11 wr => ∃ (i t : Nat), i + g = N /\ s11 = .int .i64 (i : Int) /\ s3 = .int .i64 (t : Int) /\ Hid (t = (eG ks i).length /\ Below w.heap.size w wr))
 case atStart => exact ⟨0, 0, by omega, rfl, rfl, Lh ⟨rfl, Below.refl _ _⟩⟩
 case round =>
  obtain ⟨i, t, hi, rfl, rfl, HI⟩ := hrel
  by_cases hlt : i < N
  ·obtain ⟨gg, rfl⟩ : ∃ g, gk = g + 1 := ⟨gk - 1, by omega⟩;obtain ⟨Bi, hBi⟩ : ∃ B, B = Bf i := ⟨_, rfl⟩;obtain ⟨ni, hni⟩ : ∃ n, n = nf i := ⟨_, rfl⟩;obtain ⟨di, hdi⟩ : ∃ d, d = df i := ⟨_, rfl⟩;have hci : wr.cell? ⟨Pb, i, none⟩ = some (.slice Bi ni di) := by
    rw [hBi, hni, hdi];exact (HI.out.2.cell (p := ⟨Pb, i, none⟩) (World.block_lt_of_cell? w _ (HC.out i hlt))).trans (HC.out i hlt)
   have htn : t + ni <= 1000000000000 := by
    have e1 := HI.out.1;have e2 := (HR.out i hlt).1;have e3 := ui ks (show i + 1 <= N by omega);rw [eG, List.length_append] at e3;have := HT.out.2;omega
   have HNI : Hid (t + ni = (eG ks (i + 1)).length) := Lh (by rw [eG, List.length_append, hni, HI.out.1, (HR.out i hlt).1]);have hneg : ¬ ((t : Int) + (ni : Int) < 0) := by omega
   clear hBi hni hdi;go_wp2_with fail
   go_roundg gg
   case rel => exact ⟨i + 1, t + ni, by omega, by go_num, by go_num, Lh ⟨HNI.out, HI.out.2⟩⟩
   case measure => omega
  ·obtain rfl : N = i := by omega
   obtain rfl : t = T := HI.out.1.trans HTE.out.symm
   go_wp2_with ((with_reducible refine (Dw q w.heap.size t (by rw [HI.out.1]; exact HT.out.1) (by have := HT.out.2; have := HI.out.1; omega) wr HI.out.2.size).mono ?_); rintro e w2 ⟨v2, rfl, hr2, hb2⟩; have H2 : Hid (az q w.heap.size v2 [] w2 /\ Below w.heap.size w w2) := Lh ⟨hr2, ae HI.out.2 hb2⟩; clear hr2 hb2)
   go_loopg [6, 27] N (fun g s6 s27 wx => ∃ (i : Nat), i + g = N /\ s27 = .int .i64 (i : Int) /\ Hid (az q w.heap.size s6 (eG ks i) wx /\ Below w.heap.size w wx))
   case atStart => exact ⟨0, by omega, rfl, Lh H2.out⟩
   case round =>
    obtain ⟨j, hj, rfl, HJ⟩ := hrel;obtain ⟨B5, d5, hv, _⟩ := HJ.out.1.e;obtain ⟨N5, hN5⟩ : ∃ N5, N5 = (eG ks j).length := ⟨_, rfl⟩;rw [<- hN5] at hv;subst hv
    by_cases hlt2 : j < N
    ·obtain ⟨g2, rfl⟩ : ∃ g, gk = g + 1 := ⟨gk - 1, by omega⟩;obtain ⟨Bi, hBi⟩ : ∃ B, B = Bf j := ⟨_, rfl⟩;obtain ⟨ni, hni⟩ : ∃ n, n = nf j := ⟨_, rfl⟩;obtain ⟨di, hdi⟩ : ∃ d, d = df j := ⟨_, rfl⟩;have hci : wr.cell? ⟨Pb, j, none⟩ = some (.slice Bi ni di) := by
      rw [hBi, hni, hdi];exact (HJ.out.2.cell (p := ⟨Pb, j, none⟩) (World.block_lt_of_cell? w _ (HC.out j hlt2))).trans (HC.out j hlt2)
     have htn : N5 + ni <= 1000000000000 := by
      have e1 := (HR.out j hlt2).1;have e3 := ui ks (show j + 1 <= N by omega);rw [eG, List.length_append] at e3;have := HT.out.2;omega
     have hs1 : N5 + ni <= maxLen := by unfold maxLen; omega
     have hs2 : (N5 + ni) * 56 <= 140737488355328 := by omega
     obtain ⟨xs, hC, hO⟩ := HJ.out.1;rw [<- hN5] at hO;have HC5 := Lh hC;have HO5 := Lh hO;have hke : aU (fun b => q b /\ some b ≠ (Value.slice B5 N5 d5).ownBlock) wr (ks j) Bi := by
      rw [hBi];exact ((HR.out j hlt2).2.below HJ.out.2).mono fun b hb => ⟨(HQ.out.1 b hb).1, fun e => by have h1 := (hO.lt b e.symm).1; have h2 := (HQ.out.1 b hb).2; omega⟩
     obtain ⟨ys, hys, hsrc⟩ := vD (w := wr) (size := i0.size) hz1 (hni.trans (HR.out j hlt2).1) hke (d := di);have HYS := Lh hys;have HSRC := Lh hsrc;have HNI : Hid (ni = (ks j).length) := Lh (hni.trans (HR.out j hlt2).1);have HN5 := Lh hN5;clear hBi hni hdi hC hO hke hys hsrc htn hN5
     go_wp2_with (at_builtin; refine eu rfl (.tmp 31) (.tmp 32) 23 23 rfl w.heap.size 25 i0 _ 3 56 Tryz.underlying23 hi0 hz0 hz1 hz2 rfl _ _ _ rfl HO5.out _ ni ys rfl HSRC.out hs1 hs2 HJ.out.2.size ?_; intro v9 w9 hown9 hg9 hat9; have HX9 : Hid (az q w.heap.size v9 (eG ks (j + 1)) w9 /\ Below w.heap.size w w9) := Lh ⟨az.app HC5.out (Below.refl _ _) HYS.out HNI.out hg9 hat9 (by rw [<- HN5.out]; exact hown9), dJ HJ.out.2 hg9 (fun g hg => (HO5.out.lt _ hg).1)⟩; clear hown9 hg9 hat9)
     go_roundg g2
     case rel => exact ⟨j + 1, by omega, by go_num, HX9⟩
     case measure => omega
    ·obtain rfl : N = j := by omega
     go_wp2_with fail;go_ret;exact ⟨_, rfl, HJ.out⟩
namespace Rgx
def aT (s : Int) (x : Rx) : Rx := normR false (cZ s x)
theorem NF.dp {x : Rx} (s : Int) (h : ay x = true) : NF (aT s x) := NF.normR false (qL s h)
def eB (s : Int) : List Rx -> List Rx
 |[] => []
 |r :: rs => (if (aT s r).kind ≠ 0 then [seqP (aT s r :: rs)] else []) ++ if aL r then eB s rs else []
theorem Ee {ks : List Rx} (h : ∀ x ∈ ks, NF x) : ks.map (normR false) = ks := by
 induction ks with
 |nil => rfl
 |cons x t ih => rw [List.map_cons, rC (h x (by simp)), ih fun y hy => h y (by simp [hy])]
theorem xQ {s : Int} : ∀ {ks : List Rx}, (∀ x ∈ ks, NF x) -> bA (eB s ks) ((fQ s ks).map (normR false))
 |[], _ => by rw [eB, fQ]; exact bA.refl _
 |r :: rs, h => by
  have ih := xQ (s := s) (ks := rs) fun x hx => h x (by simp [hx])
  have hrs := Ee (ks := rs) fun x hx => h x (by simp [hx])
  have e1 : normR false (.mk 3 [] (cZ s r :: rs)) = seqP (aT s r :: rs) := by
   rw [bX, if_pos (show (Rx.mk 3 [] (cZ s r :: rs)).kind = 3 from rfl)];show seqP ((cZ s r :: rs).map (normR false)) = _;rw [List.map_cons, hrs]; rfl
  rw [eB, fQ, List.map_cons, e1];have hA : bA (if (aT s r).kind ≠ 0 then [seqP (aT s r :: rs)] else []) [seqP (aT s r :: rs)] := by
   by_cases h0 : (aT s r).kind ≠ 0
   ·rw [if_pos h0]; exact bA.refl _
   ·rw [if_neg h0];have h0' : (aT s r).kind = 0 := by simpa using h0
    have e2 : seqP (aT s r :: rs) = .mk 0 [] [] := by
     unfold seqP;rw [seqGo, if_pos h0']
    rw [e2];exact bA.none.symm
  have hB : bA (if aL r then eB s rs else []) ((if aL r then fQ s rs else []).map (normR false)) := by
   by_cases ha : aL r = true
   ·rw [if_pos ha, if_pos ha]; exact ih
   ·rw [if_neg ha, if_neg ha]; exact bA.refl _
  exact hA.app hB
theorem dp1 {s : Int} {x : Rx} (h : NF x) (hk : x.kind <= 1) : aT s x = .mk 0 [] [] := by
 have hr := h.rng;have : x.kind = 0 \/ x.kind = 1 := by omega
 rcases this with e | e
 ·rw [h.k0 e]; unfold aT; rw [jY]; rfl
 ·rw [h.k1 e]; unfold aT; rw [jY]; rfl
theorem dp2 {s : Int} {x : Rx} (hk : x.kind = 2) : aT s x = if x.syms.contains s then .mk 1 [] [] else .mk 0 [] [] := by
 unfold aT;rw [jY, if_pos hk]
 split <;> rfl
theorem dp3 {s : Int} {x : Rx} (h : NF x) (hk : x.kind = 3) : aT s x = altP (eB s x.kids) := by
 unfold aT;rw [jY, if_neg (by omega), if_neg (by omega), if_neg (by omega), if_pos hk, bX];rw [if_neg (show ¬ (Rx.mk 4 [] (fQ s x.kids)).kind = 3 by simp [Rx.kind]), if_pos (show (Rx.mk 4 [] (fQ s x.kids)).kind = 4 from rfl)];exact (xQ h.kids).symm.of
theorem dp4 {s : Int} {x : Rx} (hk : x.kind = 4) : aT s x = altP (x.kids.map (aT s)) := by
 unfold aT;rw [jY, if_neg (by omega), if_neg (by omega), if_neg (by omega), if_neg (by omega), nK, bX];rw [if_neg (show ¬ (Rx.mk 4 [] (x.kids.map (cZ s))).kind = 3 by simp [Rx.kind]), if_pos (show (Rx.mk 4 [] (x.kids.map (cZ s))).kind = 4 from rfl)];show altP ((x.kids.map (cZ s)).map (normR false)) = _;rw [List.map_map]; rfl
theorem dp5 {s : Int} {x y : Rx} (h : NF x) (hk : x.kind = 5) (hy : x.kids = [y]) : aT s x = seqP [aT s y, x] := by
 unfold aT;rw [jY, if_neg (by omega), if_pos hk, bX, if_pos (show (Rx.mk 3 [] [jZ s x.kids, x]).kind = 3 from rfl), hy];show seqP ([jZ s [y], x].map (normR false)) = _;rw [List.map_cons, List.map_cons, List.map_nil, rC h, jZ]
theorem yQ {c S X Y : Int} (hc : 1 <= c) (hS : 0 <= S) (hX : X <= c * c) (hY : Y <= (S + 1) * (S + 1) - 1) : 1 + X + S + Y <= (c + S + 1) * (c + S + 1) - 1 := by
 have h1 : S <= c * S := by have := Int.mul_le_mul_of_nonneg_right hc hS; rwa [Int.one_mul] at this
 have e : (c + S + 1) * (c + S + 1) = c * c + c * S + c * S + S * S + c + c + S + S + 1 := by
  rw [Int.add_mul, Int.add_mul, Int.mul_add, Int.mul_add, Int.mul_add, Int.mul_add, Int.mul_comm S c];omega
 have e2 : (S + 1) * (S + 1) = S * S + S + S + 1 := by rw [Int.add_mul, Int.mul_add]; omega
 rw [e];rw [e2] at hY;omega
theorem vz {c S X Y : Int} (hc : 1 <= c) (hS : 0 <= S) (hX : X <= c * c) (hY : Y <= S * S) : X + Y <= (c + S) * (c + S) := by
 have h1 : 0 <= c * S := Int.mul_nonneg (by omega) hS;have e : (c + S) * (c + S) = c * c + c * S + c * S + S * S := by
  rw [Int.add_mul, Int.mul_add, Int.mul_add, Int.mul_comm S c]; omega
 rw [e]; omega
theorem iN {a b : Int} (h0 : 0 <= a) (h : a <= b) : a * a <= b * b := Int.mul_le_mul h h h0 (by omega)
theorem uu {s : Int} : ∀ {ks : List Rx}, (∀ x ∈ ks, av (cZ s x) <= av x * av x) -> ah (fQ s ks) <= (ah ks + 1) * (ah ks + 1) - 1
 |[], _ => by rw [fQ]; simp [ah]
 |r :: rs, h => by
  have ih := uu (s := s) (ks := rs) fun x hx => h x (by simp [hx])
  have h1 := h r (by simp);have hp := cO r;have hq := dN rs;rw [fQ];have e0 : ah (if aL r then fQ s rs else []) <= (ah rs + 1) * (ah rs + 1) - 1 := by
   split
   ·exact ih
   ·simp only [ah];have := iN (a := 1) (b := ah rs + 1) (by omega) (by omega);omega
  simp only [ah];have e1 : av (.mk 3 [] (cZ s r :: rs)) = 1 + (av (cZ s r) + ah rs) := by
   rw [dA]; simp only [Rx.kids, ah]
  rw [e1];have := yQ (X := av (cZ s r)) hp hq h1 e0;omega
theorem vN {s : Int} : ∀ {ks : List Rx}, (∀ x ∈ ks, av (cZ s x) <= av x * av x) -> ah (ks.map (cZ s)) <= ah ks * ah ks
 |[], _ => by simp [ah]
 |r :: rs, h => by
  have ih := vN (s := s) (ks := rs) fun x hx => h x (by simp [hx])
  have h1 := h r (by simp);rw [List.map_cons];simp only [ah];exact vz (cO r) (dN rs) h1 ih
theorem Ey {s : Int} {x : Rx} (hv : ay x = true) : av (cZ s x) <= av x * av x := by
 induction x using Rx.ind with
 |h x ih =>
  have hd : ∀ y ∈ x.kids, av (cZ s y) <= av y * av y := fun y hy => ih y hy (eF hv y hy)
  have hp := cO x;have h1 : 1 <= av x * av x := by have := iN (a := 1) (b := av x) (by omega) hp; omega
  have hk := dA x;have hq := dN x.kids;have h0 : av (.mk 0 [] []) = 1 := by rw [dA]; rfl
  have h01 : av (.mk 1 [] []) = 1 := by rw [dA]; rfl
  rw [jY]
  by_cases k2 : x.kind = 2
  ·rw [if_pos k2]; split <;> omega
  ·rw [if_neg k2]
   by_cases k5 : x.kind = 5
   ·rw [if_pos k5];obtain ⟨y, hy⟩ : ∃ y, x.kids = [y] := by
     rcases eT hv with rfl | rfl | ⟨s, rfl, _⟩ | ⟨ks, rfl, _⟩ | ⟨ks, rfl, _⟩ | ⟨y, rfl, _⟩ <;> simp [Rx.kind] at k5 <;> exact ⟨_, rfl⟩
    have h2 := hd y (by rw [hy]; simp);have e : av (.mk 3 [] [jZ s x.kids, x]) = 1 + (av (cZ s y) + (av x + 0)) := by
     rw [dA, hy, jZ]; simp only [Rx.kids, ah]
    have e2 : av x = 1 + av y := by rw [hk, hy]; simp [ah]
    have hpy := cO y;have e3 : (1 + av y) * (1 + av y) = av y * av y + av y + av y + 1 := by
     rw [Int.add_mul, Int.mul_add, Int.mul_add]; omega
    rw [e, e2, e3];omega
   ·rw [if_neg k5]
    by_cases k1 : x.kind <= 1
    ·rw [if_pos k1]; omega
    ·rw [if_neg k1]
     by_cases k3 : x.kind = 3
     ·rw [if_pos k3, dA];show 1 + ah (fQ s x.kids) <= _;have h2 := uu hd;rw [hk, Int.add_comm 1 (ah x.kids)];omega
     ·rw [if_neg k3, dA, nK];show 1 + ah (x.kids.map (cZ s)) <= _;have h2 := vN hd;have e3 : (1 + ah x.kids) * (1 + ah x.kids) = ah x.kids * ah x.kids + ah x.kids + ah x.kids + 1 := by
       rw [Int.add_mul, Int.mul_add, Int.mul_add]; omega
      rw [hk, e3];omega
theorem lJ {s : Int} {x : Rx} (hv : ay x = true) : av (aT s x) <= av x * av x := by
 have h1 := kM false (qL s hv);have h2 := Ey (s := s) hv;unfold aT;omega
theorem oF {s : Int} : ∀ {ks : List Rx}, (∀ x ∈ ks, NF x) -> ah (eB s ks) <= (ah ks + 1) * (ah ks + 1) - 1
 |[], _ => by rw [eB]; simp [ah]
 |r :: rs, h => by
  have ih := oF (s := s) (ks := rs) fun x hx => h x (by simp [hx])
  have h1 := lJ (s := s) (h r (by simp)).val;have hp := cO r;have hq := dN rs;rw [eB, gz];have e0 : ah (if aL r then eB s rs else []) <= (ah rs + 1) * (ah rs + 1) - 1 := by
   split
   ·exact ih
   ·simp only [ah];have := iN (a := 1) (b := ah rs + 1) (by omega) (by omega);omega
  have e1 : ah (if (aT s r).kind ≠ 0 then [seqP (aT s r :: rs)] else []) <= 1 + av (aT s r) + ah rs := by
   have h3 := cO (aT s r)
   split
   ·have h2 := vP (aT s r :: rs);simp only [ah] at h2 ⊢;omega
   ·simp only [ah]; omega
  simp only [ah];have := yQ (X := av (aT s r)) hp hq h1 e0;omega
theorem C8 {s : Int} {ks : List Rx} {i : Nat} (hi : i < ks.length) : eB s (ks.drop i) = (if (aT s (ak ks i)).kind ≠ 0 then [seqP (aT s (ak ks i) :: ks.drop (i + 1))] else []) ++ if aL (ak ks i) then eB s (ks.drop (i + 1)) else [] := by
 rw [List.drop_eq_getElem_cons hi, eB, dO hi]
end Rgx
theorem dw {P : Program} {fn : Func} {p q : Tmp} {ty : TypeId} {R : Ending -> World -> Prop} {a : Act} {w : World} (hr : fn.results = #[.cell p ty, .tmp q]) (g : Nat) (hp : a.tmps.getD p undef = .pointer (some ⟨g, 0, none⟩)) {C : List Value} {T : TypeId} (hb : aa w g C T) (d : TypeDesc) (hu : P.underlying ty = some d) (hd : d.isRow = true)
  (hi : (P.info? ty).map (·.size) = some C.length) (hdf : a.defers = []) (u : Value) (hq : a.tmps.getD q undef = u) (hR : R (.returned (.tuple #[.agg C.toArray, u])) w) : bodyPost P fn R .ret a w := by
 subst hq;refine bodyPost_ret ?_ hdf hR;have hp' : a.tmps[p]?.getD undef = .pointer (some ⟨g, 0, none⟩) := by simpa using hp
 simp [results, hr, hp', asAddr, run_loadVar_row w g T ty C.toArray (0, 0) d hb hu (by cases d <;> simp_all) (by simpa using hi)]
def D2 (p : Nat -> Prop) (w : World) (y : Rx) (V : Bool) (e : Ending) (w' : World) : Prop := ∃ A n c B m d, e = .returned (.tuple #[.agg #[.int .i64 y.kind, .slice A n c, .slice B m d], .bool V]) /\ ai (fun b => p b \/ w.heap.size <= b) w' y A n c B m d /\ Below w.heap.size w w'
def jR (s : Int) (x : Rx) : Prop := ∀ (p : Nat -> Prop) (w : World) (A B : Option Addr) (n c m d : Nat), (∀ b, p b -> b < w.heap.size) -> DB w -> ai p w x A n c B m d -> Calls Tryz.prog 56 #[.agg #[.int .i64 x.kind, .slice A n c, .slice B m d], .int .i64 s] w (D2 p w (aT s x) (aL x))
theorem ky {p : Nat -> Prop} {s : Int} {w : World} {x : Rx} {K : Int} {A B : Option Addr} {n c m d : Nat} (hK : K = x.kind) (h : jR s x) (hp : ∀ b, p b -> b < w.heap.size) (hd : DB w) (hx : ai p w x A n c B m d) (y : Rx) (V : Bool) (hy : y = aT s x) (hV : V = aL x) : Calls Tryz.prog 56 #[.agg #[.int .i64 K, .slice A n c, .slice B m d], .int .i64 s] w (D2 p w y V) := by
 subst hK hy hV;exact h p w A B n c m d hp hd hx
theorem Rgx.aU.drop {p : Nat -> Prop} {w : World} {ks : List Rx} {b o o' : Nat} (h : aU p w ks (some ⟨b, o, none⟩)) (k : Nat) (ho : k < ks.length -> o' = o + k * 3) : aU p w (ks.drop k) (some ⟨b, o', none⟩) := fun i hi => by
 rw [List.length_drop] at hi;have ho2 := ho (by omega);subst ho2;obtain ⟨b', o2, v1, v2, e, h1, h2, h3, h4⟩ := h (k + i) (by omega);obtain ⟨rfl, rfl⟩ : b = b' /\ o = o2 := by simpa using e
 have e1 : o + k * 3 + i * 3 = o + (k + i) * 3 := by omega
 have e2 : (ks.drop k)[i]'(by rw [List.length_drop]; omega) = ks[k + i]'(by omega) := by rw [List.getElem_drop]
 exact ⟨b, o + k * 3, v1, v2, rfl, by rw [e1, e2]; exact h1, by rw [e1]; exact h2, by rw [e1]; exact h3, by rw [e2]; exact h4⟩
theorem BG {s : Int} {ks : List Rx} {i : Nat} (hi : i < ks.length) (hN : ∀ x ∈ ks, NF x) : av (aT s (ak ks i)) + ah (ks.drop (i + 1)) <= (ah ks + 1) * (ah ks + 1) := by
 have hm := dG (ks := ks) hi;have h1 := lJ (s := s) (hN _ hm).val;have h2 := cO (ak ks i);have h4 : ah ks = ah (ks.take i) + (av (ak ks i) + ah (ks.drop (i + 1))) := by
  have e : ks = ks.take i ++ (ak ks i :: ks.drop (i + 1)) := by
   rw [dO hi, <- List.drop_eq_getElem_cons hi, List.take_append_drop]
  calc ah ks = ah (ks.take i ++ (ak ks i :: ks.drop (i + 1))) := by rw [<- e]
   _ = _ := by rw [gz]; simp only [ah]
 have h5 := dN (ks.take i);have h6 := dN (ks.drop (i + 1));have h7 := iN (a := av (ak ks i)) (b := ah ks) (by omega) (by omega);have e2 : (ah ks + 1) * (ah ks + 1) = ah ks * ah ks + ah ks + ah ks + 1 := by rw [Int.add_mul, Int.mul_add]; omega
 rw [e2];omega
theorem zh {s : Int} (ks : List Rx) (hN : ∀ x ∈ ks, NF x) (hcm : ah ks + 1 <= 1000000) (ih : ∀ x ∈ ks, jR s x) {p : Nat -> Prop} (w : World) (hp : ∀ b, p b -> b < w.heap.size) (hd : DB w) (B : Option Addr) (m d : Nat) (hm : m = ks.length) (hmd : m <= d) (hdm : d <= 9223372036854775807) (hk : aU p w ks B) : Calls Tryz.prog 89 #[.slice B m d, .int .i64 s] w (D2 p w (altP (eB s ks)) (ks.all aL)) := by
 obtain ⟨i0, hi0, hz0, hz1, hz2⟩ := info_parts iq;obtain ⟨q, hq⟩ : ∃ q : Nat -> Prop, q = fun b => (p b \/ w.heap.size < b) := ⟨_, rfl⟩
 obtain ⟨R, hR⟩ : ∃ R, R = altP (eB s ks) := ⟨_, rfl⟩;obtain ⟨VA, hVA⟩ : ∃ V, V = ks.all aL := ⟨_, rfl⟩;rw [<- hR, <- hVA];have HR := Lh hR;have HV := Lh hVA;have HL : Hid (m = ks.length /\ aU p w ks B /\ (∀ x ∈ ks, NF x) /\ ah ks + 1 <= 1000000) := Lh ⟨hm, hk, hN, hcm⟩;have HIH := Lh ih;have HDB := Lh hd;have HQ : Hid ((∀ b, p b -> q b) /\ (∀ b, w.heap.size < b -> q b) /\ (∀ b, p b -> b < w.heap.size) /\ (∀ b, q b -> b ≠ w.heap.size) /\ ∀ b, q b -> p b \/ w.heap.size <= b) := Lh (by subst hq; exact ⟨fun b h => .inl h, fun b h => .inr h, hp, fun b h => by rcases h with h | h; (have := hp b h; omega); omega, fun b h => by rcases h with h | h; exact .inl h; exact .inr (by omega)⟩);have HZ : Hid (aa (w.alloc zR) w.heap.size zL 25) := Lh (aa.at w zL _ 25 _ rfl rfl);have hm6 : m <= 1000000 := by have := iF ks; omega
 clear hm hk hN hcm ih hp hd hq hR hVA;go_enter Tryz.func89, Tryz.ntmps89;go_wp2_with fail
 go_loopg [6, 13] m (fun g s6 s13 wr => ∃ (i : Nat) (rs : List Rx), i + g = m /\ s13 = .int .i64 (i : Int) /\ Hid (rs ++ eB s (ks.drop i) = eB s ks /\ (ks.take i).all aL = true /\ az q (w.heap.size + 1) s6 rs wr /\ Below (w.alloc zR).heap.size (w.alloc zR) wr /\ (∀ y ∈ rs, NF y) /\ rs.length <= i))
 case atStart => exact ⟨0, [], by omega, rfl, Lh ⟨rfl, rfl, az.nil _ _ _, Below.refl _ _, (fun y hy => by cases hy), Nat.le_refl _⟩⟩
 case round =>
  obtain ⟨i, rs, hi, rfl, HI⟩ := hrel;obtain ⟨B5, d5, hv, h5a, h5b, h5c, h5d⟩ := HI.out.2.2.1.e;obtain ⟨N5, hN5⟩ : ∃ N, N = rs.length := ⟨_, rfl⟩;rw [<- hN5] at hv;subst hv;have HN5 := Lh hN5
  by_cases hlt : i < m
  ·obtain ⟨gg, rfl⟩ : ∃ g, gk = g + 1 := ⟨gk - 1, by omega⟩;have HIL : Hid (i < ks.length) := Lh (by rw [<- HL.out.1]; exact hlt);have HBS : Hid (Below (w.alloc zR).heap.size (w.alloc zR) wr) := Lh HI.out.2.2.2.1;have HBW : Hid (Below w.heap.size w wr) := Lh (ae (ag _ _) HBS.out);obtain ⟨b, o, rfl⟩ := HL.out.2.1.place (by have := HIL.out; omega);obtain ⟨A2, n2, c2, B2, m2, d2, hrg, hok⟩ := HL.out.2.1.kid HIL.out;have hrg2 := fK hrg HBW.out;obtain ⟨Kk, hKk⟩ : ∃ K, K = (ak ks i).kind := ⟨_, rfl⟩;rw [<- hKk] at hrg2;have HRG := Lh hrg2;have hmem := dG (ks := ks) HIL.out;have HK : Hid (jR s (ak ks i) /\ Kk = (ak ks i).kind /\ ai p w (ak ks i) A2 n2 c2 B2 m2 d2) := Lh ⟨HIH.out _ hmem, hKk, hok⟩;obtain ⟨D, hD⟩ : ∃ D, D = aT s (ak ks i) := ⟨_, rfl⟩;obtain ⟨V, hV⟩ : ∃ V, V = aL (ak ks i) := ⟨_, rfl⟩;obtain ⟨K8, hK8⟩ : ∃ K, K = D.kind := ⟨_, rfl⟩;have HKD : Hid (K8 = D.kind) := Lh hK8;have HND : Hid (NF D) := Lh (by rw [hD]; exact NF.dp s (HL.out.2.2.1 _ hmem).val);have HD : Hid (D = aT s (ak ks i) /\ V = aL (ak ks i)) := Lh ⟨hD, hV⟩;have HDC : Hid (av D + ah (ks.drop (i + 1)) <= 1000000000000) := Lh (by
    have h1 := BG (s := s) HIL.out HL.out.2.2.1;have h2 := iN (a := ah ks + 1) (b := 1000000) (by have := dN ks; omega) HL.out.2.2.2;rw [hD]; omega)
   have hstep := C8 (s := s) HIL.out;rw [<- hD, <- hV, <- hK8] at hstep;have HSTEP := Lh hstep;obtain ⟨o9, ho9, hsl⟩ := mV (P := Tryz.prog) (t := 23) (e := 25) (i := i0) Tryz.underlying23 hi0 b o m d (i + 1) (by omega) hmd;have hsl2 : ∀ W, (Instr.slice 23 (.slice (some ⟨b, o, none⟩) m d) (some (.int .i64 ((i : Int) + 1))) none none).run Tryz.prog W = .ok (.slice (some ⟨b, o9, none⟩) (m - (i + 1)) (d - (i + 1))) W := fun W => hsl W
   have hwr1 : IntKind.i64.wrap ((i : Int) + 1) = (i : Int) + 1 := by rw [IntKind.wrap_i64]; omega
   have HDROP : Hid (aU p w (ks.drop (i + 1)) (some ⟨b, o9, none⟩)) := Lh (HL.out.2.1.drop (i + 1) fun h => by have := ho9 (by have := HL.out.1; omega); rw [hz1] at this; exact this);obtain ⟨xs, hC, hO⟩ := HI.out.2.2.1;rw [<- hN5] at hO;have HC := Lh hC;have HO := Lh hO;have hs1 : N5 + 1 <= maxLen := by have h1 := HI.out.2.2.2.2.2; have h2 := HN5.out; unfold maxLen; omega
   have hs2 : (N5 + 1) * 56 <= 140737488355328 := by have h1 := HI.out.2.2.2.2.2; have h2 := HN5.out; omega
   have HQO : Hid ((∀ b, p b -> (fun b => q b /\ some b ≠ (Value.slice B5 N5 d5).ownBlock) b) /\ ∀ b, wr.heap.size <= b -> (fun b => q b /\ some b ≠ (Value.slice B5 N5 d5).ownBlock) b) := Lh ⟨fun b hb => ⟨HQ.out.1 b hb, fun e => by have h1 := (hO.lt b e.symm).1; have h2 := HQ.out.2.2.1 b hb; omega⟩, fun b hb => ⟨HQ.out.2.1 b (by have h1 := HBS.out.size; simp at h1; omega), fun e => by have h1 := (hO.lt b e.symm).2; omega⟩⟩;clear hC hO;clear hrg hok hrg2 hKk hmem hD hV hK8 hstep hsl ho9 h5a h5b h5c h5d hN5
   by_cases k0 : K8 = 0
   ·have e1 : decide (K8 = 0) = true := dT k0;have e2 : (K8 == 0) = true := bT k0;have HSTEP : Hid (eB s (ks.drop i) = (if (0 : Int) ≠ 0 then [seqP (D :: ks.drop (i + 1))] else []) ++ if V = true then eB s (ks.drop (i + 1)) else []) := Lh (by have h := HSTEP.out; rw [k0] at h; exact h);clear k0
    cases V
    ·skip
     go_wp2_with (first
       |(refine aA rfl (.tmp 16) rfl b (o + i * 3) rfl Kk A2 B2 n2 c2 m2 d2 HRG.out ?_)
       |(refine wB rfl 25 (.tmp 8) (.tmp 17) rfl wr.heap.size 0 rfl (zV Kk A2 n2 c2 B2 m2 d2) rfl (aa.new' wr zL _ 25 rfl) 3 au ?_; intro w4 hst9; have Hw4 : Hid (aa w4 wr.heap.size (zV Kk A2 n2 c2 B2 m2 d2) 25 /\ Below wr.heap.size wr w4) := Lh (aZ hst9); clear hst9; have hrx4 := aM Hw4.out.1)
       |(refine aA rfl (.tmp 8) rfl wr.heap.size (0) rfl Kk A2 B2 n2 c2 m2 d2 hrx4 ?_)
       |((with_reducible refine (ky (p := p) HK.out.2.1 HK.out.1 (fun b hb => by have h1 := HQ.out.2.2.1 b hb; have h2 := HBW.out.size; have h3 := Hw4.out.2.size; omega) (HDB.out.below (ae HBW.out Hw4.out.2)) (HK.out.2.2.below (ae HBW.out Hw4.out.2)) D false HD.out.1 HD.out.2).mono ?_); rintro e w5 ⟨A8, n8, c8, B8, m8, d8, rfl, h8, hb8⟩; rw [<- HKD.out]; have H5 : Hid (ai (fun b => q b /\ some b ≠ (Value.slice B5 N5 d5).ownBlock) w5 D A8 n8 c8 B8 m8 d8 /\ Below wr.heap.size wr w5) := Lh ⟨h8.mono (fun b hb => by
          rcases hb with hb | hb
          ·exact HQO.out.1 b hb
          ·exact HQO.out.2 b (by have h3 := Hw4.out.2.size; omega)), ae Hw4.out.2 hb8⟩; clear h8 hb8)
       |(refine wB rfl 25 (.tmp 9) (.tmp 22) rfl w5.heap.size 0 rfl (zV K8 A8 n8 c8 B8 m8 d8) rfl (aa.new' w5 zL _ 25 rfl) 3 au ?_; intro w6 hst9; have Hw6 : Hid (aa w6 w5.heap.size (zV K8 A8 n8 c8 B8 m8 d8) 25 /\ Below w5.heap.size w5 w6) := Lh (aZ hst9); clear hst9; have hc60 := Hw6.out.1.cell (j := 0) rfl; have HB6 : Hid (Below wr.heap.size wr w6) := Lh (ae H5.out.2 Hw6.out.2); have HS0 : Hid ((fun w' : World => w'.rangeAt w5.heap.size 0 (zV K8 A8 n8 c8 B8 m8 d8)) w6.drew) := Lh (aM Hw6.out.1))
       )
     have HX6 : Hid (az q (w.heap.size + 1) (.slice B5 N5 d5) (rs) w6 /\ Below (w.alloc zR).heap.size (w.alloc zR) w6) := Lh ⟨HI.out.2.2.1.below HB6.out, ae HBS.out HB6.out⟩;have HNF : Hid (∀ y ∈ rs, NF y) := Lh (HI.out.2.2.2.2.1);have HEQ : Hid (rs = eB s ks) := Lh (by
       have h1 := HI.out.1;have h2 := HSTEP.out;rw [if_neg (by simp), if_neg (by simp)] at h2;rw [h2] at h1
       simpa using h1)
     have HALL : Hid (ks.all aL = false) := Lh (by
       rw [List.all_eq_false];exact ⟨ak ks i, dG HIL.out, by simp [<- HD.out.2]⟩)
     obtain ⟨Bz, dz, hvz, hza, hzb, hzc, _⟩ := HX6.out.1.e;rw [Value.slice.injEq] at hvz;obtain ⟨rfl, -, rfl⟩ := hvz;have HALT : Hid (Below (w.alloc zR).heap.size (w.alloc zR) w6 /\ (rs).length <= d5 /\ d5 <= 9223372036854775807 /\ (∀ y ∈ rs, NF y) /\ ah (rs) <= 1000000000000 /\ aU (fun b => q b /\ b < w6.heap.size) w6 (rs) B5) := Lh ⟨HX6.out.2, hza, hzb, HNF.out, by
       have h1 := oF (s := s) HL.out.2.2.1;have h2 := iN (a := ah ks + 1) (b := 1000000) (by have := dN ks; omega) HL.out.2.2.2;rw [HEQ.out]; omega, (hzc.mono fun b hb => hb.1).lt⟩
     clear hza hzb hzc
     go_wp2_with (first
       |((with_reducible refine (mP (p := fun b => q b /\ b < w6.heap.size) w6 (fun b hb => hb.2) (HDB.out.below (ae (ag _ _) HALT.out.1)) (rs) B5 N5 d5 HN5.out (by rw [HN5.out]; exact HALT.out.2.1) HALT.out.2.2.1 HALT.out.2.2.2.1 HALT.out.2.2.2.2.1 HALT.out.2.2.2.2.2).mono ?_); rintro e w11 hp; obtain ⟨A9, n9, c9, B9, m9, d9, rfl, h9, hb9⟩ := bV hp; have H11 : Hid (ai q w11 (altP (rs)) A9 n9 c9 B9 m9 d9 /\ Below (w.alloc zR).heap.size (w.alloc zR) w11) := Lh ⟨h9.mono (fun b hb => by
          rcases hb with hb | hb
          ·exact hb.1
          ·exact HQ.out.2.1 b (by have h1 := HALT.out.1.size; simp at h1; omega)), ae HALT.out.1 hb9⟩; clear hp h9 hb9)
       |(refine wB rfl 25 (.tmp 4) (.tmp 42) rfl w.heap.size 0 rfl [.int .i64 (altP (rs)).kind, .slice A9 n9 c9, .slice B9 m9 d9] rfl (HZ.out.below H11.out.2 (by simp)) 3 au ?_; intro w9 hst9; have Hw9 : Hid (aa w9 w.heap.size [.int .i64 (altP (rs)).kind, .slice A9 n9 c9, .slice B9 m9 d9] 25 /\ Below w.heap.size w w9 /\ ai q w9 (altP (rs)) A9 n9 c9 B9 m9 d9) := Lh ⟨hst9.1, hst9.below (ae (ag _ _) H11.out.2) (Nat.le_refl _), fO H11.out.1 hst9 HQ.out.2.2.2.1⟩; clear hst9))
     exact dw rfl w.heap.size rfl (C := [.int .i64 (altP (rs)).kind, .slice A9 n9 c9, .slice B9 m9 d9]) (T := 25) Hw9.out.1 _ Tryz.underlying25 rfl au rfl (.bool false) rfl (by
       rw [HR.out, HV.out];rw [<- HEQ.out, HALL.out];exact ⟨_, _, _, _, _, _, rfl, Hw9.out.2.2.mono (fun b hb => by rcases HQ.out.2.2.2.2 b hb with h | h; exact .inl h; exact .inr (by omega)), Hw9.out.2.1⟩)
    ·skip
     go_wp2_with (first
       |(refine aA rfl (.tmp 16) rfl b (o + i * 3) rfl Kk A2 B2 n2 c2 m2 d2 HRG.out ?_)
       |(refine wB rfl 25 (.tmp 8) (.tmp 17) rfl wr.heap.size 0 rfl (zV Kk A2 n2 c2 B2 m2 d2) rfl (aa.new' wr zL _ 25 rfl) 3 au ?_; intro w4 hst9; have Hw4 : Hid (aa w4 wr.heap.size (zV Kk A2 n2 c2 B2 m2 d2) 25 /\ Below wr.heap.size wr w4) := Lh (aZ hst9); clear hst9; have hrx4 := aM Hw4.out.1)
       |(refine aA rfl (.tmp 8) rfl wr.heap.size (0) rfl Kk A2 B2 n2 c2 m2 d2 hrx4 ?_)
       |((with_reducible refine (ky (p := p) HK.out.2.1 HK.out.1 (fun b hb => by have h1 := HQ.out.2.2.1 b hb; have h2 := HBW.out.size; have h3 := Hw4.out.2.size; omega) (HDB.out.below (ae HBW.out Hw4.out.2)) (HK.out.2.2.below (ae HBW.out Hw4.out.2)) D true HD.out.1 HD.out.2).mono ?_); rintro e w5 ⟨A8, n8, c8, B8, m8, d8, rfl, h8, hb8⟩; rw [<- HKD.out]; have H5 : Hid (ai (fun b => q b /\ some b ≠ (Value.slice B5 N5 d5).ownBlock) w5 D A8 n8 c8 B8 m8 d8 /\ Below wr.heap.size wr w5) := Lh ⟨h8.mono (fun b hb => by
          rcases hb with hb | hb
          ·exact HQO.out.1 b hb
          ·exact HQO.out.2 b (by have h3 := Hw4.out.2.size; omega)), ae Hw4.out.2 hb8⟩; clear h8 hb8)
       |(refine wB rfl 25 (.tmp 9) (.tmp 22) rfl w5.heap.size 0 rfl (zV K8 A8 n8 c8 B8 m8 d8) rfl (aa.new' w5 zL _ 25 rfl) 3 au ?_; intro w6 hst9; have Hw6 : Hid (aa w6 w5.heap.size (zV K8 A8 n8 c8 B8 m8 d8) 25 /\ Below w5.heap.size w5 w6) := Lh (aZ hst9); clear hst9; have hc60 := Hw6.out.1.cell (j := 0) rfl; have HB6 : Hid (Below wr.heap.size wr w6) := Lh (ae H5.out.2 Hw6.out.2); have HS0 : Hid ((fun w' : World => w'.rangeAt w5.heap.size 0 (zV K8 A8 n8 c8 B8 m8 d8)) w6.drew) := Lh (aM Hw6.out.1))
       )
     have HX6 : Hid (az q (w.heap.size + 1) (.slice B5 N5 d5) (rs) w6 /\ Below (w.alloc zR).heap.size (w.alloc zR) w6) := Lh ⟨HI.out.2.2.1.below HB6.out, ae HBS.out HB6.out⟩;have HNF : Hid (∀ y ∈ rs, NF y) := Lh (HI.out.2.2.2.2.1);go_wp2_with fail
     go_roundg gg
     case rel => exact ⟨i + 1, rs, by omega, by go_num, Lh ⟨by
       have h1 := HI.out.1;have h2 := HSTEP.out;rw [if_neg (by simp), if_pos (by first | rfl | trivial)] at h2;rw [h2] at h1
       simpa using h1, by rw [List.take_succ_eq_append_getElem HIL.out, List.all_append, HI.out.2.1, <- dO HIL.out]; simp [<- HD.out.2], HX6.out.1, HX6.out.2, HNF.out, by have h1 := HI.out.2.2.2.2.2; omega⟩⟩
     case measure => omega
   ·have e1 : decide (K8 = 0) = false := dF k0;have e2 : (K8 == 0) = false := bF k0;have HK0 : Hid (K8 ≠ 0) := Lh k0;clear k0
    cases V
    ·skip
     go_wp2_with (first
       |(refine aA rfl (.tmp 16) rfl b (o + i * 3) rfl Kk A2 B2 n2 c2 m2 d2 HRG.out ?_)
       |(refine wB rfl 25 (.tmp 8) (.tmp 17) rfl wr.heap.size 0 rfl (zV Kk A2 n2 c2 B2 m2 d2) rfl (aa.new' wr zL _ 25 rfl) 3 au ?_; intro w4 hst9; have Hw4 : Hid (aa w4 wr.heap.size (zV Kk A2 n2 c2 B2 m2 d2) 25 /\ Below wr.heap.size wr w4) := Lh (aZ hst9); clear hst9; have hrx4 := aM Hw4.out.1)
       |(refine aA rfl (.tmp 8) rfl wr.heap.size (0) rfl Kk A2 B2 n2 c2 m2 d2 hrx4 ?_)
       |((with_reducible refine (ky (p := p) HK.out.2.1 HK.out.1 (fun b hb => by have h1 := HQ.out.2.2.1 b hb; have h2 := HBW.out.size; have h3 := Hw4.out.2.size; omega) (HDB.out.below (ae HBW.out Hw4.out.2)) (HK.out.2.2.below (ae HBW.out Hw4.out.2)) D false HD.out.1 HD.out.2).mono ?_); rintro e w5 ⟨A8, n8, c8, B8, m8, d8, rfl, h8, hb8⟩; rw [<- HKD.out]; have H5 : Hid (ai (fun b => q b /\ some b ≠ (Value.slice B5 N5 d5).ownBlock) w5 D A8 n8 c8 B8 m8 d8 /\ Below wr.heap.size wr w5) := Lh ⟨h8.mono (fun b hb => by
          rcases hb with hb | hb
          ·exact HQO.out.1 b hb
          ·exact HQO.out.2 b (by have h3 := Hw4.out.2.size; omega)), ae Hw4.out.2 hb8⟩; clear h8 hb8)
       |(refine wB rfl 25 (.tmp 9) (.tmp 22) rfl w5.heap.size 0 rfl (zV K8 A8 n8 c8 B8 m8 d8) rfl (aa.new' w5 zL _ 25 rfl) 3 au ?_; intro w6 hst9; have Hw6 : Hid (aa w6 w5.heap.size (zV K8 A8 n8 c8 B8 m8 d8) 25 /\ Below w5.heap.size w5 w6) := Lh (aZ hst9); clear hst9; have hc60 := Hw6.out.1.cell (j := 0) rfl; have HB6 : Hid (Below wr.heap.size wr w6) := Lh (ae H5.out.2 Hw6.out.2); have HS0 : Hid ((fun w' : World => w'.rangeAt w5.heap.size 0 (zV K8 A8 n8 c8 B8 m8 d8)) w6.drew) := Lh (aM Hw6.out.1))
       )
     refine wp_region_held_drew (S := fun w' => w'.rangeAt w5.heap.size 0 (zV K8 A8 n8 c8 B8 m8 d8)) (by kernel_rfl) (HS0.out) (fun hS0 => ?_);refine bW 0 ?_;refine wX 1 rfl (yieldsIf_load_mid (by rfl) _ _ rfl _ _ rfl _ _ (fun w h => h) Tryz.underlying25 rfl au) ?_;refine bW 3 ?_;refine bW 4 ?_;refine bW 5 ?_;refine bW 6 ?_;refine wpAnyH_ready (rs := [2]) (by kernel_rfl) (by simp) ?_;refine wA rfl (fun K hK => ?_) AllReadyH.nil
     go_simp;have HX7 : Hid (aa (w6.alloc (zC K8 A8 n8 c8 B8 m8 d8)).drew w6.heap.size (zV K8 A8 n8 c8 B8 m8 d8) 25 /\ Below w6.heap.size w6 (w6.alloc (zC K8 A8 n8 c8 B8 m8 d8)).drew) := Lh ⟨aa.at w6 (zV K8 A8 n8 c8 B8 m8 d8) _ 25 _ rfl rfl, (ag _ _).drew⟩;refine hK.out _ _ (aM (Hw6.out.1.below HX7.out.2 Hw6.out.1.lt)) (fun hS1 => ?_);clear hK K hS0;(try simp only [Act.put, pP]);refine wpAnyH_ready (rs := [7]) (by kernel_rfl) (by simp) ?_;refine wA rfl (fun K hK => ?_) AllReadyH.nil
     go_simp;have HX8 : Hid (aa ((w6.alloc (zC K8 A8 n8 c8 B8 m8 d8)).alloc (.cells #[.slice (some ⟨w6.heap.size, 0, none⟩) 1 1, .slice (some ⟨b, o9, none⟩) (m - (i + 1)) (d - (i + 1))] 23)).drew (w6.heap.size + 1) [.slice (some ⟨w6.heap.size, 0, none⟩) 1 1, .slice (some ⟨b, o9, none⟩) (m - (i + 1)) (d - (i + 1))] 23 /\ Below w6.heap.size w6 ((w6.alloc (zC K8 A8 n8 c8 B8 m8 d8)).alloc (.cells #[.slice (some ⟨w6.heap.size, 0, none⟩) 1 1, .slice (some ⟨b, o9, none⟩) (m - (i + 1)) (d - (i + 1))] 23)).drew /\ aa ((w6.alloc (zC K8 A8 n8 c8 B8 m8 d8)).alloc (.cells #[.slice (some ⟨w6.heap.size, 0, none⟩) 1 1, .slice (some ⟨b, o9, none⟩) (m - (i + 1)) (d - (i + 1))] 23)).drew w6.heap.size (zV K8 A8 n8 c8 B8 m8 d8) 25) := Lh ⟨aa.at (w6.alloc (zC K8 A8 n8 c8 B8 m8 d8)) [.slice (some ⟨w6.heap.size, 0, none⟩) 1 1, .slice (some ⟨b, o9, none⟩) (m - (i + 1)) (d - (i + 1))] _ 23 _ rfl (by simp), (aB (ag _ _) _).drew, (aa.at w6 (zV K8 A8 n8 c8 B8 m8 d8) _ 25 _ rfl rfl).alloc _⟩;refine hK.out _ _ (aM (Hw6.out.1.below HX8.out.2.1 Hw6.out.1.lt)) (fun hS2 => ?_);clear hK K hS1;obtain ⟨x8, hx8⟩ : ∃ x, x = ((w6.alloc (zC K8 A8 n8 c8 B8 m8 d8)).alloc (.cells #[.slice (some ⟨w6.heap.size, 0, none⟩) 1 1, .slice (some ⟨b, o9, none⟩) (m - (i + 1)) (d - (i + 1))] 23)).drew := ⟨_, rfl⟩;rw [<- hx8] at HX8 ⊢;clear hx8;(try simp only [Act.put, pP]);refine wpAnyH_ready (rs := [8]) (by kernel_rfl) (by simp) ?_;refine wA rfl (fun K hK => ?_) AllReadyH.nil
     go_simp;have hcat := xm (p := fun b => (fun b => q b /\ some b ≠ (Value.slice B5 N5 d5).ownBlock) b /\ b < x8.heap.size) 2 (w6.heap.size + 1) (fun j => if j = 0 then some ⟨w6.heap.size, 0, none⟩ else some ⟨b, o9, none⟩) (fun j => if j = 0 then 1 else m - (i + 1)) (fun j => if j = 0 then 1 else d - (i + 1)) (fun j => if j = 0 then [D] else ks.drop (i + 1)) x8 (by omega) (fun j hj => by
        match j, hj with
        | 0, _ => exact HX8.out.1.cell (j := 0) rfl
        | 1, _ => exact HX8.out.1.cell (j := 1) rfl) (fun j hj => by
        match j, hj with
        | 0, _ =>
          have hB : aa x8 w6.heap.size (zV D.kind A8 n8 c8 B8 m8 d8) 25 := by rw [<- HKD.out]; exact HX8.out.2.2
          have hD8 := H5.out.1.below (ae Hw6.out.2 HX8.out.2.1);exact ⟨rfl, aG.e (aG.one (hD8.and hD8.o.toP).q) fun j v hv => by rw [Nat.zero_add]; exact hB.cell hv⟩
        | 1, _ => exact ⟨by show m - (i + 1) = _; rw [if_neg (by decide), List.length_drop, HL.out.1], (HDROP.out.below (ae HBW.out (ae HB6.out HX8.out.2.1))).mono fun b hb => ⟨HQO.out.1 b hb, by have h1 := HQ.out.2.2.1 b hb; have h2 := HBW.out.size; have h3 := HB6.out.size; have h4 := HX8.out.2.1.size; omega⟩⟩) (fun b hb => hb.2) (by simp [eG]) (by
        have h1 := HIL.out;have h2 := HL.out.1;simp [eG]; omega)
     go_at_call 125;refine hcat.mono ?_;rintro e x9 ⟨v9, rfl, hr9, hb9⟩;obtain ⟨B9, d9, rfl, h9a, h9b, h9c, _⟩ := hr9.e;have ecat : eG (fun j => if j = 0 then [D] else ks.drop (i + 1)) 2 = D :: ks.drop (i + 1) := rfl;rw [ecat] at h9a h9c ⊢;obtain ⟨N9, hN9⟩ : ∃ N, N = (D :: ks.drop (i + 1)).length := ⟨_, rfl⟩;rw [<- hN9] at h9a ⊢;have HX9 : Hid (aU (fun b => (fun b => q b /\ some b ≠ (Value.slice B5 N5 d5).ownBlock) b /\ b < x9.heap.size) x9 (D :: ks.drop (i + 1)) B9 /\ N9 <= d9 /\ d9 <= 9223372036854775807 /\ Below w6.heap.size w6 x9 /\ N9 = (D :: ks.drop (i + 1)).length) := Lh ⟨(h9c.mono (fun b hb => by
        rcases hb.1 with h | h
        · exact h.1
        · exact HQO.out.2 b (by have h3 := HB6.out.size; have h4 := HX8.out.2.1.size; omega))).lt, h9a, h9b, ae HX8.out.2.1 hb9, hN9⟩
     clear hr9 hb9 h9a h9b h9c hcat hN9 ecat;refine hK.out _ _ (aM (Hw6.out.1.below HX9.out.2.2.2.1 Hw6.out.1.lt)) (fun hS3 => ?_);clear hK K hS2;(try simp only [Act.put, pP]);refine wpAnyH_ready (rs := [9]) (by kernel_rfl) (by simp) ?_;refine wA rfl (fun K hK => ?_) AllReadyH.nil
     go_simp;go_at_call 81;refine (pV (p := fun b => (fun b => q b /\ some b ≠ (Value.slice B5 N5 d5).ownBlock) b /\ b < x9.heap.size) x9 (fun b hb => hb.2) (D :: ks.drop (i + 1)) B9 N9 d9 HX9.out.2.2.2.2 HX9.out.2.1 HX9.out.2.2.1 (fun x hx => by
        rcases List.mem_cons.1 hx with rfl | hx
        · exact HND.out
        · exact HL.out.2.2.1 x (List.mem_of_mem_drop hx)) (by have := HDC.out; simp only [ah]; omega) HX9.out.1).mono ?_
     rintro e x10 hp;obtain ⟨A10, n10, c10, B10, m10, d10, rfl, h10, hb10⟩ := bV hp;have HX10 : Hid (ai (fun b => q b /\ some b ≠ (Value.slice B5 N5 d5).ownBlock) x10 (seqP (D :: ks.drop (i + 1))) A10 n10 c10 B10 m10 d10 /\ Below w6.heap.size w6 x10) := Lh ⟨h10.mono (fun b hb => by
        rcases hb with hb | hb
        · exact hb.1
        · exact HQO.out.2 b (by have h3 := HB6.out.size; have h4 := HX9.out.2.2.2.1.size; omega)), ae HX9.out.2.2.2.1 hb10⟩
     clear hp h10 hb10;refine hK.out _ _ (aM (Hw6.out.1.below HX10.out.2 Hw6.out.1.lt)) (fun hS4 => ?_);clear hK K hS3;(try simp only [Act.put, pP]);refine wpAnyH_ready (rs := [10]) (by kernel_rfl) (by simp) ?_;refine wA rfl (fun K hK => ?_) AllReadyH.nil
     go_simp;have HX11 : Hid (Below w6.heap.size w6 (x10.alloc (.cells #[.int .i64 (seqP (D :: ks.drop (i + 1))).kind, .slice A10 n10 c10, .slice B10 m10 d10] 25))) := Lh (aB HX10.out.2 _);refine hK.out _ _ (aM (Hw6.out.1.below HX11.out Hw6.out.1.lt)) (fun hS5 => ?_);clear hK K hS4;(try simp only [Act.put, pP]);refine wpAnyH_ready (rs := [11]) (by kernel_rfl) (by simp) ?_;refine AllReadyH.cons (o := ⟨some 38, .call { callee := .builtin Builtin.append, args := #[.tmp 27, .tmp 37], argTypes := #[23, 23] }, 23, _, _, none⟩) rfl (fun K hK => ?_) AllReadyH.nil
     refine rf rfl (.tmp 27) (.tmp 37) 23 23 rfl (w.heap.size + 1) 25 i0 _ 3 56 Tryz.underlying23 hi0 hz0 hz1 hz2 rfl _ _ _ rfl (dW HO.out (ae HB6.out HX11.out)) _ 1 [.int .i64 (seqP (D :: ks.drop (i + 1))).kind, .slice A10 n10 c10, .slice B10 m10 d10] rfl (gP hz1 _ _ _ _ _ _ _ _) hs1 hs2 (by have h1 := HBS.out.size; have h2 := HB6.out.size; have h3 := HX11.out.size; simp at h1 h3 ⊢; omega) ?_;intro v12 w12 hown12 hg12 hat12;have HX12 : Hid (az q (w.heap.size + 1) v12 (rs ++ [seqP (D :: ks.drop (i + 1))]) w12 /\ Below (w.alloc zR).heap.size (w.alloc zR) w12 /\ w12.rangeAt w5.heap.size 0 (zV K8 A8 n8 c8 B8 m8 d8)) := Lh ⟨az.app HC.out (ae HB6.out HX11.out) (aG.one (HX10.out.1.below (ag _ _)).q) rfl hg12 hat12 (by rw [<- HN5.out]; exact hown12), dJ (ae HBS.out (ae HB6.out HX11.out)) hg12 (fun g hg => by have h1 := (HO.out.lt _ hg).1; simpa using h1), aM ((Hw6.out.1.below HX11.out Hw6.out.1.lt).grown hg12 (fun e => by have h1 := (HO.out.lt _ e.symm).2; have h2 := H5.out.2.size; omega))⟩;clear hown12 hg12 hat12;refine hK.out _ _ HX12.out.2.2 (fun hS6 => ?_);clear hK K hS5;(try simp only [Act.put, pP]);refine bW 12 ?_;refine wpAnyH_done (by kernel_rfl) ?_ _;have HX6 : Hid (az q (w.heap.size + 1) v12 (rs ++ [seqP (D :: ks.drop (i + 1))]) w12 /\ Below (w.alloc zR).heap.size (w.alloc zR) w12) := Lh ⟨HX12.out.1, HX12.out.2.1⟩;have HNF : Hid (∀ y ∈ rs ++ [seqP (D :: ks.drop (i + 1))], NF y) := Lh (fun y hy => by
       rcases List.mem_append.1 hy with hy | hy
       ·exact HI.out.2.2.2.2.1 y hy
       ·rw [show y = seqP (D :: ks.drop (i + 1)) by simpa using hy]; exact NF.seqP fun z hz => by
          rcases List.mem_cons.1 hz with rfl | hz
          ·exact HND.out
          ·exact HL.out.2.2.1 z (List.mem_of_mem_drop hz))
     have HEQ : Hid (rs ++ [seqP (D :: ks.drop (i + 1))] = eB s ks) := Lh (by
       have h1 := HI.out.1;have h2 := HSTEP.out;rw [if_pos HK0.out, if_neg (by simp)] at h2;rw [h2] at h1
       simpa using h1)
     have HALL : Hid (ks.all aL = false) := Lh (by
       rw [List.all_eq_false];exact ⟨ak ks i, dG HIL.out, by simp [<- HD.out.2]⟩)
     obtain ⟨Bz, dz, hvz, hza, hzb, hzc, _⟩ := HX6.out.1.e;subst hvz;obtain ⟨Nz, hNz⟩ : ∃ N, N = (rs ++ [seqP (D :: ks.drop (i + 1))]).length := ⟨_, rfl⟩;rw [<- hNz];have HALT : Hid (Below (w.alloc zR).heap.size (w.alloc zR) w12 /\ (rs ++ [seqP (D :: ks.drop (i + 1))]).length <= dz /\ dz <= 9223372036854775807 /\ (∀ y ∈ rs ++ [seqP (D :: ks.drop (i + 1))], NF y) /\ ah (rs ++ [seqP (D :: ks.drop (i + 1))]) <= 1000000000000 /\ aU (fun b => q b /\ b < w12.heap.size) w12 (rs ++ [seqP (D :: ks.drop (i + 1))]) Bz) := Lh ⟨HX6.out.2, hza, hzb, HNF.out, by
       have h1 := oF (s := s) HL.out.2.2.1;have h2 := iN (a := ah ks + 1) (b := 1000000) (by have := dN ks; omega) HL.out.2.2.2;rw [HEQ.out]; omega, (hzc.mono fun b hb => hb.1).lt⟩
     have HNZ := Lh hNz;clear hza hzb hzc hNz
     go_wp2_with (first
       |((with_reducible refine (mP (p := fun b => q b /\ b < w12.heap.size) w12 (fun b hb => hb.2) (HDB.out.below (ae (ag _ _) HALT.out.1)) (rs ++ [seqP (D :: ks.drop (i + 1))]) Bz Nz dz HNZ.out (by rw [HNZ.out]; exact HALT.out.2.1) HALT.out.2.2.1 HALT.out.2.2.2.1 HALT.out.2.2.2.2.1 HALT.out.2.2.2.2.2).mono ?_); rintro e w11 hp; obtain ⟨A9, n9, c9, B9, m9, d9, rfl, h9, hb9⟩ := bV hp; have H11 : Hid (ai q w11 (altP (rs ++ [seqP (D :: ks.drop (i + 1))])) A9 n9 c9 B9 m9 d9 /\ Below (w.alloc zR).heap.size (w.alloc zR) w11) := Lh ⟨h9.mono (fun b hb => by
          rcases hb with hb | hb
          ·exact hb.1
          ·exact HQ.out.2.1 b (by have h1 := HALT.out.1.size; simp at h1; omega)), ae HALT.out.1 hb9⟩; clear hp h9 hb9)
       |(refine wB rfl 25 (.tmp 4) (.tmp 42) rfl w.heap.size 0 rfl [.int .i64 (altP (rs ++ [seqP (D :: ks.drop (i + 1))])).kind, .slice A9 n9 c9, .slice B9 m9 d9] rfl (HZ.out.below H11.out.2 (by simp)) 3 au ?_; intro w9 hst9; have Hw9 : Hid (aa w9 w.heap.size [.int .i64 (altP (rs ++ [seqP (D :: ks.drop (i + 1))])).kind, .slice A9 n9 c9, .slice B9 m9 d9] 25 /\ Below w.heap.size w w9 /\ ai q w9 (altP (rs ++ [seqP (D :: ks.drop (i + 1))])) A9 n9 c9 B9 m9 d9) := Lh ⟨hst9.1, hst9.below (ae (ag _ _) H11.out.2) (Nat.le_refl _), fO H11.out.1 hst9 HQ.out.2.2.2.1⟩; clear hst9))
     exact dw rfl w.heap.size rfl (C := [.int .i64 (altP (rs ++ [seqP (D :: ks.drop (i + 1))])).kind, .slice A9 n9 c9, .slice B9 m9 d9]) (T := 25) Hw9.out.1 _ Tryz.underlying25 rfl au rfl (.bool false) rfl (by
       rw [HR.out, HV.out];rw [<- HEQ.out, HALL.out];exact ⟨_, _, _, _, _, _, rfl, Hw9.out.2.2.mono (fun b hb => by rcases HQ.out.2.2.2.2 b hb with h | h; exact .inl h; exact .inr (by omega)), Hw9.out.2.1⟩)
    ·skip
     go_wp2_with (first
       |(refine aA rfl (.tmp 16) rfl b (o + i * 3) rfl Kk A2 B2 n2 c2 m2 d2 HRG.out ?_)
       |(refine wB rfl 25 (.tmp 8) (.tmp 17) rfl wr.heap.size 0 rfl (zV Kk A2 n2 c2 B2 m2 d2) rfl (aa.new' wr zL _ 25 rfl) 3 au ?_; intro w4 hst9; have Hw4 : Hid (aa w4 wr.heap.size (zV Kk A2 n2 c2 B2 m2 d2) 25 /\ Below wr.heap.size wr w4) := Lh (aZ hst9); clear hst9; have hrx4 := aM Hw4.out.1)
       |(refine aA rfl (.tmp 8) rfl wr.heap.size (0) rfl Kk A2 B2 n2 c2 m2 d2 hrx4 ?_)
       |((with_reducible refine (ky (p := p) HK.out.2.1 HK.out.1 (fun b hb => by have h1 := HQ.out.2.2.1 b hb; have h2 := HBW.out.size; have h3 := Hw4.out.2.size; omega) (HDB.out.below (ae HBW.out Hw4.out.2)) (HK.out.2.2.below (ae HBW.out Hw4.out.2)) D true HD.out.1 HD.out.2).mono ?_); rintro e w5 ⟨A8, n8, c8, B8, m8, d8, rfl, h8, hb8⟩; rw [<- HKD.out]; have H5 : Hid (ai (fun b => q b /\ some b ≠ (Value.slice B5 N5 d5).ownBlock) w5 D A8 n8 c8 B8 m8 d8 /\ Below wr.heap.size wr w5) := Lh ⟨h8.mono (fun b hb => by
          rcases hb with hb | hb
          ·exact HQO.out.1 b hb
          ·exact HQO.out.2 b (by have h3 := Hw4.out.2.size; omega)), ae Hw4.out.2 hb8⟩; clear h8 hb8)
       |(refine wB rfl 25 (.tmp 9) (.tmp 22) rfl w5.heap.size 0 rfl (zV K8 A8 n8 c8 B8 m8 d8) rfl (aa.new' w5 zL _ 25 rfl) 3 au ?_; intro w6 hst9; have Hw6 : Hid (aa w6 w5.heap.size (zV K8 A8 n8 c8 B8 m8 d8) 25 /\ Below w5.heap.size w5 w6) := Lh (aZ hst9); clear hst9; have hc60 := Hw6.out.1.cell (j := 0) rfl; have HB6 : Hid (Below wr.heap.size wr w6) := Lh (ae H5.out.2 Hw6.out.2); have HS0 : Hid ((fun w' : World => w'.rangeAt w5.heap.size 0 (zV K8 A8 n8 c8 B8 m8 d8)) w6.drew) := Lh (aM Hw6.out.1))
       )
     refine wp_region_held_drew (S := fun w' => w'.rangeAt w5.heap.size 0 (zV K8 A8 n8 c8 B8 m8 d8)) (by kernel_rfl) (HS0.out) (fun hS0 => ?_);refine bW 0 ?_;refine wX 1 rfl (yieldsIf_load_mid (by rfl) _ _ rfl _ _ rfl _ _ (fun w h => h) Tryz.underlying25 rfl au) ?_;refine bW 3 ?_;refine bW 4 ?_;refine bW 5 ?_;refine bW 6 ?_;refine wpAnyH_ready (rs := [2]) (by kernel_rfl) (by simp) ?_;refine wA rfl (fun K hK => ?_) AllReadyH.nil
     go_simp;have HX7 : Hid (aa (w6.alloc (zC K8 A8 n8 c8 B8 m8 d8)).drew w6.heap.size (zV K8 A8 n8 c8 B8 m8 d8) 25 /\ Below w6.heap.size w6 (w6.alloc (zC K8 A8 n8 c8 B8 m8 d8)).drew) := Lh ⟨aa.at w6 (zV K8 A8 n8 c8 B8 m8 d8) _ 25 _ rfl rfl, (ag _ _).drew⟩;refine hK.out _ _ (aM (Hw6.out.1.below HX7.out.2 Hw6.out.1.lt)) (fun hS1 => ?_);clear hK K hS0;(try simp only [Act.put, pP]);refine wpAnyH_ready (rs := [7]) (by kernel_rfl) (by simp) ?_;refine wA rfl (fun K hK => ?_) AllReadyH.nil
     go_simp;have HX8 : Hid (aa ((w6.alloc (zC K8 A8 n8 c8 B8 m8 d8)).alloc (.cells #[.slice (some ⟨w6.heap.size, 0, none⟩) 1 1, .slice (some ⟨b, o9, none⟩) (m - (i + 1)) (d - (i + 1))] 23)).drew (w6.heap.size + 1) [.slice (some ⟨w6.heap.size, 0, none⟩) 1 1, .slice (some ⟨b, o9, none⟩) (m - (i + 1)) (d - (i + 1))] 23 /\ Below w6.heap.size w6 ((w6.alloc (zC K8 A8 n8 c8 B8 m8 d8)).alloc (.cells #[.slice (some ⟨w6.heap.size, 0, none⟩) 1 1, .slice (some ⟨b, o9, none⟩) (m - (i + 1)) (d - (i + 1))] 23)).drew /\ aa ((w6.alloc (zC K8 A8 n8 c8 B8 m8 d8)).alloc (.cells #[.slice (some ⟨w6.heap.size, 0, none⟩) 1 1, .slice (some ⟨b, o9, none⟩) (m - (i + 1)) (d - (i + 1))] 23)).drew w6.heap.size (zV K8 A8 n8 c8 B8 m8 d8) 25) := Lh ⟨aa.at (w6.alloc (zC K8 A8 n8 c8 B8 m8 d8)) [.slice (some ⟨w6.heap.size, 0, none⟩) 1 1, .slice (some ⟨b, o9, none⟩) (m - (i + 1)) (d - (i + 1))] _ 23 _ rfl (by simp), (aB (ag _ _) _).drew, (aa.at w6 (zV K8 A8 n8 c8 B8 m8 d8) _ 25 _ rfl rfl).alloc _⟩;refine hK.out _ _ (aM (Hw6.out.1.below HX8.out.2.1 Hw6.out.1.lt)) (fun hS2 => ?_);clear hK K hS1;obtain ⟨x8, hx8⟩ : ∃ x, x = ((w6.alloc (zC K8 A8 n8 c8 B8 m8 d8)).alloc (.cells #[.slice (some ⟨w6.heap.size, 0, none⟩) 1 1, .slice (some ⟨b, o9, none⟩) (m - (i + 1)) (d - (i + 1))] 23)).drew := ⟨_, rfl⟩;rw [<- hx8] at HX8 ⊢;clear hx8;(try simp only [Act.put, pP]);refine wpAnyH_ready (rs := [8]) (by kernel_rfl) (by simp) ?_;refine wA rfl (fun K hK => ?_) AllReadyH.nil
     go_simp;have hcat := xm (p := fun b => (fun b => q b /\ some b ≠ (Value.slice B5 N5 d5).ownBlock) b /\ b < x8.heap.size) 2 (w6.heap.size + 1) (fun j => if j = 0 then some ⟨w6.heap.size, 0, none⟩ else some ⟨b, o9, none⟩) (fun j => if j = 0 then 1 else m - (i + 1)) (fun j => if j = 0 then 1 else d - (i + 1)) (fun j => if j = 0 then [D] else ks.drop (i + 1)) x8 (by omega) (fun j hj => by
        match j, hj with
        | 0, _ => exact HX8.out.1.cell (j := 0) rfl
        | 1, _ => exact HX8.out.1.cell (j := 1) rfl) (fun j hj => by
        match j, hj with
        | 0, _ =>
          have hB : aa x8 w6.heap.size (zV D.kind A8 n8 c8 B8 m8 d8) 25 := by rw [<- HKD.out]; exact HX8.out.2.2
          have hD8 := H5.out.1.below (ae Hw6.out.2 HX8.out.2.1);exact ⟨rfl, aG.e (aG.one (hD8.and hD8.o.toP).q) fun j v hv => by rw [Nat.zero_add]; exact hB.cell hv⟩
        | 1, _ => exact ⟨by show m - (i + 1) = _; rw [if_neg (by decide), List.length_drop, HL.out.1], (HDROP.out.below (ae HBW.out (ae HB6.out HX8.out.2.1))).mono fun b hb => ⟨HQO.out.1 b hb, by have h1 := HQ.out.2.2.1 b hb; have h2 := HBW.out.size; have h3 := HB6.out.size; have h4 := HX8.out.2.1.size; omega⟩⟩) (fun b hb => hb.2) (by simp [eG]) (by
        have h1 := HIL.out;have h2 := HL.out.1;simp [eG]; omega)
     go_at_call 125;refine hcat.mono ?_;rintro e x9 ⟨v9, rfl, hr9, hb9⟩;obtain ⟨B9, d9, rfl, h9a, h9b, h9c, _⟩ := hr9.e;have ecat : eG (fun j => if j = 0 then [D] else ks.drop (i + 1)) 2 = D :: ks.drop (i + 1) := rfl;rw [ecat] at h9a h9c ⊢;obtain ⟨N9, hN9⟩ : ∃ N, N = (D :: ks.drop (i + 1)).length := ⟨_, rfl⟩;rw [<- hN9] at h9a ⊢;have HX9 : Hid (aU (fun b => (fun b => q b /\ some b ≠ (Value.slice B5 N5 d5).ownBlock) b /\ b < x9.heap.size) x9 (D :: ks.drop (i + 1)) B9 /\ N9 <= d9 /\ d9 <= 9223372036854775807 /\ Below w6.heap.size w6 x9 /\ N9 = (D :: ks.drop (i + 1)).length) := Lh ⟨(h9c.mono (fun b hb => by
        rcases hb.1 with h | h
        · exact h.1
        · exact HQO.out.2 b (by have h3 := HB6.out.size; have h4 := HX8.out.2.1.size; omega))).lt, h9a, h9b, ae HX8.out.2.1 hb9, hN9⟩
     clear hr9 hb9 h9a h9b h9c hcat hN9 ecat;refine hK.out _ _ (aM (Hw6.out.1.below HX9.out.2.2.2.1 Hw6.out.1.lt)) (fun hS3 => ?_);clear hK K hS2;(try simp only [Act.put, pP]);refine wpAnyH_ready (rs := [9]) (by kernel_rfl) (by simp) ?_;refine wA rfl (fun K hK => ?_) AllReadyH.nil
     go_simp;go_at_call 81;refine (pV (p := fun b => (fun b => q b /\ some b ≠ (Value.slice B5 N5 d5).ownBlock) b /\ b < x9.heap.size) x9 (fun b hb => hb.2) (D :: ks.drop (i + 1)) B9 N9 d9 HX9.out.2.2.2.2 HX9.out.2.1 HX9.out.2.2.1 (fun x hx => by
        rcases List.mem_cons.1 hx with rfl | hx
        · exact HND.out
        · exact HL.out.2.2.1 x (List.mem_of_mem_drop hx)) (by have := HDC.out; simp only [ah]; omega) HX9.out.1).mono ?_
     rintro e x10 hp;obtain ⟨A10, n10, c10, B10, m10, d10, rfl, h10, hb10⟩ := bV hp;have HX10 : Hid (ai (fun b => q b /\ some b ≠ (Value.slice B5 N5 d5).ownBlock) x10 (seqP (D :: ks.drop (i + 1))) A10 n10 c10 B10 m10 d10 /\ Below w6.heap.size w6 x10) := Lh ⟨h10.mono (fun b hb => by
        rcases hb with hb | hb
        · exact hb.1
        · exact HQO.out.2 b (by have h3 := HB6.out.size; have h4 := HX9.out.2.2.2.1.size; omega)), ae HX9.out.2.2.2.1 hb10⟩
     clear hp h10 hb10;refine hK.out _ _ (aM (Hw6.out.1.below HX10.out.2 Hw6.out.1.lt)) (fun hS4 => ?_);clear hK K hS3;(try simp only [Act.put, pP]);refine wpAnyH_ready (rs := [10]) (by kernel_rfl) (by simp) ?_;refine wA rfl (fun K hK => ?_) AllReadyH.nil
     go_simp;have HX11 : Hid (Below w6.heap.size w6 (x10.alloc (.cells #[.int .i64 (seqP (D :: ks.drop (i + 1))).kind, .slice A10 n10 c10, .slice B10 m10 d10] 25))) := Lh (aB HX10.out.2 _);refine hK.out _ _ (aM (Hw6.out.1.below HX11.out Hw6.out.1.lt)) (fun hS5 => ?_);clear hK K hS4;(try simp only [Act.put, pP]);refine wpAnyH_ready (rs := [11]) (by kernel_rfl) (by simp) ?_;refine AllReadyH.cons (o := ⟨some 38, .call { callee := .builtin Builtin.append, args := #[.tmp 27, .tmp 37], argTypes := #[23, 23] }, 23, _, _, none⟩) rfl (fun K hK => ?_) AllReadyH.nil
     refine rf rfl (.tmp 27) (.tmp 37) 23 23 rfl (w.heap.size + 1) 25 i0 _ 3 56 Tryz.underlying23 hi0 hz0 hz1 hz2 rfl _ _ _ rfl (dW HO.out (ae HB6.out HX11.out)) _ 1 [.int .i64 (seqP (D :: ks.drop (i + 1))).kind, .slice A10 n10 c10, .slice B10 m10 d10] rfl (gP hz1 _ _ _ _ _ _ _ _) hs1 hs2 (by have h1 := HBS.out.size; have h2 := HB6.out.size; have h3 := HX11.out.size; simp at h1 h3 ⊢; omega) ?_;intro v12 w12 hown12 hg12 hat12;have HX12 : Hid (az q (w.heap.size + 1) v12 (rs ++ [seqP (D :: ks.drop (i + 1))]) w12 /\ Below (w.alloc zR).heap.size (w.alloc zR) w12 /\ w12.rangeAt w5.heap.size 0 (zV K8 A8 n8 c8 B8 m8 d8)) := Lh ⟨az.app HC.out (ae HB6.out HX11.out) (aG.one (HX10.out.1.below (ag _ _)).q) rfl hg12 hat12 (by rw [<- HN5.out]; exact hown12), dJ (ae HBS.out (ae HB6.out HX11.out)) hg12 (fun g hg => by have h1 := (HO.out.lt _ hg).1; simpa using h1), aM ((Hw6.out.1.below HX11.out Hw6.out.1.lt).grown hg12 (fun e => by have h1 := (HO.out.lt _ e.symm).2; have h2 := H5.out.2.size; omega))⟩;clear hown12 hg12 hat12;refine hK.out _ _ HX12.out.2.2 (fun hS6 => ?_);clear hK K hS5;(try simp only [Act.put, pP]);refine bW 12 ?_;refine wpAnyH_done (by kernel_rfl) ?_ _;have HX6 : Hid (az q (w.heap.size + 1) v12 (rs ++ [seqP (D :: ks.drop (i + 1))]) w12 /\ Below (w.alloc zR).heap.size (w.alloc zR) w12) := Lh ⟨HX12.out.1, HX12.out.2.1⟩;have HNF : Hid (∀ y ∈ rs ++ [seqP (D :: ks.drop (i + 1))], NF y) := Lh (fun y hy => by
       rcases List.mem_append.1 hy with hy | hy
       ·exact HI.out.2.2.2.2.1 y hy
       ·rw [show y = seqP (D :: ks.drop (i + 1)) by simpa using hy]; exact NF.seqP fun z hz => by
          rcases List.mem_cons.1 hz with rfl | hz
          ·exact HND.out
          ·exact HL.out.2.2.1 z (List.mem_of_mem_drop hz))
     go_wp2_with fail
     go_roundg gg
     case rel => exact ⟨i + 1, rs ++ [seqP (D :: ks.drop (i + 1))], by omega, by go_num, Lh ⟨by
       have h1 := HI.out.1;have h2 := HSTEP.out;rw [if_pos HK0.out, if_pos (by first | rfl | trivial)] at h2;rw [h2] at h1
       simpa using h1, by rw [List.take_succ_eq_append_getElem HIL.out, List.all_append, HI.out.2.1, <- dO HIL.out]; simp [<- HD.out.2], HX6.out.1, HX6.out.2, HNF.out, by have h1 := HI.out.2.2.2.2.2; simp; omega⟩⟩
     case measure => omega
  ·skip
   obtain rfl : m = i := by omega
   have HX6 : Hid (az q (w.heap.size + 1) (.slice B5 N5 d5) rs wr /\ Below (w.alloc zR).heap.size (w.alloc zR) wr) := Lh ⟨HI.out.2.2.1, HI.out.2.2.2.1⟩;have HNF : Hid (∀ y ∈ rs, NF y) := Lh HI.out.2.2.2.2.1;have HEQ : Hid (rs = eB s ks) := Lh (by
    have h1 := HI.out.1;rw [List.drop_of_length_le (by rw [HL.out.1]; exact Nat.le_refl _), eB, List.append_nil] at h1;exact h1)
   have HALL : Hid (ks.all aL = true) := Lh (by
    have h1 := HI.out.2.1
    rwa [List.take_of_length_le (by rw [HL.out.1]; exact Nat.le_refl _)] at h1)
   have HALT : Hid (Below (w.alloc zR).heap.size (w.alloc zR) wr /\ rs.length <= d5 /\ d5 <= 9223372036854775807 /\ (∀ y ∈ rs, NF y) /\ ah rs <= 1000000000000 /\ aU (fun b => q b /\ b < wr.heap.size) wr rs B5) := Lh ⟨HX6.out.2, h5a, h5b, HNF.out, by
    have h1 := oF (s := s) HL.out.2.2.1;have h2 := iN (a := ah ks + 1) (b := 1000000) (by have := dN ks; omega) HL.out.2.2.2;rw [HEQ.out]; omega, (h5c.mono fun b hb => hb.1).lt⟩
   clear h5a h5b h5c h5d hN5
   go_wp2_with (first
    |((with_reducible refine (mP (p := fun b => q b /\ b < wr.heap.size) wr (fun b hb => hb.2) (HDB.out.below (ae (ag _ _) HALT.out.1)) (rs) B5 N5 d5 HN5.out (by rw [HN5.out]; exact HALT.out.2.1) HALT.out.2.2.1 HALT.out.2.2.2.1 HALT.out.2.2.2.2.1 HALT.out.2.2.2.2.2).mono ?_); rintro e w11 hp; obtain ⟨A9, n9, c9, B9, m9, d9, rfl, h9, hb9⟩ := bV hp; have H11 : Hid (ai q w11 (altP (rs)) A9 n9 c9 B9 m9 d9 /\ Below (w.alloc zR).heap.size (w.alloc zR) w11) := Lh ⟨h9.mono (fun b hb => by
       rcases hb with hb | hb
       ·exact hb.1
       ·exact HQ.out.2.1 b (by have h1 := HALT.out.1.size; simp at h1; omega)), ae HALT.out.1 hb9⟩; clear hp h9 hb9)
    |(refine wB rfl 25 (.tmp 4) (.tmp 45) rfl w.heap.size 0 rfl [.int .i64 (altP (rs)).kind, .slice A9 n9 c9, .slice B9 m9 d9] rfl (HZ.out.below H11.out.2 (by simp)) 3 au ?_; intro w9 hst9; have Hw9 : Hid (aa w9 w.heap.size [.int .i64 (altP (rs)).kind, .slice A9 n9 c9, .slice B9 m9 d9] 25 /\ Below w.heap.size w w9 /\ ai q w9 (altP (rs)) A9 n9 c9 B9 m9 d9) := Lh ⟨hst9.1, hst9.below (ae (ag _ _) H11.out.2) (Nat.le_refl _), fO H11.out.1 hst9 HQ.out.2.2.2.1⟩; clear hst9))
   exact dw rfl w.heap.size rfl (C := [.int .i64 (altP (rs)).kind, .slice A9 n9 c9, .slice B9 m9 d9]) (T := 25) Hw9.out.1 _ Tryz.underlying25 rfl au rfl (.bool true) rfl (by
    rw [HR.out, HV.out];rw [<- HEQ.out, HALL.out];exact ⟨_, _, _, _, _, _, rfl, Hw9.out.2.2.mono (fun b hb => by rcases HQ.out.2.2.2.2 b hb with h | h; exact .inl h; exact .inr (by omega)), Hw9.out.2.1⟩)
namespace Rgx
structure Tn (x : Rx) : Prop where
 kin : (normR true x).kind = x.kind
 inv : normR true (normR true x) = x
 sub : ∀ y ∈ x.kids, (normR true y).kind = y.kind
 kid : x.kind = 4 -> ∀ z, z ∈ (normR true x).kids ↔ ∃ y ∈ x.kids, normR true y = z
theorem rZ {x : Rx} (h3 : x.kind ≠ 3) (h4 : x.kind ≠ 4) (h5 : x.kind ≠ 5) : normR true x = x := by
 rw [bX, if_neg h3, if_neg h4, if_neg h5]
theorem uz {L : List Rx} (hl : 2 <= L.length) (hk : ∀ x ∈ L, x.kind ≠ 0 /\ x.kind ≠ 1 /\ x.kind ≠ 3) : seqP L = .mk 3 [] L := by
 rw [iH, if_neg, tC hk]
 ·match L, hl with
  |a :: b :: t, _ => rfl
 ·rw [List.any_eq_true];rintro ⟨x, hx, h⟩;exact (hk x hx).1 (by simpa using h)
theorem Fs {L : List Rx} (hN : ∀ x ∈ L, NF x) (h0 : ∀ x ∈ L, x.kind ≠ 0) (h1 : ∀ x ∈ L, ∀ y ∈ L, x.kind = 2 -> y.kind = 2 -> x = y) (he : (∃ x ∈ L, x.kind = 1) -> ∀ x ∈ L, 2 < x.kind -> aL x = false) (z : Rx) : z ∈ altOut L ↔ z ∈ L := by
 have hs : ∀ y ∈ L, y.kind = 2 -> bO L = y.syms /\ y.syms ≠ [] := fun y hy hk => by
  have h2 := ((hN y hy).k2 hk).2;refine ⟨xP h2 fun s => ⟨?_, fun h => ⟨y, hy, h⟩⟩, (gW.1 h2).1⟩;rintro ⟨y', hy', hs⟩;have hk' : y'.kind = 2 := Classical.byContradiction fun e => by
   rw [(hN y' hy').syms e] at hs
   cases hs
  rw [h1 y' hy' y hy hk' hk] at hs;exact hs
 rw [fH];constructor
 ·rintro (⟨h, _⟩ | ⟨h, rfl⟩ | ⟨h, rfl⟩)
  ·exact h
  ·obtain ⟨s, hs2⟩ := List.exists_mem_of_ne_nil _ h;obtain ⟨_, y, hy, hsy⟩ := iE.1 hs2;have hk : y.kind = 2 := Classical.byContradiction fun e => by
    rw [(hN y hy).syms e] at hsy
    cases hsy
   rw [(hs y hy hk).1, <- ((hN y hy).k2 hk).1];exact hy
  ·obtain ⟨⟨y, hy, hk⟩, _⟩ := iM.1 h;rw [<- (hN y hy).k1 hk]; exact hy
 ·intro hz;have hr := (hN z hz).rng;have hz0 := h0 z hz
  by_cases k1 : z.kind = 1
  ·exact .inr (.inr ⟨iM.2 ⟨⟨z, hz, k1⟩, he ⟨z, hz, k1⟩⟩, (hN z hz).k1 k1⟩)
  ·by_cases k2 : z.kind = 2
   ·refine .inr (.inl ⟨by rw [(hs z hz k2).1]; exact (hs z hz k2).2, ?_⟩);rw [(hs z hz k2).1]; exact ((hN z hz).k2 k2).1
   ·exact .inl ⟨hz, by omega⟩
theorem A7 {S : List Rx} {a b : Rx} (ha : a ∈ S) (hb : b ∈ S) (hne : a ≠ b) : altEnd S = .mk 4 [] S := by
 match S, ha, hb with
 |[x], ha, hb => exact absurd ((List.mem_singleton.1 ha).trans (List.mem_singleton.1 hb).symm) hne
 |x :: y :: t, _, _ => rfl
theorem gV {x : Rx} (h : NF x) : Tn x := by
 induction x using Rx.ind with
 |h x ih0 =>
  have ih : ∀ y ∈ x.kids, Tn y := fun y hy => ih0 y hy (h.kids y hy)
  by_cases h3 : x.kind = 3
  ·obtain ⟨e, hl, hk⟩ := h.k3 h3;have hL : ∀ z ∈ (x.kids.map (normR true)).reverse, z.kind ≠ 0 /\ z.kind ≠ 1 /\ z.kind ≠ 3 := fun z hz => by
    obtain ⟨y, hy, rfl⟩ := List.mem_map.1 (List.mem_reverse.1 hz);rw [(ih y hy).kin]; exact hk y hy
   have e1 : normR true x = .mk 3 [] (x.kids.map (normR true)).reverse := by
    rw [bX, if_pos h3];exact uz (by simpa [lX] using hl) hL
   refine ⟨by rw [e1, h3]; rfl, ?_, fun y hy => (ih y hy).kin, fun h4 => by omega⟩;rw [e1, bX, if_pos (show (Rx.mk 3 [] (x.kids.map (normR true)).reverse).kind = 3 from rfl)];show seqP (((x.kids.map (normR true)).reverse.map (normR true)).reverse) = x;rw [List.map_reverse, List.reverse_reverse, List.map_map, rY (f := normR true ∘ normR true) (fun y hy => (ih y hy).inv)];exact wF h h3
  ·by_cases h4 : x.kind = 4
   ·obtain ⟨e, hl, hk⟩ := h.k4 h4;obtain ⟨L, hLd⟩ : ∃ L, L = x.kids.map (normR true) := ⟨_, rfl⟩;have hm : ∀ z, z ∈ L ↔ ∃ y ∈ x.kids, normR true y = z := fun z => by rw [hLd]; exact List.mem_map
    have hN : ∀ z ∈ L, NF z := fun z hz => by
     obtain ⟨y, hy, rfl⟩ := (hm z).1 hz;exact NF.normR true (h.kids y hy).val
    have hkin : ∀ z ∈ L, z.kind ≠ 0 /\ z.kind ≠ 4 := fun z hz => by
     obtain ⟨y, hy, rfl⟩ := (hm z).1 hz;rw [(ih y hy).kin]; exact hk.kin y hy
    have hmem : ∀ z, z ∈ altOut L ↔ z ∈ L := Fs hN (fun z hz => (hkin z hz).1) (fun z hz z' hz' k2 k2' => by
     obtain ⟨y, hy, rfl⟩ := (hm z).1 hz;obtain ⟨y', hy', rfl⟩ := (hm z').1 hz';rw [(ih y hy).kin] at k2;rw [(ih y' hy').kin] at k2';rw [hk.one y hy y' hy' k2 k2']) (fun ⟨z, hz, k1⟩ z' hz' k2 => by
     obtain ⟨y, hy, rfl⟩ := (hm z).1 hz;obtain ⟨y', hy', rfl⟩ := (hm z').1 hz';rw [(ih y hy).kin] at k1;rw [(ih y' hy').kin] at k2;rw [yU true (h.kids y' hy').val];exact hk.emp ⟨y, hy, k1⟩ y' hy' k2)
    obtain ⟨a, b, ha, hb, hne⟩ : ∃ a b, a ∈ x.kids /\ b ∈ x.kids /\ a ≠ b := by
     match hq : x.kids, hl, hk.srt with
     |a :: b :: t, _, hs =>
      refine ⟨a, b, by simp, by simp, fun e => ?_⟩;have h1 := (List.pairwise_cons.1 hs).1 b (by simp);rw [e] at h1;exact h1.irr
    have hne2 : normR true a ≠ normR true b := fun e => hne (by rw [<- (ih a ha).inv, e, (ih b hb).inv])
    have e1 : normR true x = .mk 4 [] (altOut L) := by
     rw [bX, if_neg h3, if_pos h4, <- hLd];unfold altP;rw [iV fun z hz => (hkin z hz).2];exact A7 ((hmem _).2 ((hm _).2 ⟨a, ha, rfl⟩)) ((hmem _).2 ((hm _).2 ⟨b, hb, rfl⟩)) hne2
    refine ⟨by rw [e1, h4]; rfl, ?_, fun y hy => (ih y hy).kin, fun _ z => by rw [e1]; exact (hmem z).trans (hm z)⟩;rw [e1, bX, if_neg (show ¬ (Rx.mk 4 [] (altOut L)).kind = 3 by simp [Rx.kind]), if_pos (show (Rx.mk 4 [] (altOut L)).kind = 4 from rfl)];show altP ((altOut L).map (normR true)) = x;have hz : ∀ z, z ∈ (altOut L).map (normR true) ↔ z ∈ x.kids := fun z => by
     rw [List.mem_map];constructor
     ·rintro ⟨y, hy, rfl⟩;obtain ⟨k, hk2, rfl⟩ := (hm y).1 ((hmem y).1 hy);rw [(ih k hk2).inv]; exact hk2
     ·intro hz;exact ⟨normR true z, (hmem _).2 ((hm _).2 ⟨z, hz, rfl⟩), (ih z hz).inv⟩
    unfold altP;rw [iV fun z hz2 => (hk.kin z ((hz z).1 hz2)).2, (gM.of_mem hz).alt];have h6 := oC h h4;unfold altP at h6
    rwa [iV fun z hz2 => (hk.kin z hz2).2] at h6
   ·by_cases h5 : x.kind = 5
    ·obtain ⟨y, e, h6, h7, h8⟩ := h.k5 h5;have hy : y ∈ x.kids := by rw [e]; simp [Rx.kids]
     have hy2 := ih y hy;have e1 : normR true x = .mk 5 [] [normR true y] := by
      rw [bX, if_neg h3, if_neg h4, if_pos h5, e];show starP (normR true y) = _;refine qo (NF.normR true h6.val) (by rw [hy2.kin]; exact h7) fun k4 z hz => ?_
      rw [hy2.kin] at k4;obtain ⟨k, hk, rfl⟩ := (hy2.kid k4 z).1 hz;rw [hy2.sub k hk];exact h8 k4 k hk
     refine ⟨by rw [e1, h5]; rfl, ?_, fun y hy => (ih y hy).kin, fun h4' => absurd h4' h4⟩;rw [e1, bX, if_neg (show ¬ (Rx.mk 5 [] [normR true y]).kind = 3 by simp [Rx.kind]), if_neg (show ¬ (Rx.mk 5 [] [normR true y]).kind = 4 by simp [Rx.kind]), if_pos (show (Rx.mk 5 [] [normR true y]).kind = 5 from rfl)];show starP (normR true (normR true y)) = x;rw [hy2.inv, qo h6 h7 h8, e]
    ·have e1 := rZ h3 h4 h5;exact ⟨by rw [e1], by rw [e1, e1], fun y hy => (ih y hy).kin, fun h => absurd h h4⟩
theorem xE {x : Rx} (h : NF x) (h3 : x.kind = 3) : normR true x = .mk 3 [] (x.kids.map (normR true)).reverse := by
 obtain ⟨e, hl, hk⟩ := h.k3 h3;rw [bX, if_pos h3];exact uz (by simpa [lX] using hl) fun z hz => by
  obtain ⟨y, hy, rfl⟩ := List.mem_map.1 (List.mem_reverse.1 hz);rw [(gV (h.kids y hy)).kin]; exact hk y hy
theorem Cu {m : Rx} (h : NF m) : spl (normR true m) = ((spl m).map (normR true)).reverse := by
 have hk := (gV h).kin
 by_cases h3 : m.kind = 3
 ·rw [xE h h3];unfold spl;rw [if_pos h3, if_pos (show (Rx.mk 3 [] (m.kids.map (normR true)).reverse).kind = 3 from rfl)]
  rfl
 ·by_cases h1 : m.kind = 1
  ·unfold spl;rw [if_neg (by rw [hk]; exact h3), if_pos (by rw [hk]; exact h1), if_neg h3, if_pos h1]; rfl
  ·rw [mF ⟨by rw [hk]; exact h1, by rw [hk]; exact h3⟩, mF ⟨h1, h3⟩]; rfl
theorem uC : ∀ {M : List Rx}, (∀ x ∈ M, NF x) -> ((M.map (normR true)).reverse).flatMap spl = ((M.flatMap spl).map (normR true)).reverse
 |[], _ => rfl
 |m :: t, h => by
  rw [List.map_cons, List.reverse_cons, List.flatMap_append, uC fun x hx => h x (by simp [hx]), show (m :: t).flatMap spl = spl m ++ t.flatMap spl from rfl, List.map_append, List.reverse_append]
  congr 1
  show spl (normR true m) ++ [] = _;rw [List.append_nil];exact Cu (h m (by simp))
theorem Ck {M : List Rx} (h : ∀ x ∈ M, NF x) : normR true (seqP M) = seqP ((M.map (normR true)).reverse) := by
 have ha : ((M.map (normR true)).reverse).any (fun x => decide (x.kind = 0)) = M.any (fun x => decide (x.kind = 0)) := by
  rw [List.any_reverse, List.any_map, Bool.eq_iff_iff, List.any_eq_true, List.any_eq_true];constructor
  ·rintro ⟨x, hx, e⟩; exact ⟨x, hx, by simpa [(gV (h x hx)).kin] using e⟩
  ·rintro ⟨x, hx, e⟩; exact ⟨x, hx, by simpa [(gV (h x hx)).kin] using e⟩
 rw [iH M, iH ((M.map (normR true)).reverse), ha, uC h]
 cases h0 : M.any (fun x => decide (x.kind = 0)) with
 |true => rw [if_pos rfl, if_pos rfl]; rfl
 |false =>
  rw [if_neg (by simp), if_neg (by simp)];have hF := NF.flat h h0;obtain ⟨F, hFe⟩ : ∃ F, F = M.flatMap spl := ⟨_, rfl⟩;rw [<- hFe] at hF ⊢
  match F, hF with
  |[], _ => rfl
  |[x], _ => rfl
  |a :: b :: t, hF =>
   show normR true (.mk 3 [] (a :: b :: t)) = _;rw [xE (NF.seq (by simp) (fun x hx => (hF x hx).1) fun x hx => (hF x hx).2) rfl];show Rx.mk 3 [] (((a :: b :: t).map (normR true)).reverse) = _
   match hq : ((a :: b :: t).map (normR true)).reverse with
   |[] => simp at hq
   |[x] => have := congrArg List.length hq; simp at this
   |x :: y :: u => rfl
theorem xu {y : Rx} (h : NF y) : (normR true y).syms = y.syms := by
 by_cases h2 : y.kind = 2
 ·rw [rZ (by omega) (by omega) (by omega)]
 ·rw [h.syms h2, (NF.normR true h.val).syms (by rw [(gV h).kin]; exact h2)]
theorem Ex {f g : List Rx} (hf : ∀ x ∈ f, NF x) (hg : ∀ x ∈ g, NF x) (h : gM f g) : gM (f.map (normR true)) (g.map (normR true)) := by
 refine ⟨fun z hz => ?_, fun s => ?_, fun ha => ?_⟩
 ·rw [List.mem_map, List.mem_map];constructor
  ·rintro ⟨y, hy, rfl⟩; exact ⟨y, (h.big y (by rw [(gV (hf y hy)).kin] at hz; exact hz)).1 hy, rfl⟩
  ·rintro ⟨y, hy, rfl⟩; exact ⟨y, (h.big y (by rw [(gV (hg y hy)).kin] at hz; exact hz)).2 hy, rfl⟩
 ·have e : ∀ l : List Rx, (∀ x ∈ l, NF x) -> ((∃ x ∈ l.map (normR true), s ∈ x.syms) ↔ ∃ x ∈ l, s ∈ x.syms) := fun l hl => by
   constructor
   ·rintro ⟨x, hx, hs⟩;obtain ⟨y, hy, rfl⟩ := List.mem_map.1 hx;exact ⟨y, hy, by rwa [xu (hl y hy)] at hs⟩
   ·rintro ⟨y, hy, hs⟩;exact ⟨_, List.mem_map.2 ⟨y, hy, rfl⟩, by rwa [xu (hl y hy)]⟩
  rw [e f hf, e g hg]; exact h.sym s
 ·have e : ∀ l : List Rx, (∀ x ∈ l, NF x) -> ((∃ x ∈ l.map (normR true), x.kind = 1) ↔ ∃ x ∈ l, x.kind = 1) := fun l hl => by
   constructor
   ·rintro ⟨x, hx, hs⟩;obtain ⟨y, hy, rfl⟩ := List.mem_map.1 hx;exact ⟨y, hy, by rwa [(gV (hl y hy)).kin] at hs⟩
   ·rintro ⟨y, hy, hs⟩;exact ⟨_, List.mem_map.2 ⟨y, hy, rfl⟩, by rwa [(gV (hl y hy)).kin]⟩
  rw [e f hf, e g hg];exact h.emp fun x hx hk => by
   have := ha _ (List.mem_map.2 ⟨x, hx, rfl⟩) (by rw [(gV (hf x hx)).kin]; exact hk)
   rwa [yU true (hf x hx).val] at this
theorem uQ : ∀ {M : List Rx}, (∀ x ∈ M, NF x) -> bA (M.map (normR true)) ((flatR M).map (normR true))
 |[], _ => bA.refl _
 |m :: t, h => by
  have ih := uQ (M := t) fun x hx => h x (by simp [hx])
  have hm := h m (by simp);rw [qV, List.map_append];show bA ([normR true m] ++ t.map (normR true)) _;refine bA.app ?_ ih;unfold flt
  by_cases h4 : m.kind = 4
  ·rw [if_pos h4, bX, if_neg (by omega), if_pos h4];exact bA.in_ fun z hz => by
    obtain ⟨y, hy, rfl⟩ := List.mem_map.1 hz;exact NF.normR true (hm.kids y hy).val
  ·rw [if_neg h4]; exact bA.refl _
theorem ul {M : List Rx} (h : ∀ x ∈ M, NF x) : normR true (altP M) = altP (M.map (normR true)) := by
 have hF := NF.flatR h;rw [(uQ h).of];obtain ⟨F, hFe⟩ : ∃ F, F = flatR M := ⟨_, rfl⟩;rw [<- hFe] at hF ⊢;have hS : ∀ x ∈ altOut F, NF x := NF.altOut hF;have hK := NF.altK hF;have hA : gM (altOut F) F := by have := su (A := []) (B := []) hF; simpa using this
 have e1 : altP (F.map (normR true)) = altP ((altOut F).map (normR true)) := by
  unfold altP;rw [iV (F := F.map (normR true)) fun z hz => by
   obtain ⟨y, hy, rfl⟩ := List.mem_map.1 hz;rw [(gV (hF y hy).1).kin]; exact (hF y hy).2, iV (F := (altOut F).map (normR true)) fun z hz => by
   obtain ⟨y, hy, rfl⟩ := List.mem_map.1 hz;rw [(gV (hS y hy)).kin]; exact (hK.kin y hy).2, (Ex hS (fun x hx => (hF x hx).1) hA).alt]
 rw [e1];have e2 : altP M = altEnd (altOut F) := by rw [hFe]; rfl
 rw [e2];obtain ⟨S, hSe⟩ : ∃ S, S = altOut F := ⟨_, rfl⟩;rw [<- hSe] at hS ⊢
 match S, hS with
 |[], _ => rfl
 |[x], hS =>
  show normR true x = altP [normR true x];rw [yI (NF.normR true (hS x (by simp)).val)]
 |a :: b :: t, _ =>
  show normR true (.mk 4 [] (a :: b :: t)) = _;rw [bX, if_neg (show ¬ (Rx.mk 4 [] (a :: b :: t)).kind = 3 by simp [Rx.kind]), if_pos (show (Rx.mk 4 [] (a :: b :: t)).kind = 4 from rfl)]
  rfl
theorem Cw {y : Rx} (h : NF y) : normR true (starP y) = starP (normR true y) := by
 have hT := gV h
 by_cases h01 : y.kind = 0 \/ y.kind = 1
 ·have e1 : normR true y = y := rZ (by omega) (by omega) (by omega);have e2 : starP y = .mk 1 [] [] := by unfold starP; rw [if_pos h01]
  rw [e1, e2]; rfl
 ·by_cases h5 : y.kind = 5
  ·have e1 : starP y = y := by unfold starP; rw [if_neg h01, if_pos h5]
   have e2 : starP (normR true y) = normR true y := by unfold starP; rw [hT.kin, if_neg h01, if_pos h5]
   rw [e1, e2]
  ·obtain ⟨w, hw⟩ : ∃ w, w = (if y.kind = 4 then altP (y.kids.filter fun z => decide (z.kind ≠ 1)) else y) := ⟨_, rfl⟩;have e1 : starP y = .mk 5 [] [w] := by unfold starP; rw [if_neg h01, if_neg h5, hw]
   have e2 : starP (normR true y) = .mk 5 [] [if y.kind = 4 then altP ((normR true y).kids.filter fun z => decide (z.kind ≠ 1)) else normR true y] := by
    unfold starP; rw [hT.kin, if_neg h01, if_neg h5]
   have hS : NF (starP y) := NF.starP h;rw [e1] at hS;have e3 : normR true (.mk 5 [] [w]) = starP (normR true w) := by
    rw [bX, if_neg (show ¬ (Rx.mk 5 [] [w]).kind = 3 by simp [Rx.kind]), if_neg (show ¬ (Rx.mk 5 [] [w]).kind = 4 by simp [Rx.kind]), if_pos (show (Rx.mk 5 [] [w]).kind = 5 from rfl)]; rfl
   obtain ⟨w', ew, h6, h7, h8⟩ := hS.k5 rfl;obtain rfl : w = w' := by simpa using ew
   have hW := gV h6;have e4 : starP (normR true w) = .mk 5 [] [normR true w] := qo (NF.normR true h6.val) (by rw [hW.kin]; exact h7) fun k4 z hz => by
    rw [hW.kin] at k4;obtain ⟨k, hk, rfl⟩ := (hW.kid k4 z).1 hz;rw [hW.sub k hk];exact h8 k4 k hk
   rw [e1, e3, e4, e2]
   by_cases h4 : y.kind = 4
   ·rw [if_pos h4] at hw ⊢;rw [hw, ul fun x hx => h.kids x (List.mem_filter.1 hx).1];have hk := (h.k4 h4).2.2
    congr 2
    unfold altP;rw [iV fun z hz => by
     obtain ⟨k, hk2, rfl⟩ := List.mem_map.1 hz;rw [hT.sub k (List.mem_filter.1 hk2).1]; exact (hk.kin k (List.mem_filter.1 hk2).1).2, iV fun z hz => by
     obtain ⟨k, hk2, rfl⟩ := (hT.kid h4 z).1 (List.mem_filter.1 hz).1;rw [hT.sub k hk2]; exact (hk.kin k hk2).2]
    rw [(gM.of_mem fun z => ?_).alt];rw [List.mem_map, List.mem_filter, hT.kid h4];constructor
    ·rintro ⟨k, hk2, rfl⟩;obtain ⟨a, b⟩ := List.mem_filter.1 hk2;exact ⟨⟨k, a, rfl⟩, by rw [hT.sub k a]; exact b⟩
    ·rintro ⟨⟨k, a, rfl⟩, b⟩;exact ⟨k, List.mem_filter.2 ⟨a, by rw [hT.sub k a] at b; exact b⟩, rfl⟩
   ·rw [if_neg h4] at hw ⊢;rw [hw]
theorem Bh {x : Rx} (hv : ay x = true) : normR true (normR false x) = normR true x := by
 induction x using Rx.ind with
 |h x ih0 =>
  have ih : ∀ y ∈ x.kids, normR true (normR false y) = normR true y := fun y hy => ih0 y hy (eF hv y hy)
  have hN : ∀ y ∈ x.kids.map (normR false), NF y := fun y hy => by
   obtain ⟨k, hk, rfl⟩ := List.mem_map.1 hy;exact NF.normR false (eF hv k hk)
  have hm : (x.kids.map (normR false)).map (normR true) = x.kids.map (normR true) := by
   rw [List.map_map]; exact List.map_congr_left fun y hy => ih y hy
  by_cases h3 : x.kind = 3
  ·rw [bX false, if_pos h3, bX true x, if_pos h3];show normR true (seqP (x.kids.map (normR false))) = seqP ((x.kids.map (normR true)).reverse);rw [Ck hN, hm]
  ·by_cases h4 : x.kind = 4
   ·rw [bX false, if_neg h3, if_pos h4, bX true x, if_neg h3, if_pos h4, ul hN, hm]
   ·by_cases h5 : x.kind = 5
    ·obtain ⟨y, hy⟩ : ∃ y, x.kids = [y] := by
      rcases eT hv with rfl | rfl | ⟨s, rfl, _⟩ | ⟨ks, rfl, _⟩ | ⟨ks, rfl, _⟩ | ⟨y, rfl, _⟩ <;> simp [Rx.kind] at h5 <;> exact ⟨_, rfl⟩
     rw [bX false, if_neg h3, if_neg h4, if_pos h5, bX true x, if_neg h3, if_neg h4, if_pos h5, hy];show normR true (starP (normR false y)) = starP (normR true y);rw [Cw (hN _ (by rw [hy]; simp)), ih y (by rw [hy]; simp)]
    ·rw [bX false, if_neg h3, if_neg h4, if_neg h5]
theorem CB {x : Rx} (hv : ay x = true) : normR true (normR true x) = normR false x := by
 rw [<- Bh hv];exact (gV (NF.normR false hv)).inv
end Rgx
namespace Rgx
abbrev St := Nat × List Nat
mutual
def aD (M : List St) (tO9 : Nat) : Rx -> List St × Nat
 |.mk k s ks =>
  if k = 1 then (M, tO9)
  else if k = 2 then (M ++ [(eZ s, [tO9])], M.length)
  else if k = 3 then bL M tO9 ks
  else if k = 4 then ((aS M tO9 ks).1 ++ [(0, (aS M tO9 ks).2)], (aS M tO9 ks).1.length)
  else if k = 5 then (((fV (M ++ [(0, [tO9])]) M.length ks).1.set M.length (0, [tO9, (fV (M ++ [(0, [tO9])]) M.length ks).2]), M.length))
  else (M ++ [(0, [])], M.length)
def bL (M : List St) (tO9 : Nat) : List Rx -> List St × Nat
 |[] => (M, tO9)
 |x :: xs => aD (bL M tO9 xs).1 (bL M tO9 xs).2 x
def aS (M : List St) (tO9 : Nat) : List Rx -> List St × List Nat
 |[] => (M, [])
 |x :: xs => ((aS (aD M tO9 x).1 tO9 xs).1, (aD M tO9 x).2 :: (aS (aD M tO9 x).1 tO9 xs).2)
def fV (M : List St) (tO9 : Nat) : List Rx -> List St × Nat
 |[] => (M, tO9)
 |x :: _ => aD M tO9 x
end
theorem iQ (M : List St) (tO9 : Nat) (r : Rx) : aD M tO9 r = if r.kind = 1 then (M, tO9) else if r.kind = 2 then (M ++ [(eZ r.syms, [tO9])], M.length) else if r.kind = 3 then bL M tO9 r.kids else if r.kind = 4 then ((aS M tO9 r.kids).1 ++ [(0, (aS M tO9 r.kids).2)], (aS M tO9 r.kids).1.length) else if r.kind = 5 then (((fV (M ++ [(0, [tO9])]) M.length r.kids).1.set M.length (0, [tO9, (fV (M ++ [(0, [tO9])]) M.length r.kids).2]), M.length)) else (M ++ [(0, [])], M.length) := by
 cases r with
 |mk k s ks => rw [aD]; rfl
theorem xC (M : List St) (tO9 : Nat) (x : Rx) : ∀ (A : List Rx) (M : List St), aS M tO9 (A ++ [x]) = ((aD (aS M tO9 A).1 tO9 x).1, (aS M tO9 A).2 ++ [(aD (aS M tO9 A).1 tO9 x).2])
 |[], M => by simp [aS]
 |y :: A, M => by
  rw [List.cons_append, aS, xC M tO9 x A, aS]
  rfl
structure dS (M M' : List St) : Prop where
 len : M.length <= M'.length
 get : ∀ i, i < M.length -> M'[i]? = M[i]?
theorem dS.refl (M : List St) : dS M M := ⟨Nat.le_refl _, fun _ _ => rfl⟩
theorem dS.tr {M N O : List St} (h1 : dS M N) (h2 : dS N O) : dS M O := ⟨Nat.le_trans h1.len h2.len, fun i hi => (h2.get i (Nat.lt_of_lt_of_le hi h1.len)).trans (h1.get i hi)⟩
theorem dS.app (M : List St) (x : St) : dS M (M ++ [x]) := ⟨by simp, fun i hi => List.getElem?_append_left hi⟩
theorem dS.set {M N : List St} (h : dS M N) {k : Nat} (hk : M.length <= k) (x : St) : dS M (N.set k x) := ⟨by rw [List.length_set]; exact h.len, fun i hi => by rw [List.getElem?_set_ne (by omega)]; exact h.get i hi⟩
mutual
theorem jk : ∀ (r : Rx) (M : List St) (tO9 : Nat), dS M (aD M tO9 r).1
 |.mk k s ks, M, tO9 => by
  rw [aD]
  split
  ·exact dS.refl M
  ·split
   ·exact dS.app M _
   ·split
    ·exact oI ks M tO9
    ·split
     ·exact (kz ks M tO9).tr (dS.app _ _)
     ·split
      ·exact ((dS.app M _).tr (tF ks _ _)).set (Nat.le_refl _) _
      ·exact dS.app M _
theorem oI : ∀ (ks : List Rx) (M : List St) (tO9 : Nat), dS M (bL M tO9 ks).1
 |[], M, tO9 => by rw [bL]; exact dS.refl M
 |x :: xs, M, tO9 => by rw [bL]; exact (oI xs M tO9).tr (jk x _ _)
theorem kz : ∀ (ks : List Rx) (M : List St) (tO9 : Nat), dS M (aS M tO9 ks).1
 |[], M, tO9 => by rw [aS]; exact dS.refl M
 |x :: xs, M, tO9 => by rw [aS]; exact (jk x M tO9).tr (kz xs _ _)
theorem tF : ∀ (ks : List Rx) (M : List St) (tO9 : Nat), dS M (fV M tO9 ks).1
 |[], M, tO9 => by rw [fV]; exact dS.refl M
 |x :: xs, M, tO9 => by rw [fV]; exact jk x _ _
end
theorem mG {r : Rx} (h : ay r = true) : ∀ x ∈ r.syms, 0 <= x /\ x < 64 := by
 rcases eT h with e | e | ⟨s, e, hs⟩ | ⟨ks, e, _⟩ | ⟨ks, e, _⟩ | ⟨x, e, _⟩ <;> subst e
 ·intro x hx; cases hx
 ·intro x hx; cases hx
 ·exact (gW.1 hs).2.2
 ·intro x hx; cases hx
 ·intro x hx; cases hx
 ·intro x hx; cases hx
structure gJ (q : Nat) (M : List St) : Prop where
 nx : ∀ x ∈ M, ∀ n ∈ x.2, n < M.length
 few : ∀ x ∈ M, x.2.length <= q
 bit : ∀ x ∈ M, x.1 < 18446744073709551616
theorem gJ.app {q : Nat} {M : List St} (h : gJ q M) {b : Nat} {nx : List Nat} (h1 : ∀ n ∈ nx, n < M.length + 1) (h2 : nx.length <= q) (h3 : b < 18446744073709551616) : gJ q (M ++ [(b, nx)]) := ⟨fun x hx n hn => by
 rw [List.length_append]
 rcases List.mem_append.1 hx with hx | hx
 ·have := h.nx x hx n hn; simp; omega
 ·have e : x = (b, nx) := by simpa using hx
  subst e;exact h1 n hn, fun x hx => by
 rcases List.mem_append.1 hx with hx | hx
 ·exact h.few x hx
 ·have e : x = (b, nx) := by simpa using hx
  subst e;exact h2, fun x hx => by
 rcases List.mem_append.1 hx with hx | hx
 ·exact h.bit x hx
 ·have e : x = (b, nx) := by simpa using hx
  subst e;exact h3⟩
theorem gJ.set {q : Nat} {M : List St} (h : gJ q M) {k b : Nat} {nx : List Nat} (h1 : ∀ n ∈ nx, n < M.length) (h2 : nx.length <= q) (h3 : b < 18446744073709551616) : gJ q (M.set k (b, nx)) := ⟨fun x hx n hn => by
 rw [List.length_set]
 rcases List.mem_or_eq_of_mem_set hx with hx | rfl
 ·exact h.nx x hx n hn
 ·exact h1 n hn, fun x hx => by
 rcases List.mem_or_eq_of_mem_set hx with hx | rfl
 ·exact h.few x hx
 ·exact h2, fun x hx => by
 rcases List.mem_or_eq_of_mem_set hx with hx | rfl
 ·exact h.bit x hx
 ·exact h3⟩
mutual
theorem nQ : ∀ (r : Rx) (M : List St) (tO9 : Nat), (((aD M tO9 r).1.length : Nat) : Int) <= M.length + av r
 |.mk k s ks, M, tO9 => by
  rw [aD, av]
  have h0 := dN ks
  split
  ·show (M.length : Int) <= _; omega
  ·split
   ·rw [List.length_append]; simp; omega
   ·split
    ·have := yM ks M tO9; omega
    ·split
     ·have := oM ks M tO9; rw [List.length_append]; simp; omega
     ·split
      ·have := Ec ks (M ++ [(0, [tO9])]) M.length
       rw [List.length_append] at this
       show (((fV _ _ ks).1.set _ _).length : Int) <= _
       rw [List.length_set]
       simp at this
       omega
      ·rw [List.length_append]; simp; omega
theorem yM : ∀ (ks : List Rx) (M : List St) (tO9 : Nat), (((bL M tO9 ks).1.length : Nat) : Int) <= M.length + ah ks
 |[], M, tO9 => by rw [bL, ah]; show (M.length : Int) <= _; omega
 |x :: xs, M, tO9 => by rw [bL, ah]; have h1 := yM xs M tO9; have h2 := nQ x (bL M tO9 xs).1 (bL M tO9 xs).2; omega
theorem oM : ∀ (ks : List Rx) (M : List St) (tO9 : Nat), (((aS M tO9 ks).1.length : Nat) : Int) <= M.length + ah ks
 |[], M, tO9 => by rw [aS, ah]; show (M.length : Int) <= _; omega
 |x :: xs, M, tO9 => by rw [aS, ah]; have h1 := nQ x M tO9; have h2 := oM xs (aD M tO9 x).1 tO9; show (((aS (aD M tO9 x).1 tO9 xs).1.length : Nat) : Int) <= _; omega
theorem Ec : ∀ (ks : List Rx) (M : List St) (tO9 : Nat), (((fV M tO9 ks).1.length : Nat) : Int) <= M.length + ah ks
 |[], M, tO9 => by rw [fV, ah]; show (M.length : Int) <= _; omega
 |x :: xs, M, tO9 => by rw [fV, ah]; have h1 := nQ x M tO9; have := dN xs; omega
end
theorem oL : ∀ (ks : List Rx) (M : List St) (tO9 : Nat), (aS M tO9 ks).2.length = ks.length
 |[], M, tO9 => by rw [aS]; rfl
 |x :: xs, M, tO9 => by rw [aS]; simp [oL xs]
mutual
theorem oV {q : Nat} (hq : 2 <= q) : ∀ (r : Rx), (∀ x ∈ r.syms, 0 <= x /\ x < 64) -> ay r = true -> av r <= q -> ∀ (M : List St) (tO9 : Nat), gJ q M -> tO9 < M.length -> gJ q (aD M tO9 r).1 /\ (aD M tO9 r).2 < (aD M tO9 r).1.length
 |.mk k s ks, hs, hv, hc, M, tO9, hM, ht => by
  have hk := eF hv
  rw [av] at hc
  rw [aD]
  split
  ·exact ⟨hM, ht⟩
  ·split
   ·exact ⟨hM.app (fun n hn => by rw [show n = tO9 by simpa using hn]; omega) (by simp; omega) (oh hs), by simp⟩
   ·split
    ·exact ug hq ks hk (by omega) M tO9 hM ht
    ·split
     ·have h1 := vL hq ks hk (by omega) M tO9 hM ht
      refine ⟨h1.1.app (fun n hn => by have := h1.2 n hn; omega) ?_ (by omega), by simp⟩
      rw [oL]
      have := iF ks
      omega
     ·split
      ·have h0 : gJ q (M ++ [(0, [tO9])]) := hM.app (fun n hn => by rw [show n = tO9 by simpa using hn]; omega) (by simp; omega) (by omega)
       have h1 := Ch hq ks hk (by omega) (M ++ [(0, [tO9])]) M.length h0 (by simp)
       have h2 := (tF ks (M ++ [(0, [tO9])]) M.length).len
       rw [List.length_append] at h2
       refine ⟨h1.1.set (fun n hn => ?_) (by simp; omega) (by omega), ?_⟩
       ·rcases List.mem_cons.1 hn with e | hn
        ·subst e; simp at h2; omega
        ·rw [List.mem_singleton.1 hn]; exact h1.2
       ·show M.length < ((fV _ _ ks).1.set _ _).length
        rw [List.length_set]
        simp at h2; omega
      ·exact ⟨hM.app (fun n hn => by cases hn) (by simp) (by omega), by simp⟩
theorem ug {q : Nat} (hq : 2 <= q) : ∀ (ks : List Rx), (∀ x ∈ ks, ay x = true) -> ah ks <= q -> ∀ (M : List St) (tO9 : Nat), gJ q M -> tO9 < M.length -> gJ q (bL M tO9 ks).1 /\ (bL M tO9 ks).2 < (bL M tO9 ks).1.length
 |[], _, _, M, tO9, hM, ht => by rw [bL]; exact ⟨hM, ht⟩
 |x :: xs, hk, hc, M, tO9, hM, ht => by
  rw [ah] at hc
  have h0 := cO x
  have h00 := dN xs
  have h1 := ug hq xs (fun y hy => hk y (by simp [hy])) (by omega) M tO9 hM ht
  rw [bL]
  exact oV hq x (mG (hk x (by simp))) (hk x (by simp)) (by omega) _ _ h1.1 h1.2
theorem vL {q : Nat} (hq : 2 <= q) : ∀ (ks : List Rx), (∀ x ∈ ks, ay x = true) -> ah ks <= q -> ∀ (M : List St) (tO9 : Nat), gJ q M -> tO9 < M.length -> gJ q (aS M tO9 ks).1 /\ ∀ n ∈ (aS M tO9 ks).2, n < (aS M tO9 ks).1.length
 |[], _, _, M, tO9, hM, ht => by rw [aS]; exact ⟨hM, fun n hn => by cases hn⟩
 |x :: xs, hk, hc, M, tO9, hM, ht => by
  rw [ah] at hc
  have h0 := cO x
  have h00 := dN xs
  have h1 := oV hq x (mG (hk x (by simp))) (hk x (by simp)) (by omega) M tO9 hM ht
  have h2 := vL hq xs (fun y hy => hk y (by simp [hy])) (by omega) (aD M tO9 x).1 tO9 h1.1 (Nat.lt_of_lt_of_le ht (jk x M tO9).len)
  rw [aS]
  refine ⟨h2.1, fun n hn => ?_⟩
  rcases List.mem_cons.1 hn with e | hn
  ·rw [e]; exact Nat.lt_of_lt_of_le h1.2 (kz xs _ _).len
  ·exact h2.2 n hn
theorem Ch {q : Nat} (hq : 2 <= q) : ∀ (ks : List Rx), (∀ x ∈ ks, ay x = true) -> ah ks <= q -> ∀ (M : List St) (tO9 : Nat), gJ q M -> tO9 < M.length -> gJ q (fV M tO9 ks).1 /\ (fV M tO9 ks).2 < (fV M tO9 ks).1.length
 |[], _, _, M, tO9, hM, ht => by rw [fV]; exact ⟨hM, ht⟩
 |x :: xs, hk, hc, M, tO9, hM, ht => by
  rw [ah] at hc
  have h00 := dN xs
  rw [fV]
  exact oV hq x (mG (hk x (by simp))) (hk x (by simp)) (by omega) M tO9 hM ht
end
inductive gp (N : List St) : Nat -> Nat -> List Int -> Prop
 |fin : gp N 0 0 []
 |eps {k s n : Nat} {w : List Int} {nx : List Nat} : N[s]? = some (0, nx) -> n ∈ nx -> gp N k n w -> gp N (k + 1) s w
 |read {k s n b : Nat} {c : Int} {w : List Int} {nx : List Nat} : N[s]? = some (b, nx) -> 0 <= c -> c < 64 -> b.testBit c.toNat = true -> n ∈ nx -> gp N k n w -> gp N (k + 1) s (c :: w)
def fF (N M : List St) (i j : Nat) : Prop := ∀ k, i <= k -> k < j -> N[k]? = M[k]?
theorem fF.sub {N M : List St} {i j i2 j2 : Nat} (h : fF N M i j) (h1 : i <= i2) (h2 : j2 <= j) : fF N M i2 j2 := fun k a b => h k (Nat.le_trans h1 a) (Nat.lt_of_lt_of_le b h2)
theorem fF.ext {N M M' : List St} {i : Nat} (h : fF N M' i M'.length) (he : dS M M') : fF N M i M.length := fun k a b => (h k a (Nat.lt_of_lt_of_le b he.len)).trans (he.get k b)
theorem tq {N : List St} {s k : Nat} {w : List Int} {nx : List Nat} (h : N[s]? = some (0, nx)) (hs : s ≠ 0) (ha : gp N k s w) : ∃ k' n, k = k' + 1 /\ n ∈ nx /\ gp N k' n w := by
 cases ha with
 |fin => exact absurd rfl hs
 |eps h1 h2 h3 =>
  rw [h] at h1;simp only [Option.some.injEq, Prod.mk.injEq, true_and] at h1;subst h1;exact ⟨_, _, rfl, h2, h3⟩
 |read h1 h2 h3 h4 h5 h6 =>
  rw [h] at h1;simp only [Option.some.injEq, Prod.mk.injEq] at h1;rw [<- h1.1] at h4;simp at h4
theorem DC {N : List St} {s k b : Nat} {w : List Int} {nx : List Nat} (h : N[s]? = some (b, nx)) (hb : b ≠ 0) (hs : s ≠ 0) (ha : gp N k s w) : ∃ k' n c v, k = k' + 1 /\ w = c :: v /\ (0 <= c /\ c < 64) /\ b.testBit c.toNat = true /\ n ∈ nx /\ gp N k' n v := by
 cases ha with
 |fin => exact absurd rfl hs
 |eps h1 h2 h3 =>
  rw [h] at h1;simp only [Option.some.injEq, Prod.mk.injEq] at h1;exact absurd h1.1 hb
 |read h1 h2 h3 h4 h5 h6 =>
  rw [h] at h1;simp only [Option.some.injEq, Prod.mk.injEq] at h1;obtain ⟨rfl, rfl⟩ := h1;exact ⟨_, _, _, _, rfl, rfl, ⟨h2, h3⟩, h4, h5, h6⟩
theorem DZ {s : List Int} (h : dI s = true) : eZ s ≠ 0 := by
 obtain ⟨h1, _, h3⟩ := gW.1 h
 match s, h1 with
 |x :: t, _ =>
  intro e;have h4 := (mK h3 x.toNat).2 (by have := (h3 x (by simp)).1; rw [Int.toNat_of_nonneg this]; simp);rw [e] at h4;simp at h4
def Snd (N : List St) (tO9 k : Nat) (P : List Int -> Prop) (w : List Int) : Prop := ∃ u v k', k' <= k /\ w = u ++ v /\ P u /\ gp N k' tO9 v
def sM (r : Rx) : Prop := ∀ (M N : List St) (tO9 k : Nat) (w : List Int), M ≠ [] -> fF N (aD M tO9 r).1 M.length (aD M tO9 r).1.length -> gp N k (aD M tO9 r).2 w -> Snd N tO9 k (bf r) w
theorem ym {M M' : List St} (h : dS M M') (hM : M ≠ []) : M' ≠ [] := fun e => hM (by have := h.len; rw [e] at this; exact List.eq_nil_of_length_eq_zero (by simpa using this))
theorem vT : ∀ (ks : List Rx), (∀ x ∈ ks, sM x) -> ∀ (M N : List St) (tO9 k : Nat) (w : List Int), M ≠ [] -> fF N (bL M tO9 ks).1 M.length (bL M tO9 ks).1.length -> gp N k (bL M tO9 ks).2 w -> Snd N tO9 k (cK ks) w
 |[], hk, M, N, tO9, k, w, hM, hA, ha => by
  rw [bL] at ha;exact ⟨[], w, k, Nat.le_refl _, rfl, jA.2 rfl, ha⟩
 |x :: xs, hk, M, N, tO9, k, w, hM, hA, ha => by
  rw [bL] at ha hA;have hE1 := oI xs M tO9;have hE2 := jk x (bL M tO9 xs).1 (bL M tO9 xs).2;obtain ⟨u, v, k1, h1, h2, h3, h4⟩ := hk x (by simp) (bL M tO9 xs).1 N (bL M tO9 xs).2 k w (ym hE1 hM) (hA.sub hE1.len (Nat.le_refl _)) ha;obtain ⟨u2, v2, k2, h5, h6, h7, h8⟩ := vT xs (fun y hy => hk y (by simp [hy])) M N tO9 k1 v hM (hA.ext hE2) h4;exact ⟨u ++ u2, v2, k2, by omega, by rw [h2, h6, List.append_assoc], gT.2 ⟨u, u2, rfl, h3, h7⟩, h8⟩
theorem uk : ∀ (ks : List Rx), (∀ x ∈ ks, sM x) -> ∀ (M N : List St) (tO9 k n : Nat) (w : List Int), M ≠ [] -> fF N (aS M tO9 ks).1 M.length (aS M tO9 ks).1.length -> n ∈ (aS M tO9 ks).2 -> gp N k n w -> Snd N tO9 k (il ks) w
 |[], hk, M, N, tO9, k, n, w, hM, hA, hn, ha => by rw [aS] at hn; cases hn
 |x :: xs, hk, M, N, tO9, k, n, w, hM, hA, hn, ha => by
  rw [aS] at hn hA;have hE1 := jk x M tO9;have hE2 := kz xs (aD M tO9 x).1 tO9
  rcases List.mem_cons.1 hn with e | hn
  ·subst e;obtain ⟨u, v, k1, h1, h2, h3, h4⟩ := hk x (by simp) M N tO9 k w hM (fF.ext hA hE2) ha;exact ⟨u, v, k1, h1, h2, gZ.2 ⟨x, by simp, h3⟩, h4⟩
  ·obtain ⟨u, v, k1, h1, h2, h3, h4⟩ := uk xs (fun y hy => hk y (by simp [hy])) (aD M tO9 x).1 N tO9 k n w (ym hE1 hM) (fF.sub hA hE1.len (Nat.le_refl _)) hn ha;obtain ⟨y, hy, h5⟩ := gZ.1 h3;exact ⟨u, v, k1, h1, h2, gZ.2 ⟨y, by simp [hy], h5⟩, h4⟩
theorem Co (M : List St) (tO9 : Nat) : aD M tO9 (.mk 0 [] []) = (M ++ [(0, [])], M.length) := by rw [iQ]; simp [Rx.kind]
theorem xI (M : List St) (tO9 : Nat) : aD M tO9 (.mk 1 [] []) = (M, tO9) := by rw [iQ]; simp [Rx.kind]
theorem uW (M : List St) (tO9 : Nat) (s : List Int) : aD M tO9 (.mk 2 s []) = (M ++ [(eZ s, [tO9])], M.length) := by rw [iQ]; simp [Rx.kind, Rx.syms]
theorem yh (M : List St) (tO9 : Nat) (ks : List Rx) : aD M tO9 (.mk 3 [] ks) = bL M tO9 ks := by rw [iQ]; simp [Rx.kind, Rx.kids]
theorem wU (M : List St) (tO9 : Nat) (ks : List Rx) : aD M tO9 (.mk 4 [] ks) = ((aS M tO9 ks).1 ++ [(0, (aS M tO9 ks).2)], (aS M tO9 ks).1.length) := by rw [iQ]; simp [Rx.kind, Rx.kids]
theorem qB (M : List St) (tO9 : Nat) (x : Rx) : aD M tO9 (.mk 5 [] [x]) = ((aD (M ++ [(0, [tO9])]) M.length x).1.set M.length (0, [tO9, (aD (M ++ [(0, [tO9])]) M.length x).2]), M.length) := by rw [iQ]; simp [Rx.kind, Rx.kids, fV]
theorem xg {N M : List St} {tO9 : Nat} {x : Rx} (hA : fF N (aD M tO9 (.mk 5 [] [x])).1 M.length (aD M tO9 (.mk 5 [] [x])).1.length) : N[M.length]? = some (0, [tO9, (aD (M ++ [(0, [tO9])]) M.length x).2]) /\ fF N (aD (M ++ [(0, [tO9])]) M.length x).1 (M ++ [(0, [tO9])]).length (aD (M ++ [(0, [tO9])]) M.length x).1.length := by
 have hE := (jk x (M ++ [(0, [tO9])]) M.length).len;rw [List.length_append] at hE;simp only [List.length_singleton] at hE;rw [qB] at hA;simp only [List.length_set] at hA;refine ⟨?_, fun i a b => ?_⟩
 ·rw [hA M.length (Nat.le_refl _) (by omega), List.getElem?_set_self (by omega)]
 ·rw [List.length_append] at a;simp only [List.length_singleton] at a;rw [hA i (by omega) b, List.getElem?_set_ne (by omega)]
theorem nD {N M L : List St} {x : St} (h : fF N (L ++ [x]) M.length (L ++ [x]).length) (hE : M.length <= L.length) : N[L.length]? = some x := by
 have h1 := h L.length hE (by simp);rw [List.getElem?_append_right (Nat.le_refl _)] at h1
 simpa using h1
theorem Cn (r : Rx) (hv : ay r = true) : sM r := by
 induction r using Rx.ind with
 |h r ih =>
 intro M N tO9 k w hM hA ha;have hM0 : 0 < M.length := List.length_pos_iff.2 hM
 rcases eT hv with e | e | ⟨s, e, hs⟩ | ⟨ks, e, hk⟩ | ⟨ks, e, hk⟩ | ⟨x, e, hx⟩ <;> subst e
 ·rw [Co] at ha hA;obtain ⟨k', n, _, h2, _⟩ := tq (nD hA (Nat.le_refl _)) (Nat.ne_of_gt hM0) ha
  cases h2
 ·rw [xI] at ha;exact ⟨[], w, k, Nat.le_refl _, rfl, (gU rfl _).2 rfl, ha⟩
 ·rw [uW] at ha hA;obtain ⟨k', n, c, v, h2, h3, h4, h5, h6, h7⟩ := DC (nD hA (Nat.le_refl _)) (DZ hs) (Nat.ne_of_gt hM0) ha;obtain rfl : n = tO9 := by simpa using h6
  refine ⟨[c], v, k', by omega, h3, (jP rfl _).2 ⟨c, ?_, rfl⟩, h7⟩;have h8 := (mK (gW.1 hs).2.2 c.toNat).1 h5
  rwa [Int.toNat_of_nonneg h4.1] at h8
 ·rw [yh] at ha hA;obtain ⟨u, v, k', h1, h2, h3, h4⟩ := vT ks (fun x hx => ih x hx (hk x hx)) M N tO9 k w hM hA ha;exact ⟨u, v, k', h1, h2, (jT rfl _).2 h3, h4⟩
 ·rw [wU] at ha hA;have hE := (kz ks M tO9).len;obtain ⟨k', n, h2, h3, h4⟩ := tq (nD hA hE) (by omega) ha;obtain ⟨u, v, k2, h5, h6, h7, h8⟩ := uk ks (fun x hx => ih x hx (hk x hx)) M N tO9 k' n w hM (fF.ext hA (dS.app _ _)) h3 h4;exact ⟨u, v, k2, by omega, h6, (jC rfl _).2 h7, h8⟩
 ·have hA2 := xg hA;rw [qB] at ha;have hH : ∀ (k : Nat) (w : List Int), gp N k M.length w -> ∃ u v k', k' <= k /\ w = u ++ v /\ bK (bf x) u /\ gp N k' tO9 v := by
   intro k
   induction k using Nat.strongRecOn with
   |_ k ihk =>
    intro w ha;obtain ⟨k', n, h2, h3, h4⟩ := tq hA2.1 (by omega) ha
    rcases List.mem_cons.1 h3 with e | h3
    ·subst e;exact ⟨[], w, k', by omega, rfl, .nil, h4⟩
    ·obtain rfl : n = (aD (M ++ [(0, [tO9])]) M.length x).2 := by simpa using h3
     obtain ⟨u, v, k2, h5, h6, h7, h8⟩ := ih x (by simp [Rx.kids]) hx (M ++ [(0, [tO9])]) N M.length k' w (by simp) hA2.2 h4;obtain ⟨u2, v2, k3, h9, h10, h11, h12⟩ := ihk k2 (by omega) v h8;exact ⟨u ++ u2, v2, k3, by omega, by rw [h6, h10, List.append_assoc], bK.cons h7 h11, h12⟩
  obtain ⟨u, v, k', h2, h3, h4, h5⟩ := hH k w ha;exact ⟨u, v, k', h2, h3, (iC u).2 h4, h5⟩
def Ac (N : List St) (s : Nat) (w : List Int) : Prop := ∃ k, gp N k s w
theorem Ac.eps {N : List St} {s n : Nat} {w : List Int} {nx : List Nat} (h1 : N[s]? = some (0, nx)) (h2 : n ∈ nx) (h : Ac N n w) : Ac N s w := by
 obtain ⟨k, h⟩ := h;exact ⟨k + 1, .eps h1 h2 h⟩
def q9 (r : Rx) : Prop := ∀ (M N : List St) (tO9 : Nat) (u v : List Int), fF N (aD M tO9 r).1 M.length (aD M tO9 r).1.length -> bf r u -> Ac N tO9 v -> Ac N (aD M tO9 r).2 (u ++ v)
theorem uq : ∀ (ks : List Rx), (∀ x ∈ ks, q9 x) -> ∀ (M N : List St) (tO9 : Nat) (u v : List Int), fF N (bL M tO9 ks).1 M.length (bL M tO9 ks).1.length -> cK ks u -> Ac N tO9 v -> Ac N (bL M tO9 ks).2 (u ++ v)
 |[], hk, M, N, tO9, u, v, hA, hu, ha => by
  obtain rfl := jA.1 hu;rw [bL];exact ha
 |x :: xs, hk, M, N, tO9, u, v, hA, hu, ha => by
  rw [bL] at hA ⊢;obtain ⟨u1, u2, rfl, h1, h2⟩ := gT.1 hu;have hE1 := oI xs M tO9;have hE2 := jk x (bL M tO9 xs).1 (bL M tO9 xs).2;have h3 := uq xs (fun y hy => hk y (by simp [hy])) M N tO9 u2 v (hA.ext hE2) h2 ha;rw [List.append_assoc];exact hk x (by simp) _ N _ u1 (u2 ++ v) (hA.sub hE1.len (Nat.le_refl _)) h1 h3
theorem xV : ∀ (ks : List Rx), (∀ x ∈ ks, q9 x) -> ∀ (M N : List St) (tO9 : Nat) (u v : List Int), fF N (aS M tO9 ks).1 M.length (aS M tO9 ks).1.length -> il ks u -> Ac N tO9 v -> ∃ n ∈ (aS M tO9 ks).2, Ac N n (u ++ v)
 |[], hk, M, N, tO9, u, v, hA, hu, ha => by obtain ⟨x, hx, _⟩ := gZ.1 hu; cases hx
 |x :: xs, hk, M, N, tO9, u, v, hA, hu, ha => by
  rw [aS] at hA ⊢;have hE1 := jk x M tO9;have hE2 := kz xs (aD M tO9 x).1 tO9;obtain ⟨y, hy, h1⟩ := gZ.1 hu
  rcases List.mem_cons.1 hy with e | hy
  ·subst e;exact ⟨_, by simp, hk y (by simp) M N tO9 u v (fF.ext hA hE2) h1 ha⟩
  ·obtain ⟨n, hn, h2⟩ := xV xs (fun y hy => hk y (by simp [hy])) (aD M tO9 x).1 N tO9 u v (fF.sub hA hE1.len (Nat.le_refl _)) (gZ.2 ⟨y, hy, h1⟩) ha;exact ⟨n, by simp [hn], h2⟩
theorem Eh (r : Rx) (hv : ay r = true) : q9 r := by
 induction r using Rx.ind with
 |h r ih =>
 intro M N tO9 u v hA hu ha
 rcases eT hv with e | e | ⟨s, e, hs⟩ | ⟨ks, e, hk⟩ | ⟨ks, e, hk⟩ | ⟨x, e, hx⟩ <;> subst e
 ·exact absurd hu (iY rfl u)
 ·obtain rfl := (gU rfl u).1 hu;rw [xI];exact ha
 ·obtain ⟨c, hc, rfl⟩ := (jP rfl u).1 hu;rw [uW] at hA ⊢;have h3 := (gW.1 hs).2.2;obtain ⟨k, ha⟩ := ha;exact ⟨k + 1, .read (nD hA (Nat.le_refl _)) (h3 c hc).1 (h3 c hc).2 ((mK h3 c.toNat).2 (by rw [Int.toNat_of_nonneg (h3 c hc).1]; exact hc)) (by simp) ha⟩
 ·rw [yh] at hA ⊢;exact uq ks (fun x hx => ih x hx (hk x hx)) M N tO9 u v hA ((jT rfl u).1 hu) ha
 ·rw [wU] at hA ⊢;have hE := (kz ks M tO9).len;obtain ⟨n, hn, h1⟩ := xV ks (fun x hx => ih x hx (hk x hx)) M N tO9 u v (fF.ext hA (dS.app _ _)) ((jC rfl u).1 hu) ha;exact h1.eps (nD hA hE) hn
 ·have hA2 := xg hA;rw [qB];have h1 := (iC u).1 hu;clear hu;show Ac N M.length (u ++ v)
  induction h1 with
  |nil => exact ha.eps hA2.1 (by simp)
  |app hu hne hv' ih2 =>
   rw [List.append_assoc];exact (ih x (by simp [Rx.kids]) hx (M ++ [(0, [tO9])]) N M.length _ _ hA2.2 hu ih2).eps hA2.1 (by simp)
def mE (r : Rx) : List St × Nat := aD [(0, [])] 0 r
theorem Gl {N : List St} {k : Nat} {w : List Int} (h : N[0]? = some (0, [])) (ha : gp N k 0 w) : w = [] := by
 cases ha with
 |fin => rfl
 |eps h1 h2 h3 =>
  rw [h] at h1;simp only [Option.some.injEq, Prod.mk.injEq, true_and] at h1;subst h1
  cases h2
 |read h1 h2 h3 h4 h5 h6 =>
  rw [h] at h1;simp only [Option.some.injEq, Prod.mk.injEq] at h1;rw [<- h1.2] at h5
  cases h5
theorem FT {r : Rx} (hv : ay r = true) (w : List Int) : Ac (mE r).1 (mE r).2 w ↔ bf r w := by
 have h0 : (mE r).1[0]? = some (0, []) := (jk r [(0, [])] 0).get 0 (by simp);have hA : fF (mE r).1 (aD [(0, [])] 0 r).1 ([(0, [])] : List St).length (aD [(0, [])] 0 r).1.length := fun _ _ _ => rfl
 constructor
 ·rintro ⟨k, h⟩;obtain ⟨u, v, k', h1, h2, h3, h4⟩ := Cn r hv [(0, [])] _ 0 k w (by simp) hA h;rw [Gl h0 h4, List.append_nil] at h2;rw [h2]; exact h3
 ·intro h;have h1 := Eh r hv [(0, [])] _ 0 w [] hA h ⟨0, .fin⟩;rw [List.append_nil] at h1;exact h1
inductive iI (N : List St) : Nat -> Nat -> Prop
 |refl (s : Nat) : iI N s s
 |step {s n t : Nat} {nx : List Nat} : iI N s t -> N[t]? = some (0, nx) -> n ∈ nx -> iI N s n
def l6 (N : List St) (now L : List Nat) : Prop := ∀ n, n ∈ L ↔ ∃ a ∈ now, iI N a n
def iK (N : List St) (c : Int) (L now : List Nat) : Prop := ∀ n, n ∈ now ↔ ∃ s ∈ L, ∃ b nx, N[s]? = some (b, nx) /\ (0 <= c /\ c < 64) /\ b.testBit c.toNat = true /\ n ∈ nx
theorem iI.ac {N : List St} {s t : Nat} {w : List Int} (h : iI N s t) (ha : Ac N t w) : Ac N s w := by
 induction h with
 |refl => exact ha
 |step h1 h2 h3 ih => exact ih (ha.eps h2 h3)
theorem iI.head {N : List St} {s n t : Nat} {nx : List Nat} (h1 : N[s]? = some (0, nx)) (h2 : n ∈ nx) (h : iI N n t) : iI N s t := by
 induction h with
 |refl => exact .step (.refl s) h1 h2
 |step h3 h4 h5 ih => exact .step ih h4 h5
theorem xy {N : List St} {s k : Nat} {w : List Int} (h : gp N k s w) : (w = [] /\ iI N s 0) \/ ∃ c v t n b nx, w = c :: v /\ iI N s t /\ N[t]? = some (b, nx) /\ (0 <= c /\ c < 64) /\ b.testBit c.toNat = true /\ n ∈ nx /\ Ac N n v := by
 induction h with
 |fin => exact .inl ⟨rfl, .refl 0⟩
 |eps h1 h2 h3 ih =>
  rcases ih with ⟨e, h⟩ | ⟨c, v, t, n, b, nx, e, h, r⟩
  ·exact .inl ⟨e, h.head h1 h2⟩
  ·exact .inr ⟨c, v, t, n, b, nx, e, h.head h1 h2, r⟩
 |read h1 h2 h3 h4 h5 h6 ih => exact .inr ⟨_, _, _, _, _, _, rfl, .refl _, h1, ⟨h2, h3⟩, h4, h5, _, h6⟩
def Any (N : List St) (now : List Nat) (w : List Int) : Prop := ∃ s ∈ now, Ac N s w
theorem any_nil {N : List St} {now L : List Nat} (h : l6 N now L) : Any N now [] ↔ 0 ∈ L := by
 rw [h 0];constructor
 ·rintro ⟨s, hs, k, ha⟩
  rcases xy ha with ⟨_, h⟩ | ⟨c, v, t, n, b, nx, e, _⟩
  ·exact ⟨s, hs, h⟩
  ·cases e
 ·rintro ⟨s, hs, h⟩;exact ⟨s, hs, h.ac ⟨0, .fin⟩⟩
theorem any_cons {N : List St} {now L now2 : List Nat} {c : Int} {w : List Int} (h : l6 N now L) (h2 : iK N c L now2) : Any N now (c :: w) ↔ Any N now2 w := by
 constructor
 ·rintro ⟨s, hs, k, ha⟩
  rcases xy ha with ⟨e, _⟩ | ⟨c', v, t, n, b, nx, e, h3, h4, h5, h6, h7, h8⟩
  ·cases e
  ·simp only [List.cons.injEq] at e;obtain ⟨rfl, rfl⟩ := e;exact ⟨n, (h2 n).2 ⟨t, (h t).2 ⟨s, hs, h3⟩, b, nx, h4, h5, h6, h7⟩, h8⟩
 ·rintro ⟨n, hn, k, ha⟩;obtain ⟨t, ht, b, nx, h4, h5, h6, h7⟩ := (h2 n).1 hn;obtain ⟨s, hs, h3⟩ := (h t).1 ht;exact ⟨s, hs, h3.ac ⟨k + 1, .read h4 h5.1 h5.2 h6 h7 ha⟩⟩
theorem Fh {N : List St} {w : List Int} : ¬ Any N [] w := by rintro ⟨s, hs, _⟩; cases hs
end Rgx
namespace Rgx
section
variable {p q : Nat -> Prop} {w W : World} {l : List Rx} {B : Option Addr} {m d : Nat}
theorem aU.take (h : aU p w l B) (i : Nat) : aU p w (l.take i) B := fun j hj => by
 obtain ⟨b, o, v1, v2, e, h1⟩ := h j (by rw [List.length_take] at hj; omega);refine ⟨b, o, v1, v2, e, ?_⟩;rw [List.getElem_take];exact h1
end
end Rgx
theorem pF {r t : Rx} {K K2 : Int} {A B A2 B2 : Option Addr} {n c m d n2 c2 m2 d2 : Nat} {w : World} (hK : K = r.kind) (hK2 : K2 = t.kind) (V : Bool) (hV : V = decide (aW r t = 0)) (h1 : aC w r A n c B m d) (h2 : aC w t A2 n2 c2 B2 m2 d2) : Calls Tryz.prog 18 #[.agg #[.int .i64 K, .slice A n c, .slice B m d], .agg #[.int .i64 K2, .slice A2 n2 c2, .slice B2 m2 d2]] w (aI w V) := by
 subst hK; subst hK2;exact GU r t V hV _ _ _ _ _ _ _ _ _ _ _ _ w h1 h2
theorem D5 {P : Program} {t e : TypeId} {i : TypeInfo} (h : P.underlying t = some (.slice e)) (hi : P.info? e = some i) (B : Option Addr) (m d k : Nat) (hk : k <= m) (hm : m <= d) (hB : m ≠ 0 -> ∃ b o, B = some ⟨b, o, none⟩) : ∃ B', (∀ b o, B = some ⟨b, o, none⟩ -> ∃ o', B' = some ⟨b, o', none⟩ /\ (k < d -> o' = o + k * i.size)) /\ ∀ w, (Instr.slice t (.slice B m d) (some (.int .i64 (k : Int))) none none).run P w = .ok (.slice B' (m - k) (d - k)) w := by
 have h2 : (k : Int) <= (m : Int) := by omega
 cases B with
 |none =>
  obtain rfl : m = 0 := Classical.byContradiction fun h => by obtain ⟨b, o, e⟩ := hB h; cases e
  obtain rfl : k = 0 := by omega
  refine ⟨none, fun b o e => (by cases e), fun w => ?_⟩;simp [Instr.slice, Instr.sliceBounds, Instr.sliceBound, asIntOf, run_underlying h, sizeOf, typeInfo, hi, go_sem]
 |some a =>
  by_cases hd : d = k
  ·refine ⟨some a, fun b o e => ⟨o, e, fun h => by omega⟩, fun w => ?_⟩;simp [Instr.slice, Instr.sliceBounds, Instr.sliceBound, asIntOf, run_underlying h, sizeOf, typeInfo, hi, h2, hd, go_sem];intro h3;omega
  ·refine ⟨some (a.add (k * i.size)), fun b o e => ?_, fun w => ?_⟩
   ·obtain rfl := Option.some.inj e;exact ⟨o + k * i.size, by simp [Addr.add], fun _ => rfl⟩
   ·simp [Instr.slice, Instr.sliceBounds, Instr.sliceBound, asIntOf, run_underlying h, sizeOf, typeInfo, hi, h2, hd, go_sem];intro h3;omega
namespace Rgx
theorem ai.lt7 {p : Nat -> Prop} {w : World} {r : Rx} {A B : Option Addr} {n c m d : Nat} (h : ai p w r A n c B m d) : ai (fun b => p b /\ b < w.heap.size) w r A n c B m d := h.and h.o.toP
theorem ai.keep {p : Nat -> Prop} {w W : World} {r : Rx} {A B : Option Addr} {n c m d : Nat} (h : ai p w r A n c B m d) (hk : ∀ b o, p b -> W.cell? ⟨b, o, none⟩ = w.cell? ⟨b, o, none⟩) : ai p W r A n c B m d := by
 have h1 := aP.keep (W := W) hk r h.q;obtain ⟨A', n', c', B', m', d', e1, e2, h2⟩ := aP.op h1;simp only [Value.slice.injEq] at e1 e2;obtain ⟨rfl, rfl, rfl⟩ := e1;obtain ⟨rfl, rfl, rfl⟩ := e2;exact h2
theorem ai.grown {p : Nat -> Prop} {w W : World} {r : Rx} {A B : Option Addr} {n c m d : Nat} {G : Option Nat} (h : ai p w r A n c B m d) (hg : w.grownBy W G) (hp : ∀ b, p b -> some b ≠ G) : ai p W r A n c B m d := by
 have h1 := h.lt7.keep (W := W) fun b o hb => World.cell?_of_block (hg.block b hb.2 (hp b hb.1))
 exact h1.mono fun b hb => hb.1
theorem AP {F : List Rx} {i : Nat} (hi : i < F.length) : F.take (i + 1) = F.take i ++ [ak F i] := by rw [List.take_succ_eq_append_getElem hi, dO hi]
end Rgx
namespace Rgx
def nl (l : List Nat) : List Int := l.map Int.ofNat
theorem tO (l : List Nat) : (nl l).length = l.length := by unfold nl; simp
structure bY (p : Nat -> Prop) (w : World) (l : List Nat) (A : Option Addr) (n c : Nat) : Prop where
 len : n = l.length
 cap : n <= c
 max : c <= 9223372036854775807
 rd : Rd w A (iv (nl l))
 blk : l ≠ [] -> ∀ b o, A = some ⟨b, o, none⟩ -> p b
 full : l.length = 1 -> c = 1
section
variable {p q : Nat -> Prop} {w W : World} {l : List Nat} {A : Option Addr} {n c : Nat} {xs ys : List Value} {M : List St}
theorem j3 (h : l ≠ []) : iv (nl l) ≠ [] := by cases l with | nil => exact absurd rfl h | cons x t => simp [nl, iv]
theorem bY.mono (h : bY p w l A n c) (hpq : ∀ b, p b -> q b) : bY q w l A n c := ⟨h.len, h.cap, h.max, h.rd, fun hn b o e => hpq b (h.blk hn b o e), h.full⟩
theorem bY.keep (h : bY p w l A n c) (hk : ∀ b o, p b -> W.cell? ⟨b, o, none⟩ = w.cell? ⟨b, o, none⟩) : bY p W l A n c := by
 refine ⟨h.len, h.cap, h.max, ?_, h.blk, h.full⟩
 by_cases hl : l = []
 ·subst hl; exact .inl rfl
 ·obtain ⟨b, o, e, hc⟩ := h.rd.open (j3 hl);exact .inr ⟨b, o, e, fun k v hv => (hk b _ (h.blk hl b o e)).trans (hc k v hv)⟩
theorem bY.lt (h : bY p w l A n c) : bY (fun b => p b /\ b < w.heap.size) w l A n c := ⟨h.len, h.cap, h.max, h.rd, fun hn b o e => ⟨h.blk hn b o e, by
 obtain ⟨b', o', e', hc⟩ := h.rd.open (j3 hn);obtain ⟨rfl, rfl⟩ : b = b' /\ o = o' := by rw [e] at e'; simpa using e'
 cases l with
 |nil => exact absurd rfl hn
 |cons x t => exact World.block_lt_of_cell? w _ (hc 0 _ rfl)⟩, h.full⟩
theorem bY.nil (p : Nat -> Prop) (w : World) : bY p w [] none 0 0 := ⟨rfl, Nat.le_refl _, Nat.zero_le _, .inl rfl, fun h => absurd rfl h, fun h => by simp at h⟩
theorem bY.of_blk {T : TypeId} {g : Nat} (h : aa w g (iv (nl l)) T) (hm : l.length <= 9223372036854775807) (hp : p g) : bY p w l (some ⟨g, 0, none⟩) l.length l.length := ⟨rfl, Nat.le_refl _, hm, .inr ⟨g, 0, rfl, fun k v hv => by rw [Nat.zero_add]; exact h.cell hv⟩, fun _ b o e => by obtain ⟨rfl, _⟩ : g = b /\ 0 = o := (by simpa using e); exact hp, fun h => h⟩
def fG (p : Nat -> Prop) (w : World) (xs : List Value) (M : List St) : Prop := xs.length = M.length * 2 /\ ∀ i (h : i < M.length), ∃ A n c, xs[i * 2]? = some (.int .u64 ((M[i].1 : Nat) : Int)) /\ xs[i * 2 + 1]? = some (.slice A n c) /\ bY p w M[i].2 A n c
theorem fG.nil (p : Nat -> Prop) (w : World) : fG p w [] [] := ⟨rfl, fun i h => absurd h (by simp)⟩
theorem fG.mono (h : fG p w xs M) (hpq : ∀ b, p b -> q b) : fG q w xs M := ⟨h.1, fun i hi => by
 obtain ⟨A, n, c, e1, e2, e3⟩ := h.2 i hi;exact ⟨A, n, c, e1, e2, e3.mono hpq⟩⟩
theorem fG.keep (h : fG p w xs M) (hk : ∀ b o, p b -> W.cell? ⟨b, o, none⟩ = w.cell? ⟨b, o, none⟩) : fG p W xs M := ⟨h.1, fun i hi => by
 obtain ⟨A, n, c, e1, e2, e3⟩ := h.2 i hi;exact ⟨A, n, c, e1, e2, e3.keep hk⟩⟩
theorem fG.lt (h : fG p w xs M) : fG (fun b => p b /\ b < w.heap.size) w xs M := ⟨h.1, fun i hi => by
 obtain ⟨A, n, c, e1, e2, e3⟩ := h.2 i hi;exact ⟨A, n, c, e1, e2, e3.lt⟩⟩
theorem fG.snoc (h : fG p w xs M) {b : Nat} (hn : bY p w l A n c) : fG p w (xs ++ [.int .u64 ((b : Nat) : Int), .slice A n c]) (M ++ [(b, l)]) := by
 have hl := h.1;refine ⟨by rw [List.length_append, List.length_append, hl]; simp; omega, fun i hi => ?_⟩;rw [List.length_append] at hi
 by_cases e : i < M.length
 ·obtain ⟨A', n', c', e1, e2, e3⟩ := h.2 i e;rw [List.getElem?_append_left (by omega), List.getElem?_append_left (by omega), List.getElem_append_left e];exact ⟨A', n', c', e1, e2, e3⟩
 ·obtain rfl : i = M.length := by simp at hi; omega
  rw [List.getElem?_append_right (by omega), List.getElem?_append_right (by omega)];refine ⟨A, n, c, ?_, ?_, ?_⟩
  ·rw [show M.length * 2 - xs.length = 0 by omega]; simp
  ·rw [show M.length * 2 + 1 - xs.length = 1 by omega]; simp
  ·simpa using hn
theorem fG.set (h : fG p w xs M) {b k : Nat} (hk : k < M.length) (hb : M[k].1 = b) (hn : bY p w l A n c) : fG p w (xs.set (k * 2 + 1) (.slice A n c)) (M.set k (b, l)) := by
 have hl := h.1;refine ⟨by rw [List.length_set, List.length_set, hl], fun i hi => ?_⟩;have hi2 : i < M.length := by rwa [List.length_set] at hi
 by_cases e : i = k
 ·subst e;obtain ⟨A', n', c', e1, e2, e3⟩ := h.2 i hi2;refine ⟨A, n, c, ?_, ?_, ?_⟩
  ·rw [List.getElem?_set_ne (by omega), e1, List.getElem_set_self, hb]
  ·rw [List.getElem?_set_self (by omega)]
  ·rw [List.getElem_set_self]; exact hn
 ·obtain ⟨A', n', c', e1, e2, e3⟩ := h.2 i hi2;refine ⟨A', n', c', ?_, ?_, ?_⟩
  ·rw [List.getElem?_set_ne (by omega), e1, List.getElem_set_ne (by omega)]
  ·rw [List.getElem?_set_ne (by omega), e2]
  ·rw [List.getElem_set_ne (by omega)]; exact e3
end
structure aY (q : Nat -> Prop) (mb : Nat) (v : Value) (M : List St) (w : World) : Prop where
 box : aa w mb [v] 70
 row : ∃ xs, fG (fun b => q b /\ b ≠ mb /\ some b ≠ v.ownBlock) w xs M /\ w.ownsRow (mb + 1) 109 2 v M.length xs
structure Kp (mb : Nat) (v : Value) (w w' : World) : Prop where
 os : w'.os = w.os
 tape : w'.tape = w.tape
 output : w'.output = w.output
 size : w.heap.size <= w'.heap.size
 block : ∀ k, k < w.heap.size -> k ≠ mb -> some k ≠ v.ownBlock -> w'.heap[k]? = w.heap[k]?
def Nw (w : World) (v v' : Value) : Prop := v'.ownBlock = v.ownBlock \/ ∃ g, v'.ownBlock = some g /\ w.heap.size <= g
section
variable {q q2 : Nat -> Prop} {mb : Nat} {v v1 v2 : Value} {M : List St} {w w1 w2 : World}
theorem Kp.refl (mb : Nat) (v : Value) (w : World) : Kp mb v w w := ⟨rfl, rfl, rfl, Nat.le_refl _, fun _ _ _ _ => rfl⟩
theorem Nw.refl (w : World) (v : Value) : Nw w v v := .inl rfl
theorem Kp.of_below (h : Below w.heap.size w w1) : Kp mb v w w1 := ⟨h.os, h.tape, h.output, h.size, fun k hk _ _ => h.block k hk⟩
theorem Kp.tr (h1 : Kp mb v w w1) (hn : Nw w v v1) (h2 : Kp mb v1 w1 w2) : Kp mb v w w2 := ⟨h2.os.trans h1.os, h2.tape.trans h1.tape, h2.output.trans h1.output, Nat.le_trans h1.size h2.size, fun k hk hm ho => (h2.block k (Nat.lt_of_lt_of_le hk h1.size) hm (fun e => by
 rcases hn with hn | ⟨g, hg, hl⟩
 ·exact ho (e.trans hn)
 ·rw [hg] at e; obtain rfl := Option.some.inj e; omega)).trans (h1.block k hk hm ho)⟩
theorem Nw.tr (h1 : Nw w v v1) (hs : w.heap.size <= w1.heap.size) (h2 : Nw w1 v1 v2) : Nw w v v2 := by
 rcases h2 with h2 | ⟨g, hg, hl⟩
 ·rcases h1 with h1 | ⟨g, hg, hl⟩
  ·exact .inl (h2.trans h1)
  ·exact .inr ⟨g, h2.trans hg, hl⟩
 ·exact .inr ⟨g, hg, Nat.le_trans hs hl⟩
theorem Kp.cell (h : Kp mb v w w1) {b o : Nat} (hb : b < w.heap.size) (hm : b ≠ mb) (ho : some b ≠ v.ownBlock) : w1.cell? ⟨b, o, none⟩ = w.cell? ⟨b, o, none⟩ := World.cell?_of_block (h.block b hb hm ho)
theorem Kp.blk (h : Kp mb v w w1) {b : Nat} {C : List Value} {T : TypeId} (hb : aa w b C T) (hm : b ≠ mb) (ho : some b ≠ v.ownBlock) : aa w1 b C T := (h.block b hb.lt hm ho).trans hb
theorem aY.lt (h : aY q mb v M w) : mb < w.heap.size /\ ∀ g, v.ownBlock = some g -> mb < g /\ g < w.heap.size := ⟨h.box.lt, fun g hg => by
 obtain ⟨xs, _, hO⟩ := h.row;have := hO.lt g hg;exact ⟨by omega, this.2⟩⟩
theorem aY.mono (h : aY q mb v M w) (hq : ∀ b, q b -> b < w.heap.size -> q2 b) : aY q2 mb v M w := ⟨h.box, by
 obtain ⟨xs, hC, hO⟩ := h.row;exact ⟨xs, hC.lt.mono fun b hb => ⟨hq b hb.1.1 hb.2, hb.1.2⟩, hO⟩⟩
theorem aY.below (h : aY q mb v M w) (hb : Below w.heap.size w w1) : aY q mb v M w1 := ⟨h.box.below hb h.box.lt, by
 obtain ⟨xs, hC, hO⟩ := h.row;exact ⟨xs, (hC.lt.keep fun b o hp => hb.cell (p := ⟨b, o, none⟩) hp.2).mono fun b hp => hp.1, dW hO hb⟩⟩
theorem aY.grown (h : aY q mb v M w) {G : Nat} (hg : w.grownBy w1 (some G)) (hm : G ≠ mb) (ho : v.ownBlock ≠ some G) (hq : ∀ b, q b -> b ≠ G) : aY q mb v M w1 := ⟨(hg.block mb h.box.lt (fun e => hm (Option.some.inj e).symm)).trans h.box, by
 obtain ⟨xs, hC, hO⟩ := h.row;exact ⟨xs, (hC.lt.keep fun b o hp => World.cell?_of_block (hg.block b hp.2 (fun e => hq b hp.1.1 (Option.some.inj e)))).mono fun b hp => hp.1, hO.kept hg (.inr ho)⟩⟩
end
end Rgx
def fB (q : Nat -> Prop) (mb : Nat) (v : Value) (M' : List St) (t : Nat) (w : World) (e : Ending) (w' : World) : Prop := ∃ v', e = .returned (.int .i64 (t : Int)) /\ aY q mb v' M' w' /\ Kp mb v w w' /\ Nw w v v'
theorem jH {q : Nat -> Prop} {mb : Nat} {v : Value} {M' : List St} {t : Nat} {w w' : World} {e : Ending} (h : fB q mb v M' t w e w') : ∃ v', e = .returned (.int .i64 (t : Int)) /\ aY q mb v' M' w' /\ Kp mb v w w' /\ Nw w v v' := h
theorem Hm : (Tryz.prog.info? 109).map (fun i => (i.zero, i.size, i.bytes)) = some (some (.agg #[.int .u64 0, .slice none 0 0]), 2, 32) := by kernel_rfl
theorem G6 : (Tryz.prog.info? 68).map (·.size) = some 1 := by kernel_rfl
theorem Gv {size : Nat} (hs : size = 2) (w : World) (x : Int) (A : Option Addr) (n c : Nat) : Src Tryz.prog size 68 (.slice (some ⟨w.heap.size, 0, none⟩) 1 1) 1 [.int .u64 x, .slice A n c] (w.alloc (.cells #[.int .u64 x, .slice A n c] 109)) := by
 subst hs;refine Src.ofSlice _ Tryz.underlying68 _ 1 1 _ rfl (fun j u hu => ?_) (by simp [Value.oneCell']);have hadd : (⟨w.heap.size, 0, none⟩ : Addr).add j = ⟨w.heap.size, j, none⟩ := by unfold Addr.add; split <;> simp_all
 rw [hadd];exact (aa.at w [.int .u64 x, .slice A n c] _ 109 _ rfl rfl).cell hu
theorem nH {q : Nat -> Prop} {mb : Nat} {v : Value} {M : List St} (w : World) (hq : ∀ b, w.heap.size <= b -> q b) (hM : aY q mb v M w) (b : Nat) (l : List Nat) (A : Option Addr) (n c : Nat) (hn : bY (fun b => q b /\ b ≠ mb /\ some b ≠ v.ownBlock) w l A n c) (hc : M.length <= 1000000000) : Calls Tryz.prog 59 #[.pointer (some ⟨mb, 0, none⟩), .int .u64 (b : Int), .slice A n c] w (fB q mb v (M ++ [(b, l)]) M.length w) := by
 obtain ⟨i0, hi0, hz0, hz1, hz2⟩ := info_parts Hm;obtain ⟨B5, d5, hv, hrd, hnd, hdm⟩ := (by obtain ⟨xs, hC, hO⟩ := hM.row; obtain ⟨B, d, e, h1, h2, h3⟩ := Rd.of_own hO; exact ⟨B, d, e, xs, h2, h3⟩ : ∃ B d, v = .slice B M.length d /\ ∃ xs : List Value, M.length <= d /\ d <= maxLen);obtain ⟨N5, hN5⟩ : ∃ N, N = M.length := ⟨_, rfl⟩;rw [<- hN5] at hv;subst hv;clear hrd hnd hdm;obtain ⟨xs, hC, hO⟩ := hM.row;rw [<- hN5] at hO;have HC := Lh hC;have HO := Lh hO;have HM := Lh hM;have HN := Lh hn;have HN5 := Lh hN5;have hb0 : w.cell? ⟨mb, 0, none⟩ = some (.slice B5 N5 d5) := hM.box.cell (j := 0) rfl;have hmb := hM.lt.1;have HAP : Hid (∀ v5 w5, w5.ownsRow (mb + 1) 109 2 v5 (N5 + 1) (xs ++ [.int .u64 (b : Int), .slice A n c]) -> (w.alloc (.cells #[.int .u64 (b : Int), .slice A n c] 109)).grownBy w5 (Value.slice B5 N5 d5).ownBlock -> (v5.ownBlock = (Value.slice B5 N5 d5).ownBlock \/ v5.ownBlock = some (w.alloc (.cells #[.int .u64 (b : Int), .slice A n c] 109)).heap.size) -> aa w5 mb [Value.slice B5 N5 d5] 70 /\ ∀ w9, aK w5 w9 mb [v5] 70 -> fB q mb (Value.slice B5 N5 d5) (M ++ [(b, l)]) M.length w (.returned (.int .i64 (N5 : Int))) w9 /\ w9.cell? ⟨mb, 0, none⟩ = some v5) := Lh fun v5 w5 hown hg hat => by
  have hlt := HM.out.lt;have hbox : aa w5 mb [Value.slice B5 N5 d5] 70 := (hg.block mb (by simp; omega) (fun e => by have := hlt.2 mb e.symm; omega)).trans (HM.out.box.alloc _);refine ⟨hbox, fun w9 hst => ⟨⟨v5, by rw [HN5.out], ?_, ?_, ?_⟩, hst.1.cell (j := 0) rfl⟩⟩
  ·have ho5 : v5.ownBlock ≠ some mb := fun e => by
     rcases hat with h | h
     ·have := hlt.2 mb (h.symm.trans e); omega
     ·rw [h] at e; have := Option.some.inj e; simp at this; omega
   have hw : ∀ bb o, (q bb /\ bb ≠ mb /\ some bb ≠ (Value.slice B5 N5 d5).ownBlock) /\ bb < w.heap.size -> w9.cell? ⟨bb, o, none⟩ = w.cell? ⟨bb, o, none⟩ := fun bb o hp => (World.cell?_of_block (hst.2.1 bb hp.1.2.1)).trans ((World.cell?_of_block (hg.block bb (by simp; omega) hp.1.2.2)).trans (World.cell?_alloc_lt w _ ⟨bb, o, none⟩ hp.2))
   have hp5 : ∀ bb, (q bb /\ bb ≠ mb /\ some bb ≠ (Value.slice B5 N5 d5).ownBlock) /\ bb < w.heap.size -> q bb /\ bb ≠ mb /\ some bb ≠ v5.ownBlock := fun bb hp => ⟨hp.1.1, hp.1.2.1, fun e => by
     rcases hat with h | h
     ·exact hp.1.2.2 (e.trans h)
     ·rw [h] at e; have := Option.some.inj e; simp at this; omega⟩
   refine ⟨hst.1, xs ++ [.int .u64 (b : Int), .slice A n c], ((HC.out.lt.keep hw).mono hp5).snoc ((HN.out.lt.keep hw).mono hp5), ?_⟩;rw [List.length_append, <- HN5.out];exact hown.kept (row := some mb) (bv hst) (.inr ho5)
  ·refine ⟨hst.2.2.2.1.trans hg.os, hst.2.2.2.2.1.trans hg.tape, hst.2.2.2.2.2.trans hg.output, by rw [hst.2.2.1]; have := hg.size; simp at this; omega, fun k hk h1 h2 => (hst.2.1 k h1).trans ((hg.block k (by simp; omega) h2).trans (heap_alloc_old w _ hk))⟩
  ·exact hat.imp id fun h => ⟨_, h, by simp⟩
 have hs1 : N5 + 1 <= maxLen := by unfold maxLen; omega
 have hs2 : (N5 + 1) * 32 <= 140737488355328 := by omega
 clear hC hO hM hn hq hN5;go_enter Tryz.func59, Tryz.ntmps59
 go_upto_region 2 with (first
  |(at_builtin; refine eu rfl (.tmp 11) (.tmp 15) 68 68 rfl (mb + 1) 109 i0 _ 2 32 Tryz.underlying68 hi0 hz0 hz1 hz2 rfl _ _ _ rfl (dW HO.out (ag _ _)) _ 1 [.int .u64 (b : Int), .slice A n c] rfl (Gv hz1 _ _ _ _ _) hs1 hs2 (by simp; omega) ?_; intro v5 w5 hown5 hg5 hat5; obtain ⟨A6, c6, hv6, _⟩ := Rd.of_own hown5; subst hv6; have HX5 := Lh (HAP.out _ _ hown5 hg5 hat5); clear hown5 hg5 hat5)
  |(refine lC rfl 68 (.tmp 18) (.tmp 16) rfl mb 0 rfl A6 (N5 + 1) c6 rfl HX5.out.1 (by simp) G6 ?_; intro w9 hst9; have HX9 := Lh (HX5.out.2 w9 hst9); have hb9 := HX9.out.2; clear hst9))
 go_wp2_with fail;go_ret;exact HX9.out.1
def tkC (k : Nat) (at' : Nat) (K : Int) (A : Option Addr) (n c : Nat) : List Value := [.int .u8 (k : Int), .int .i64 (at' : Int), .int .i64 K, .slice A n c, .slice none 0 0]
theorem bG : (Tryz.prog.info? 80).map (·.size) = some 5 := by kernel_rfl
theorem qC : (Tryz.prog.info? 90).map (·.size) = some 5 := by kernel_rfl
def kP (w : World) (A : Option Addr) (n c : Nat) (e : Ending) (w' : World) : Prop := e = .returned (.agg (tkC 2 0 2 A n c).toArray) /\ Below w.heap.size w w'
theorem mQ {w w' : World} {A : Option Addr} {n c : Nat} {e : Ending} (h : kP w A n c e w') : e = .returned (.agg #[.int .u8 2, .int .i64 0, .int .i64 2, .slice A n c, .slice none 0 0]) /\ Below w.heap.size w w' := h
theorem mX (A : Option Addr) (n c : Nat) (w : World) : Calls Tryz.prog 127 #[.slice A n c] w (kP w A n c) := by
 have HST : Hid (∀ W, aK (w.alloc zT) W w.heap.size [.int .u8 2, .int .i64 0, .int .i64 2, .slice A n c, .slice none 0 0] 80 -> Below w.heap.size w W /\ aa W w.heap.size [.int .u8 2, .int .i64 0, .int .i64 2, .slice A n c, .slice none 0 0] 80) := Lh fun W hst => ⟨hst.below (ag _ _) (Nat.le_refl _), hst.1⟩
 go_enter Tryz.func127, Tryz.ntmps127
 go_wp2_with (refine wB rfl 80 (.tmp 2) (.tmp 5) rfl w.heap.size 0 rfl [.int .u8 2, .int .i64 0, .int .i64 2, .slice A n c, .slice none 0 0] rfl (aa.at w zM _ 80 _ rfl rfl) 5 bG ?_; intro x5 hst5; have HX5 := Lh (HST.out x5 hst5); clear hst5)
 exact bM rfl w.heap.size rfl (C := [.int .u8 2, .int .i64 0, .int .i64 2, .slice A n c, .slice none 0 0]) (T := 80) HX5.out.2 _ Tryz.underlying80 rfl bG rfl ⟨rfl, HX5.out.1⟩
namespace Rgx
def fw (L : List Lt) (s : B) : Nat -> Nat × Nat
 |0 => (0, 0)
 |i + 1 => if (fw L s i).2 < (L.getD i z).text.length /\ (L.getD i z).text <+: s then (i, (L.getD i z).text.length) else fw L s i
theorem nU (L : List Lt) (s : B) : ∀ i, (fw L s i).2 <= s.length /\ ((fw L s i).2 ≠ 0 -> (fw L s i).1 < i)
 |0 => ⟨Nat.zero_le _, fun h => absurd rfl h⟩
 |i + 1 => by
  have ih := nU L s i;rw [fw]
  split
  ·rename_i h
   exact ⟨h.2.length_le, fun _ => Nat.lt_succ_self i⟩
  ·exact ⟨ih.1, fun h => Nat.lt_succ_of_lt (ih.2 h)⟩
theorem vw (s t : B) : Lib.hasPrefix s t = decide (t <+: s) := by
 rw [Bool.eq_iff_iff, decide_eq_true_iff];unfold Lib.hasPrefix;simp
end Rgx
def qc (L : List Lt) (s : B) (w : World) (e : Ending) (w' : World) : Prop := Below w.heap.size w w' /\ (((fw L s L.length).2 = 0 /\ e = .returned (.tuple #[.agg #[.int .u8 0, .int .i64 0, .int .i64 0, .slice none 0 0, .slice none 0 0], .int .i64 0])) \/ ((fw L s L.length).2 ≠ 0 /\ ∃ g, w.heap.size <= g /\ aa w' g [.int .i64 ((fw L s L.length).1 : Int)] 3 /\ e = .returned (.tuple #[.agg #[.int .u8 2, .int .i64 0, .int .i64 2, .slice (some ⟨g, 0, none⟩) 1 1, .slice none 0 0], .int .i64 ((fw L s L.length).2 : Int)])))
theorem Bo (L : List Lt) (A : Option Addr) (n c : Nat) (hn : n = L.length) (hc : n <= c) (hm : c <= 9223372036854775807) (s : B) (hs : s.length <= 1000000) (w : World) (hL : Rd w A (lv L)) (hlt : ∀ l ∈ L, l.text.length <= 1000000) : Calls Tryz.prog 129 #[.string (tb s), .slice A n c] w (qc L s w) := by
 have HL : Hid (Rd w A (lv L) /\ n = L.length /\ (∀ l ∈ L, l.text.length <= 1000000) /\ s.length <= 1000000) := Lh ⟨hL, hn, hlt, hs⟩;have HZ : Hid (Below w.heap.size w (w.alloc zT) /\ aa (w.alloc zT) w.heap.size zM 80) := Lh ⟨ag _ _, aa.at w zM _ 80 _ rfl rfl⟩;clear hL hn hlt hs;go_enter Tryz.func129, Tryz.ntmps129;go_wp2_with fail
 go_loopg [6, 7, 12] n (fun gq s6 s7 s12 wr => ∃ (i p1 p2 : Nat), i + gq = n /\ s12 = .int .i64 (i : Int) /\ s6 = .int .i64 (p1 : Int) /\ s7 = .int .i64 (p2 : Int) /\ Hid (p1 = (fw L s i).1 /\ p2 = (fw L s i).2 /\ Below (w.alloc zT).heap.size (w.alloc zT) wr))
 case atStart => exact ⟨0, 0, 0, by omega, rfl, rfl, rfl, Lh ⟨rfl, rfl, Below.refl _ _⟩⟩
 case round =>
  obtain ⟨i, p1, p2, hi, rfl, rfl, rfl, HI⟩ := hrel;have hp2 : p2 <= 1000000 := by rw [HI.out.2.1]; have := (nU L s i).1; have := HL.out.2.2.2; omega
  have hbw := HZ.out.1.trans (HI.out.2.2.mono HZ.out.1.size)
  by_cases hlt : i < n
  ·obtain ⟨gg, rfl⟩ : ∃ g, gk = g + 1 := ⟨gk - 1, by omega⟩;have hil : i < L.length := by rw [<- HL.out.2.1]; exact hlt
   obtain ⟨b, o, rfl, hrl⟩ := mf HL.out.1 (List.ne_nil_of_length_pos (by omega));obtain ⟨l, hl⟩ : ∃ l, l = L.getD i z := ⟨_, rfl⟩;have hrg : wr.rangeAt b (o + i * 5) [.string (tb l.text), .int .i64 l.base, .int .i64 l.mark, .int .i64 l.cas, .int .i64 l.width] := (hrl.below hbw).range hil hl;obtain ⟨ln, hln⟩ : ∃ n, n = l.text.length := ⟨_, rfl⟩;have HST : Hid (∀ W, aK (wr.alloc (.cells #[.string ⟨#[]⟩, .int .i64 0, .int .i64 0, .int .i64 0, .int .i64 0] 90)) W wr.heap.size [.string (tb l.text), .int .i64 l.base, .int .i64 l.mark, .int .i64 l.cas, .int .i64 l.width] 90 -> Below wr.heap.size wr W /\ aa W wr.heap.size [.string (tb l.text), .int .i64 l.base, .int .i64 l.mark, .int .i64 l.cas, .int .i64 l.width] 90) := Lh fun W hst => ⟨hst.below (ag _ _) (Nat.le_refl _), hst.1⟩
   obtain ⟨V, hV⟩ : ∃ V, V = decide (l.text <+: s) := ⟨_, rfl⟩;have HHP : Hid (∀ W, Calls Tryz.prog 154 #[.string (tb s), .string (tb l.text)] W fun e w' => e = .returned (.bool V) /\ w' = W) := Lh fun W => (Tryz.strings_HasPrefix _ _ W).mono fun e w' ⟨he, hw⟩ => ⟨by rw [he, ng, ng, vw, hV], hw⟩
   have hsz : (tb l.text).size = ln := by rw [hln]; show (List.toArray l.text).size = _; simp
   have HU : Hid (fw L s (i + 1) = if p2 < ln /\ V = true then (i, ln) else (p1, p2)) := Lh (by
    rw [fw, <- hl, <- hln, HI.out.1, HI.out.2.1, hV];simp only [decide_eq_true_iff])
   clear hl hrl hil hV hbw hln
   go_upto_region 5 with (first
    |(refine wpList_load_mid rfl 90 (.tmp 15) rfl b (o + i * 5) rfl [.string (tb l.text), .int .i64 l.base, .int .i64 l.mark, .int .i64 l.cas, .int .i64 l.width] _ hrg Tryz.underlying90 rfl qC ?_)
    |(refine wB rfl 90 (.tmp 9) (.tmp 16) rfl wr.heap.size 0 rfl [.string (tb l.text), .int .i64 l.base, .int .i64 l.mark, .int .i64 l.cas, .int .i64 l.width] rfl (aa.at wr [.string ⟨#[]⟩, .int .i64 0, .int .i64 0, .int .i64 0, .int .i64 0] _ 90 _ rfl rfl) 5 qC ?_; intro x5 hst5; have HX5 := Lh (HST.out x5 hst5); clear hst5))
   (try simp only [Act.put]);have hcb0 := HX5.out.2.cell (j := 0) rfl
   by_cases hpl : p2 < ln
   ·have e1 : decide (p2 < ln) = true := dT hpl
    cases V with
    |true =>
     have HU2 : Hid (fw L s (i + 1) = (i, ln)) := Lh (by rw [HU.out, if_pos ⟨hpl, rfl⟩]);have HBS : Hid (Below x5.heap.size x5 x5) := Lh (Below.refl _ _);have l1 : ∀ p : Wo (Below x5.heap.size x5), p.wo.cell? ⟨wr.heap.size, 0, none⟩ = some (.string (tb l.text)) := fun p => (p.ok.cell (p := ⟨wr.heap.size, 0, none⟩) (World.block_lt_of_cell? x5 _ hcb0)).trans hcb0
     clear HU hpl
     go_upto_region 6 with ((with_reducible refine (HHP.out _).mono ?_); rintro e w6 ⟨rfl, hw6⟩; have hw7 := hw6.symm; clear hw6; subst hw7)
     haveI : Nonempty (Wo (Below x5.heap.size x5)) := ⟨⟨x5, HBS.out⟩⟩;refine iR (Below x5.heap.size x5) jc (by kernel_rfl) (below_drewN HBS.out 1) ?_
     repeat (go_big_quiet_step ((fail)))
     refine wpQuiet_nil ?_;intro x6 hw2;obtain ⟨⟨x6x, hok⟩, hw3⟩ := hw2;have hw4 : x6 = x6x := hw3;subst hw4;have Hx6 := Lh hok;clear hw3 hok;go_wp2_with fail
     go_roundg gg
     case rel => exact ⟨i + 1, _, _, by omega, by go_num, rfl, rfl, Lh ⟨by rw [HU2.out], by rw [HU2.out], HI.out.2.2.trans ((HX5.out.1.trans (Hx6.out.mono HX5.out.1.size)).mono HI.out.2.2.size)⟩⟩
     case measure => omega
    |false =>
     have HU2 : Hid (fw L s (i + 1) = (p1, p2)) := Lh (by rw [HU.out, if_neg (by intro h; cases h.2)]);clear HU hpl
     go_wp2_with ((with_reducible refine (HHP.out _).mono ?_); rintro e w6 ⟨rfl, hw6⟩; have hw7 := hw6.symm; clear hw6; subst hw7)
     go_roundg gg
     case rel => exact ⟨i + 1, _, _, by omega, by go_num, rfl, rfl, Lh ⟨by rw [HU2.out], by rw [HU2.out], HI.out.2.2.trans (HX5.out.1.mono HI.out.2.2.size)⟩⟩
     case measure => omega
   ·have e1 : decide (p2 < ln) = false := dF hpl;have HU2 : Hid (fw L s (i + 1) = (p1, p2)) := Lh (by rw [HU.out, if_neg (by intro h; exact hpl h.1)]);clear HU hpl;go_wp2_with fail
    go_roundg gg
    case rel => exact ⟨i + 1, _, _, by omega, by go_num, rfl, rfl, Lh ⟨by rw [HU2.out], by rw [HU2.out], HI.out.2.2.trans (HX5.out.1.mono HI.out.2.2.size)⟩⟩
    case measure => omega
  ·obtain rfl : n = i := by omega
   have HB := Lh hbw;have HP1 : Hid (p1 = (fw L s L.length).1 /\ p2 = (fw L s L.length).2) := Lh (by
    have h := HI.out;rw [HL.out.2.1] at h;exact ⟨h.1, h.2.1⟩)
   have hbx := (HZ.out.2.below HI.out.2.2 HZ.out.2.lt);have HBX := Lh hbx;clear hbw hbx
   by_cases h0 : p2 = 0
   ·have HST : Hid (∀ W, aK wr W w.heap.size zM 80 -> qc L s w (.returned (.tuple #[.agg #[.int .u8 0, .int .i64 0, .int .i64 0, .slice none 0 0, .slice none 0 0], .int .i64 0])) W /\ aa W w.heap.size zM 80) := Lh fun W hst => ⟨⟨hst.below HB.out (Nat.le_refl _), .inl ⟨by rw [<- HP1.out.2]; exact h0, rfl⟩⟩, hst.1⟩
    subst h0
    go_wp2_with (refine wB rfl 80 (.tmp 4) (.tmp 35) rfl w.heap.size 0 rfl zM rfl HBX.out 5 bG ?_; intro x5 hst5; have HX5 := Lh (HST.out x5 hst5); clear hst5)
    exact dw rfl w.heap.size rfl (C := zM) (T := 80) HX5.out.2 _ Tryz.underlying80 rfl bG rfl (.int .i64 0) rfl HX5.out.1
   ·have hp1 : p1 < L.length := by
     have h := (nU L s L.length).2 (by rw [<- HP1.out.2]; exact h0);rw [<- HP1.out.1] at h;exact h
    have e1 : ((p2 : Int) == 0) = false := bF (by omega);have HAO : Hid (Calls Tryz.prog 127 #[.slice (some ⟨wr.heap.size, 0, none⟩) 1 1] (wr.alloc (.cells #[.int .i64 (p1 : Int)] 3)) (kP (wr.alloc (.cells #[.int .i64 (p1 : Int)] 3)) (some ⟨wr.heap.size, 0, none⟩) 1 1)) := Lh (mX _ _ _ _);have HAB : Hid (∀ x5, Below (wr.alloc (.cells #[.int .i64 (p1 : Int)] 3)).heap.size (wr.alloc (.cells #[.int .i64 (p1 : Int)] 3)) x5 -> aa x5 w.heap.size zM 80 /\ ∀ W, aK x5 W w.heap.size [.int .u8 2, .int .i64 0, .int .i64 2, .slice (some ⟨wr.heap.size, 0, none⟩) 1 1, .slice none 0 0] 80 -> qc L s w (.returned (.tuple #[.agg #[.int .u8 2, .int .i64 0, .int .i64 2, .slice (some ⟨wr.heap.size, 0, none⟩) 1 1, .slice none 0 0], .int .i64 (p2 : Int)])) W /\ aa W w.heap.size [.int .u8 2, .int .i64 0, .int .i64 2, .slice (some ⟨wr.heap.size, 0, none⟩) 1 1, .slice none 0 0] 80) := Lh fun x5 hb => by
     have h1 : aa (wr.alloc (.cells #[.int .i64 (p1 : Int)] 3)) wr.heap.size [.int .i64 (p1 : Int)] 3 := aa.at wr _ _ 3 _ rfl rfl;have h2 := HBX.out.alloc (Obj.cells #[.int .i64 (p1 : Int)] 3);have hlt := HBX.out.lt;have h3 := h1.below hb h1.lt;refine ⟨h2.below hb h2.lt, fun W hst => ⟨⟨hst.below ((aB HB.out _).trans (hb.mono (aB HB.out _).size)) (Nat.le_refl _), .inr ⟨by rw [<- HP1.out.2]; exact h0, wr.heap.size, by omega, ?_, ?_⟩⟩, hst.1⟩⟩
     · rw [<- HP1.out.1]; exact hst.other h3 (by omega)
     · rw [<- HP1.out.2]
    clear h0 hp1
    go_wp2_with (first
     | ((with_reducible refine HAO.out.mono ?_); rintro e x5 hp; obtain ⟨rfl, h1⟩ := mQ hp; have H5 := Lh (HAB.out x5 h1); clear hp h1)
     | (refine wB rfl 80 (.tmp 4) (.tmp 38) rfl w.heap.size 0 rfl [.int .u8 2, .int .i64 0, .int .i64 2, .slice (some ⟨wr.heap.size, 0, none⟩) 1 1, .slice none 0 0] rfl H5.out.1 5 bG ?_; intro x6 hst6; have HX6 := Lh (H5.out.2 x6 hst6); clear hst6))
    exact dw rfl w.heap.size rfl (C := [.int .u8 2, .int .i64 0, .int .i64 2, .slice (some ⟨wr.heap.size, 0, none⟩) 1 1, .slice none 0 0]) (T := 80) HX6.out.2 _ Tryz.underlying80 rfl bG rfl (.int .i64 (p2 : Int)) rfl HX6.out.1
abbrev cB := Alp.B × List Int
def nL (w : World) (S : List cB) (b o : Nat) : Prop := ∀ k (h : k < S.length), ∃ A n c, w.cell? ⟨b, o + k * 2, none⟩ = some (.string (tb S[k].1)) /\ w.cell? ⟨b, o + k * 2 + 1, none⟩ = some (.slice A n c) /\ n = S[k].2.length /\ n <= c /\ c <= 9223372036854775807 /\ Rd w A (iv S[k].2) /\ S[k].1.length <= 9223372036854775807
structure dV (w : World) (S : List cB) (A : Option Addr) (n c : Nat) : Prop where
 len : n = S.length
 cap : n <= c
 max : c <= 9223372036854775807
 ats : S = [] \/ ∃ b o, A = some ⟨b, o, none⟩ /\ nL w S b o
theorem nL.below {w W : World} {S : List cB} {b o : Nat} (h : nL w S b o) (hb : Below w.heap.size w W) : nL W S b o := fun k hk => by
 obtain ⟨A, n, c, e1, e2, e3, e4, e5, e6, e7⟩ := h k hk;exact ⟨A, n, c, (hb.cell (p := ⟨b, o + k * 2, none⟩) (World.block_lt_of_cell? w _ e1)).trans e1, (hb.cell (p := ⟨b, o + k * 2 + 1, none⟩) (World.block_lt_of_cell? w _ e2)).trans e2, e3, e4, e5, e6.below hb, e7⟩
theorem dV.below {w W : World} {S : List cB} {A : Option Addr} {n c : Nat} (h : dV w S A n c) (hb : Below w.heap.size w W) : dV W S A n c := ⟨h.len, h.cap, h.max, h.ats.imp id fun ⟨b, o, e, h⟩ => ⟨b, o, e, h.below hb⟩⟩
theorem dV.open {w : World} {S : List cB} {A : Option Addr} {n c : Nat} (h : dV w S A n c) (hn : 0 < S.length) : ∃ b o, A = some ⟨b, o, none⟩ /\ nL w S b o := by
 rcases h.ats with h | h
 ·rw [h] at hn; simp at hn
 ·exact h
theorem yZ : (Tryz.prog.info? 148).map (·.size) = some 2 := by kernel_rfl
theorem BV (args : Array Value) (W : World) : (callFunc 153 args).run Tryz.prog W = .ok (.enter 153 args) W := by kernel_rfl
theorem CQ (a nm : Alp.B) (V : Bool) (hV : V = decide (a = nm)) (A : Option Addr) (n c g : Nat) (w : World) (hg : w.cell? ⟨g, 0, none⟩ = some (.string (tb nm))) : Calls Tryz.prog 153 #[.agg #[.string (tb a), .slice A n c], .pointer (some ⟨g, 0, none⟩)] w (aI w V) := by
 have HBX : Hid (aa (w.alloc (.cells #[.string (tb a), .slice A n c] 148)) w.heap.size [.string (tb a), .slice A n c] 148) := Lh (aa.at w _ _ 148 _ rfl rfl);have hc0 := HBX.out.cell (j := 0) rfl;have hc1 := ((ag w (.cells #[.string (tb a), .slice A n c] 148)).cell (p := ⟨g, 0, none⟩) (World.block_lt_of_cell? w _ hg)).trans hg;have HV : Hid (((tb a).toList == (tb nm).toList) = V) := Lh (by
  rw [hV, iP, iP, Bool.eq_iff_iff, beq_iff_eq, decide_eq_true_iff])
 clear hV;go_enter Tryz.func153, Tryz.ntmps153;go_wp2_with fail;go_ret;exact ⟨by rw [<- HV.out]; rfl, ag _ _⟩
namespace Rgx
def jy (S : List cB) (nm : Alp.B) : Option Nat := S.findIdx? fun x => decide (x.1 = nm)
theorem GL {S : List cB} {nm : Alp.B} {i : Nat} (hi : i < S.length) (h : S[i].1 = nm) (hb : ∀ j (hj : j < S.length), j < i -> S[j].1 ≠ nm) : jy S nm = some i := by
 unfold jy;rw [List.findIdx?_eq_some_iff_getElem];exact ⟨hi, dT h, fun j hj => by simpa using hb j (by omega) hj⟩
theorem F9 {S : List cB} {nm : Alp.B} (hb : ∀ j (hj : j < S.length), S[j].1 ≠ nm) : jy S nm = none := by
 unfold jy;rw [List.findIdx?_eq_none_iff];intro x hx;obtain ⟨j, hj, rfl⟩ := List.getElem_of_mem hx
 simpa using hb j hj
end Rgx
def nY : Option Nat -> Int
 |some i => (i : Int)
 |none => -1
def qJ (o : Option Nat) (w : World) (e : Ending) (w' : World) : Prop := Below w.heap.size w w' /\ e = .returned (.int .i64 (nY o))
theorem sD {o : Option Nat} {w w' : World} {e : Ending} (h : qJ o w e w') : Below w.heap.size w w' /\ e = .returned (.int .i64 (nY o)) := h
theorem CO (S : List cB) (A : Option Addr) (n c g : Nat) (nm : Alp.B) (w : World) (hS : dV w S A n c) (hg : w.cell? ⟨g, 0, none⟩ = some (.string (tb nm))) : Calls Tryz.prog 152 #[.slice A n c, .func (.func 153) #[] #[.pointer (some ⟨g, 0, none⟩)]] w (qJ (jy S nm) w) := by
 have HS : Hid (dV w S A n c) := Lh hS;have HC : Hid (∀ W, Below w.heap.size w W -> ∀ nmi A2 n2 c2 V, V = decide (nmi = nm) -> Calls Tryz.prog 153 #[.agg #[.string (tb nmi), .slice A2 n2 c2], .pointer (some ⟨g, 0, none⟩)] W (aI W V)) := Lh fun W hb nmi A2 n2 c2 V hV => CQ nmi nm V hV A2 n2 c2 g W ((hb.cell (p := ⟨g, 0, none⟩) (World.block_lt_of_cell? w _ hg)).trans hg)
 have hn := hS.cap;have hm := hS.max;have hen := BV;clear hS hg;go_enter Tryz.func152, Tryz.ntmps152;go_wp2_with fail
 go_loopg [8] n (fun gq s8 wr => ∃ i : Nat, i + gq = n /\ s8 = .int .i64 (i : Int) /\ Hid ((∀ j (hj : j < S.length), j < i -> S[j].1 ≠ nm) /\ Below w.heap.size w wr))
 case atStart => exact ⟨0, by omega, rfl, Lh ⟨fun j hj h => by omega, Below.refl _ _⟩⟩
 case round =>
  obtain ⟨i, hi, rfl, HI⟩ := hrel
  by_cases hlt : i < n
  ·obtain ⟨gg, rfl⟩ : ∃ g, gk = g + 1 := ⟨gk - 1, by omega⟩;have hil : i < S.length := by rw [<- HS.out.len]; exact hlt
   obtain ⟨b, o, rfl, hat⟩ := (HS.out.below HI.out.2).open (by omega);obtain ⟨A2, n2, c2, e1, e2, e3⟩ := hat i hil;obtain ⟨nmi, hnmi⟩ : ∃ x, x = S[i].1 := ⟨_, rfl⟩;rw [<- hnmi] at e1;have hrg : wr.rangeAt b (o + i * 2) [.string (tb nmi), .slice A2 n2 c2] := fun j u hu => by
    match j, hu with
    |0, hu => exact e1.trans (by simpa using hu)
    |1, hu => exact e2.trans (by simpa using hu)
   obtain ⟨V, hV⟩ : ∃ V, V = decide (nmi = nm) := ⟨_, rfl⟩;have HCI : Hid (Calls Tryz.prog 153 #[.agg #[.string (tb nmi), .slice A2 n2 c2], .pointer (some ⟨g, 0, none⟩)] wr (aI wr V)) := Lh (HC.out wr HI.out.2 nmi A2 n2 c2 V hV)
   cases V with
   |true =>
    have HF : Hid (jy S nm = some i) := Lh (GL hil (by rw [<- hnmi]; exact of_decide_eq_true hV.symm) HI.out.1);clear hnmi hV e1 e2 e3 hat hil
    go_wp2_with (first
     |(refine wpList_load_mid rfl 148 (.tmp 14) rfl b (o + i * 2) rfl [.string (tb nmi), .slice A2 n2 c2] _ hrg Tryz.underlying148 rfl yZ ?_)
     |((with_reducible refine HCI.out.mono ?_); rintro e w6 hp; obtain ⟨rfl, hb6⟩ := aN hp; have H6 := Lh hb6; clear hp hb6))
    go_ret;exact ⟨HI.out.2.trans (H6.out.mono HI.out.2.size), by rw [HF.out]; rfl⟩
   |false =>
    have HF : Hid (∀ j (hj : j < S.length), j < i + 1 -> S[j].1 ≠ nm) := Lh fun j hj h => by
     by_cases e : j = i
     ·subst e; rw [<- hnmi]; exact of_decide_eq_false hV.symm
     ·exact HI.out.1 j hj (by omega)
    clear hnmi hV e1 e2 e3 hat hil
    go_wp2_with (first
     |(refine wpList_load_mid rfl 148 (.tmp 14) rfl b (o + i * 2) rfl [.string (tb nmi), .slice A2 n2 c2] _ hrg Tryz.underlying148 rfl yZ ?_)
     |((with_reducible refine HCI.out.mono ?_); rintro e w6 hp; obtain ⟨rfl, hb6⟩ := aN hp; have H6 := Lh hb6; clear hp hb6))
    go_roundg gg
    case rel => exact ⟨i + 1, by omega, by go_num, Lh ⟨HF.out, HI.out.2.trans (H6.out.mono HI.out.2.size)⟩⟩
    case measure => omega
  ·obtain rfl : n = i := by omega
   have HF : Hid (jy S nm = none) := Lh (F9 fun j hj => HI.out.1 j hj (by rw [HS.out.len]; exact hj));go_wp2_with fail;go_ret;exact ⟨HI.out.2, by rw [HF.out]; rfl⟩
theorem yw (l : List UInt8) (a b : Nat) : (tb l).extract a b = tb ((l.drop a).take (b - a)) := by
 apply ByteArray.ext
 apply Array.ext'
 simp [tb, ByteArray.data_extract]
namespace Rgx
def fE (S : List cB) (s : Alp.B) : Nat × Rx × Nat :=
 if Lib.indexByte s 125 < 0 then (0, .mk 0 [] [], 0)
 else if Lib.indexByte s 125 = 1 then (2, .mk 0 [] [], 2)
 else match jy S ((s.drop 1).take ((Lib.indexByte s 125).toNat - 1)) with
  |none => (0, .mk 0 [] [], 0)
  |some i => if dI (S.getD i ([], [])).2 then (2, .mk 2 (S.getD i ([], [])).2 [], (Lib.indexByte s 125).toNat + 1) else (0, .mk 0 [] [], 0)
end Rgx
def bR (N0 : Nat) (w : World) (t : Nat × Rx × Nat) (e : Ending) (w' : World) : Prop := ∃ A n c B m d, e = .returned (.tuple #[.agg #[.int .u8 (t.1 : Int), .int .i64 0, .int .i64 t.2.1.kind, .slice A n c, .slice B m d], .int .i64 (t.2.2 : Int)]) /\ ai (fun b => b < N0 \/ w.heap.size <= b) w' t.2.1 A n c B m d /\ Below w.heap.size w w'
theorem tJ {N0 : Nat} {w : World} {t : Nat × Rx × Nat} {e : Ending} {w' : World} (h : bR N0 w t e w') : ∃ A n c B m d, e = .returned (.tuple #[.agg #[.int .u8 (t.1 : Int), .int .i64 0, .int .i64 t.2.1.kind, .slice A n c, .slice B m d], .int .i64 (t.2.2 : Int)]) /\ ai (fun b => b < N0 \/ w.heap.size <= b) w' t.2.1 A n c B m d /\ Below w.heap.size w w' := h
theorem jq {N0 : Nat} {w w' : World} {t : Nat × Rx × Nat} {k sz : Nat} (ht : t = (k, .mk 0 [] [], sz)) (hb : Below w.heap.size w w') : bR N0 w t (.returned (.tuple #[.agg #[.int .u8 (k : Int), .int .i64 0, .int .i64 0, .slice none 0 0, .slice none 0 0], .int .i64 (sz : Int)])) w' := by
 subst ht;exact ⟨none, 0, 0, none, 0, 0, rfl, ai.flat _ w' (by constructor <;> decide), hb⟩
theorem nA {N0 : Nat} {w w' : World} {t : Nat × Rx × Nat} {s : List Int} {sz : Nat} {A : Option Addr} {n c : Nat} (ht : t = (2, .mk 2 s [], sz)) (hs : ∀ x ∈ s, 0 <= x /\ x < 64) (hn : n = s.length) (hc : n <= c) (hm : c <= 9223372036854775807) (hr : Rd w' A (iv s)) (hA : s ≠ [] -> ∀ b o, A = some ⟨b, o, none⟩ -> b < N0 \/ w.heap.size <= b) (hb : Below w.heap.size w w') : bR N0 w t (.returned (.tuple #[.agg #[.int .u8 2, .int .i64 0, .int .i64 2, .slice A n c, .slice none 0 0], .int .i64 (sz : Int)])) w' := by
 subst ht;exact ⟨A, n, c, none, 0, 0, rfl, ai.make (by constructor <;> decide) (fun x hx => by have := hs x hx; constructor <;> omega) hn hc (by unfold maxLen; exact hm) hr hA rfl (Nat.zero_le _) (Nat.zero_le _) (fun i hi => absurd hi (by simp)) (fun h => absurd rfl h), hb⟩
theorem zZ (S : List cB) (A : Option Addr) (n c : Nat) (s : Alp.B) (hs : s.length <= 1000000) (w0 w : World) (hS : dV w0 S A n c) (hb0 : Below w0.heap.size w0 w) (h123 : s.head? = some 123) : Calls Tryz.prog 128 #[.string (tb s), .slice A n c] w (bR w0.heap.size w (fE S s)) := by
 have HZ : Hid (Below w.heap.size w (w.alloc zT) /\ aa (w.alloc zT) w.heap.size zM 80) := Lh ⟨ag _ _, aa.at w zM _ 80 _ rfl rfl⟩;obtain ⟨j, hj⟩ : ∃ j, j = Lib.indexByte s 125 := ⟨_, rfl⟩;have hge := Lib.indexByte_ge s 125;rw [<- hj] at hge;have HIB : Hid (∀ W, Calls Tryz.prog 151 #[.string (tb s), .int .u8 125] W fun e w' => e = .returned (.int .i64 j) /\ w' = W) := Lh fun W => (y7 (tb s) 125 W).mono fun e w' ⟨he, hw⟩ => ⟨by rw [he, ng, hj]; rfl, hw⟩
 by_cases hneg : j < 0
 ·obtain rfl : j = -1 := by omega
  have HP : Hid (fE S s = (0, .mk 0 [] [], 0)) := Lh (by unfold fE; rw [<- hj]; rfl);have HST : Hid (∀ W, aK (w.alloc zT) W w.heap.size zM 80 -> bR w0.heap.size w (fE S s) (.returned (.tuple #[.agg #[.int .u8 0, .int .i64 0, .int .i64 0, .slice none 0 0, .slice none 0 0], .int .i64 0])) W /\ aa W w.heap.size zM 80) := Lh fun W hst => ⟨jq HP.out (hst.below HZ.out.1 (Nat.le_refl _)), hst.1⟩
  clear hj hge hS hb0 hneg;go_enter Tryz.func128, Tryz.ntmps128
  go_wp2_with (first
   |((with_reducible refine (HIB.out _).mono ?_); rintro e w6 ⟨rfl, hw6⟩; have hw7 := hw6.symm; clear hw6; subst hw7)
   |(refine wB rfl 80 (.tmp 4) (.tmp 15) rfl w.heap.size 0 rfl zM rfl HZ.out.2 5 bG ?_; intro x5 hst5; have Hx5 := Lh (HST.out x5 hst5); clear hst5))
  exact dw rfl w.heap.size rfl (C := zM) (T := 80) Hx5.out.2 _ Tryz.underlying80 rfl bG rfl (.int .i64 0) rfl Hx5.out.1
 obtain ⟨J, rfl⟩ : ∃ J : Nat, j = (J : Int) := ⟨j.toNat, by omega⟩;have hJ := Lib.indexByte_some hj.symm;have hJl : J < s.length := by
  rcases Nat.lt_or_ge J s.length with h | h
  ·exact h
  ·have h1 := hJ.1; rw [List.getElem?_eq_none h] at h1; cases h1
 have hJ0 : J ≠ 0 := by
  intro e;subst e;have h1 := hJ.1;rw [<- List.head?_eq_getElem?, h123] at h1;exact absurd h1 (by decide)
 by_cases h1 : J = 1
 ·have HP : Hid (fE S s = (2, .mk 0 [] [], 2)) := Lh (by unfold fE; rw [<- hj, h1]; rfl);have HST : Hid (∀ W, aK (w.alloc zT) W w.heap.size [.int .u8 2, .int .i64 0, .int .i64 0, .slice none 0 0, .slice none 0 0] 80 -> bR w0.heap.size w (fE S s) (.returned (.tuple #[.agg #[.int .u8 2, .int .i64 0, .int .i64 0, .slice none 0 0, .slice none 0 0], .int .i64 2])) W /\ aa W w.heap.size [.int .u8 2, .int .i64 0, .int .i64 0, .slice none 0 0, .slice none 0 0] 80) := Lh fun W hst => ⟨jq HP.out (hst.below HZ.out.1 (Nat.le_refl _)), hst.1⟩
  subst h1;clear hj hge hS hb0 hneg hJ hJl hJ0;go_enter Tryz.func128, Tryz.ntmps128
  go_wp2_with (first
   |((with_reducible refine (HIB.out _).mono ?_); rintro e w6 ⟨rfl, hw6⟩; have hw7 := hw6.symm; clear hw6; subst hw7)
   |(refine wB rfl 80 (.tmp 4) (.tmp 18) rfl w.heap.size 0 rfl [.int .u8 2, .int .i64 0, .int .i64 0, .slice none 0 0, .slice none 0 0] rfl HZ.out.2 5 bG ?_; intro x5 hst5; have Hx5 := Lh (HST.out x5 hst5); clear hst5))
  exact dw rfl w.heap.size rfl (C := [.int .u8 2, .int .i64 0, .int .i64 0, .slice none 0 0, .slice none 0 0]) (T := 80) Hx5.out.2 _ Tryz.underlying80 rfl bG rfl (.int .i64 2) rfl Hx5.out.1
 ·obtain ⟨nm, hnm⟩ : ∃ nm, nm = (s.drop 1).take (J - 1) := ⟨_, rfl⟩;have hsub : (tb s).extract 1 J = tb nm := by rw [yw, hnm]
  have e1 : ((J : Int) + 1 == 0) = false := bF (by omega);have e2 : ((J : Int) + 1 == 2) = false := bF (by omega);have hsz : (tb s).size = s.length := fP s;have hJ9 : J <= 1000000 := by omega
  have hJ1 : 1 <= J := by omega
  have HJ : Hid ((J : Int) = Lib.indexByte s 125 /\ nm = (s.drop 1).take (J - 1) /\ J ≠ 0 /\ J ≠ 1) := Lh ⟨hj, hnm, hJ0, h1⟩;have HS : Hid (dV w0 S A n c /\ Below w0.heap.size w0 w) := Lh ⟨hS, hb0⟩;clear hj hge hS hb0 hneg hJ hJ0 hnm h1;go_enter Tryz.func128, Tryz.ntmps128
  go_upto_region 8 with ((with_reducible refine (HIB.out _).mono ?_); rintro e w6 ⟨rfl, hw6⟩; have hw7 := hw6.symm; clear hw6; subst hw7)
  have HN : Hid (((w.alloc zT).alloc (.cells #[.string (tb nm)] 9)).cell? ⟨w.heap.size + 1, 0, none⟩ = some (.string (tb nm)) /\ Below w.heap.size w ((w.alloc zT).alloc (.cells #[.string (tb nm)] 9)) /\ aa ((w.alloc zT).alloc (.cells #[.string (tb nm)] 9)) w.heap.size zM 80) := Lh ⟨(aa.at (w.alloc zT) [.string (tb nm)] _ 9 _ rfl (by simp)).cell (j := 0) rfl, aB HZ.out.1 _, HZ.out.2.alloc _⟩;have HIX : Hid (Calls Tryz.prog 152 #[.slice A n c, .func (.func 153) #[] #[.pointer (some ⟨w.heap.size + 1, 0, none⟩)]] ((w.alloc zT).alloc (.cells #[.string (tb nm)] 9)) (qJ (jy S nm) ((w.alloc zT).alloc (.cells #[.string (tb nm)] 9)))) := Lh (CO S A n c (w.heap.size + 1) nm ((w.alloc zT).alloc (.cells #[.string (tb nm)] 9)) (HS.out.1.below (HS.out.2.trans (HN.out.2.1.mono HS.out.2.size))) HN.out.1);clear hsub
  cases hX : jy S nm with
  |none =>
   have HP : Hid (fE S s = (0, .mk 0 [] [], 0)) := Lh (by
    have h := HJ.out;unfold fE;rw [<- h.1, if_neg (by omega), if_neg (by omega), Int.toNat_natCast, <- h.2.1, hX])
   rw [hX] at HIX;clear hX;have HST : Hid (∀ x5, Below ((w.alloc zT).alloc (.cells #[.string (tb nm)] 9)).heap.size ((w.alloc zT).alloc (.cells #[.string (tb nm)] 9)) x5 -> aa x5 w.heap.size zM 80 /\ ∀ W, aK x5 W w.heap.size zM 80 -> bR w0.heap.size w (fE S s) (.returned (.tuple #[.agg #[.int .u8 0, .int .i64 0, .int .i64 0, .slice none 0 0, .slice none 0 0], .int .i64 0])) W /\ aa W w.heap.size zM 80) := Lh fun x5 hb => ⟨HN.out.2.2.below hb HN.out.2.2.lt, fun W hst => ⟨jq HP.out (hst.below (HN.out.2.1.trans (hb.mono HN.out.2.1.size)) (Nat.le_refl _)), hst.1⟩⟩
   go_wp2_with (first
    | ((with_reducible refine HIX.out.mono ?_); rintro e w6 hp; obtain ⟨hb6, rfl⟩ := sD hp; simp only [nY]; have H6 := Lh (HST.out w6 hb6); clear hp hb6)
    | (refine wB rfl 80 (.tmp 4) (.tmp 38) rfl w.heap.size 0 rfl zM rfl H6.out.1 5 bG ?_; intro x7 hst7; have HX7 := Lh (H6.out.2 x7 hst7); clear hst7))
   exact dw rfl w.heap.size rfl (C := zM) (T := 80) HX7.out.2 _ Tryz.underlying80 rfl bG rfl (.int .i64 0) rfl HX7.out.1
  |some i =>
   have hiS : i < S.length := (List.findIdx?_eq_some_iff_getElem.1 hX).1;have hin : i < n := by rw [HS.out.1.len]; exact hiS
   obtain ⟨b, o, rfl, hat⟩ := HS.out.1.open (by omega);obtain ⟨A2, n2, c2, q1, q2, q3, q4, q5, q6, q7⟩ := hat i hiS;obtain ⟨sy, hsy⟩ : ∃ x, x = S[i].2 := ⟨_, rfl⟩;rw [<- hsy] at q3 q6;obtain ⟨V, hV⟩ : ∃ V, V = dI sy := ⟨_, rfl⟩;have hbW : ∀ W, Below ((w.alloc zT).alloc (.cells #[.string (tb nm)] 9)).heap.size ((w.alloc zT).alloc (.cells #[.string (tb nm)] 9)) W -> Below w0.heap.size w0 W := fun W hb => HS.out.2.trans ((HN.out.2.1.trans (hb.mono HN.out.2.1.size)).mono HS.out.2.size)
   have HQ : Hid (∀ W, Below ((w.alloc zT).alloc (.cells #[.string (tb nm)] 9)).heap.size ((w.alloc zT).alloc (.cells #[.string (tb nm)] 9)) W -> W.cell? ⟨b, o + i * 2 + 1, none⟩ = some (.slice A2 n2 c2) /\ Rd W A2 (iv sy) /\ Calls Tryz.prog 44 #[.slice A2 n2 c2] W (aI W V) /\ Calls Tryz.prog 127 #[.slice A2 n2 c2] W (kP W A2 n2 c2)) := Lh fun W hb => ⟨((hbW W hb).cell (p := ⟨b, o + i * 2 + 1, none⟩) (World.block_lt_of_cell? w0 _ q2)).trans q2, q6.below (hbW W hb), xG sy A2 n2 c2 q3 q4 q5 V hV W (q6.below (hbW W hb)), mX A2 n2 c2 W⟩
   have HGD : Hid (S.getD i ([], []) = S[i]) := Lh (by rw [List.getD_eq_getElem?_getD, List.getElem?_eq_getElem hiS]; rfl);have HPX : Hid (fE S s = if V then (2, .mk 2 sy [], J + 1) else (0, .mk 0 [] [], 0)) := Lh (by
    have h := HJ.out;unfold fE;rw [<- h.1, if_neg (by omega), if_neg (by omega), Int.toNat_natCast, <- h.2.1, hX];show (if dI (S.getD i ([], [])).2 = true then _ else _) = _;rw [HGD.out, <- hsy, hV])
   have HBK : Hid (sy ≠ [] -> ∀ b o, A2 = some ⟨b, o, none⟩ -> b < w0.heap.size) := Lh fun hne b o e => by
    obtain ⟨b', o', e', hc⟩ := q6.open (by intro h; apply hne; cases sy with | nil => rfl | cons x t => simp [iv] at h);rw [e] at e';obtain ⟨rfl, rfl⟩ : b = b' /\ o = o' := by simpa using e'
    cases sy with
    | nil => exact absurd rfl hne
    | cons x t => exact World.block_lt_of_cell? w0 _ (hc 0 _ rfl)
   have HRW : Hid (∀ W, Below w.heap.size w W -> Rd W A2 (iv sy)) := Lh fun W hb => q6.below (HS.out.2.trans (hb.mono HS.out.2.size))
   have HSY : Hid (n2 = sy.length /\ n2 <= c2 /\ c2 <= 9223372036854775807 /\ (V = true -> ∀ x ∈ sy, 0 <= x /\ x < 64)) := Lh ⟨q3, q4, q5, fun h => (gW.1 (by rw [<- hV]; exact h)).2.2⟩;rw [hX] at HIX;clear hX hat q1 q2 q3 q4 q5 q6 q7 HGD hsy hV hbW hiS;have hdi : decide ((i : Int) < 0) = false := dF (by omega)
   cases V with
   |false =>
    have HP : Hid (fE S s = (0, .mk 0 [] [], 0)) := Lh HPX.out;have HST : Hid (∀ x5, Below ((w.alloc zT).alloc (.cells #[.string (tb nm)] 9)).heap.size ((w.alloc zT).alloc (.cells #[.string (tb nm)] 9)) x5 -> aa x5 w.heap.size zM 80 /\ ∀ W, aK x5 W w.heap.size zM 80 -> bR w0.heap.size w (fE S s) (.returned (.tuple #[.agg #[.int .u8 0, .int .i64 0, .int .i64 0, .slice none 0 0, .slice none 0 0], .int .i64 0])) W /\ aa W w.heap.size zM 80) := Lh fun x5 hb => ⟨HN.out.2.2.below hb HN.out.2.2.lt, fun W hst => ⟨jq HP.out (hst.below (HN.out.2.1.trans (hb.mono HN.out.2.1.size)) (Nat.le_refl _)), hst.1⟩⟩
    go_wp2_with (first
      | ((with_reducible refine HIX.out.mono ?_); rintro e w6 hp; obtain ⟨hb6, rfl⟩ := sD hp; simp only [nY]; have H6 := Lh hb6; have hcs := (HQ.out w6 hb6).1; have HV6 := Lh (HQ.out w6 hb6).2.2.1; clear hp hb6)
      | ((with_reducible refine HV6.out.mono ?_); rintro e w7 hp; obtain ⟨rfl, hb7⟩ := aN hp; have H7 := Lh (HST.out w7 (H6.out.trans (hb7.mono H6.out.size))); clear hp hb7)
      | (refine wB rfl 80 (.tmp 4) (.tmp 38) rfl w.heap.size 0 rfl zM rfl H7.out.1 5 bG ?_; intro x8 hst8; have HX8 := Lh (H7.out.2 x8 hst8); clear hst8))
    exact dw rfl w.heap.size rfl (C := zM) (T := 80) HX8.out.2 _ Tryz.underlying80 rfl bG rfl (.int .i64 0) rfl HX8.out.1
   |true =>
    have HP : Hid (fE S s = (2, .mk 2 sy [], J + 1)) := Lh HPX.out;have HST : Hid (∀ x5, Below ((w.alloc zT).alloc (.cells #[.string (tb nm)] 9)).heap.size ((w.alloc zT).alloc (.cells #[.string (tb nm)] 9)) x5 -> aa x5 w.heap.size zM 80 /\ ∀ W, aK x5 W w.heap.size [.int .u8 2, .int .i64 0, .int .i64 2, .slice A2 n2 c2, .slice none 0 0] 80 -> bR w0.heap.size w (fE S s) (.returned (.tuple #[.agg #[.int .u8 2, .int .i64 0, .int .i64 2, .slice A2 n2 c2, .slice none 0 0], .int .i64 ((J : Int) + 1)])) W /\ aa W w.heap.size [.int .u8 2, .int .i64 0, .int .i64 2, .slice A2 n2 c2, .slice none 0 0] 80) := Lh fun x5 hb => ⟨HN.out.2.2.below hb HN.out.2.2.lt, fun W hst => ⟨by
      have hbb := hst.below (HN.out.2.1.trans (hb.mono HN.out.2.1.size)) (Nat.le_refl _);have h1 := HSY.out;have h2 := nA (N0 := w0.heap.size) (sz := J + 1) HP.out (h1.2.2.2 rfl) h1.1 h1.2.1 h1.2.2.1 (HRW.out W hbb) (fun hne b o e => .inl (HBK.out hne b o e)) hbb;exact h2, hst.1⟩⟩
    go_wp2_with (first
      | ((with_reducible refine HIX.out.mono ?_); rintro e w6 hp; obtain ⟨hb6, rfl⟩ := sD hp; simp only [nY]; have H6 := Lh hb6; have hcs := (HQ.out w6 hb6).1; have HV6 := Lh (HQ.out w6 hb6).2.2.1; clear hp hb6)
      | ((with_reducible refine HV6.out.mono ?_); rintro e w7 hp; obtain ⟨rfl, hb7⟩ := aN hp; have H7 := Lh (H6.out.trans (hb7.mono H6.out.size)); have hcs7 := (HQ.out w7 H7.out).1; have HA7 := Lh (HQ.out w7 H7.out).2.2.2; clear hp hb7)
      | ((with_reducible refine HA7.out.mono ?_); rintro e w8 hp; obtain ⟨rfl, hb8⟩ := mQ hp; have H8 := Lh (HST.out w8 (H7.out.trans (hb8.mono H7.out.size))); clear hp hb8)
      | (refine wB rfl 80 (.tmp 4) (.tmp 44) rfl w.heap.size 0 rfl [.int .u8 2, .int .i64 0, .int .i64 2, .slice A2 n2 c2, .slice none 0 0] rfl H8.out.1 5 bG ?_; intro x8 hst8; have HX8 := Lh (H8.out.2 x8 hst8); clear hst8))
    exact dw rfl w.heap.size rfl (C := [.int .u8 2, .int .i64 0, .int .i64 2, .slice A2 n2 c2, .slice none 0 0]) (T := 80) HX8.out.2 _ Tryz.underlying80 rfl bG rfl (.int .i64 ((J : Int) + 1)) rfl HX8.out.1
namespace Rgx
def jW (L : List Lt) (s : Alp.B) : Nat × Rx × Nat := if (fw L s L.length).2 = 0 then (0, .mk 0 [] [], 0) else (2, .mk 2 [((fw L s L.length).1 : Int)] [], (fw L s L.length).2)
def bP (L : List Lt) (S : List cB) : Alp.B -> Nat × Rx × Nat
 |[] => (1, .mk 0 [] [], 0)
 |c :: t =>
  if c = 124 \/ c = 42 \/ c = 63 \/ c = 40 \/ c = 41 then (c.toNat, .mk 0 [] [], 1)
  else if c = 46 then (2, .mk 2 (dH (2 ^ L.length - 1)) [], 1)
  else if c = 45 then (2, .mk 2 [63] [], 1)
  else if c = 35 then (2, .mk 2 [62] [], 1)
  else if c = 123 then fE S (c :: t)
  else jW L (c :: t)
theorem pu (L : List Lt) (S : List cB) (c : UInt8) (t : Alp.B) : bP L S (c :: t) = if c = 124 \/ c = 42 \/ c = 63 \/ c = 40 \/ c = 41 then (c.toNat, .mk 0 [] [], 1) else if c = 46 then (2, .mk 2 (dH (2 ^ L.length - 1)) [], 1) else if c = 45 then (2, .mk 2 [63] [], 1) else if c = 35 then (2, .mk 2 [62] [], 1) else if c = 123 then fE S (c :: t) else jW L (c :: t) := rfl
end Rgx
theorem DK {L : List Lt} {s : Alp.B} {w w' : World} {e : Ending} {N0 : Nat} (hn : L.length <= 60) (h : qc L s w e w') : bR N0 w (jW L s) e w' := by
 obtain ⟨hb, ⟨h0, rfl⟩ | ⟨h0, g, hg, hblk, rfl⟩⟩ := h
 ·exact jq (k := 0) (sz := 0) (by unfold jW; rw [if_pos h0]) hb
 ·refine nA (by unfold jW; rw [if_neg h0]) (fun x hx => ?_) rfl (Nat.le_refl _) (by decide) (.inr ⟨g, 0, rfl, fun k v hv => by rw [Nat.zero_add]; exact hblk.cell hv⟩) (fun _ b o e => by obtain ⟨rfl, _⟩ : g = b /\ 0 = o := (by simpa using e); exact .inr hg) hb;have h1 := (nU L s L.length).2 h0;rw [List.mem_singleton.1 hx];omega
theorem BI (L : List Lt) (S : List cB) (A B : Option Addr) (n c m d : Nat)  (w0 w : World) (hn : n = L.length) (hc : n <= c) (hm : c <= 9223372036854775807) (hS : dV w0 S B m d) (hb0 : Below w0.heap.size w0 w) (hL : Rd w A (lv L)) (hlt : ∀ l ∈ L, l.text.length <= 1000000) (hn60 : n <= 60) (hT : DB w) : Calls Tryz.prog 98 #[.string (tb []), .slice A n c, .slice B m d] w (bR w0.heap.size w (bP L S [])) := by
 have HZ : Hid (Below w.heap.size w (w.alloc zT) /\ aa (w.alloc zT) w.heap.size zM 80) := Lh ⟨ag _ _, aa.at w zM _ 80 _ rfl rfl⟩;have HST : Hid (∀ W, aK (w.alloc zT) W w.heap.size [.int .u8 1, .int .i64 0, .int .i64 0, .slice none 0 0, .slice none 0 0] 80 -> bR w0.heap.size w (bP L S []) (.returned (.tuple #[.agg #[.int .u8 1, .int .i64 0, .int .i64 0, .slice none 0 0, .slice none 0 0], .int .i64 0])) W /\ aa W w.heap.size [.int .u8 1, .int .i64 0, .int .i64 0, .slice none 0 0, .slice none 0 0] 80) := Lh fun W hst => ⟨jq (k := 1) (sz := 0) rfl (hst.below HZ.out.1 (Nat.le_refl _)), hst.1⟩
 clear hS hb0 hL hlt hT hn;have he : (tb []).toList.isEmpty = true := by rw [iP]; rfl
 go_enter Tryz.func98, Tryz.ntmps98
 go_wp2_with (refine wB rfl 80 (.tmp 6) (.tmp 10) rfl w.heap.size 0 rfl [.int .u8 1, .int .i64 0, .int .i64 0, .slice none 0 0, .slice none 0 0] rfl HZ.out.2 5 bG ?_; intro x5 hst5; have Hx5 := Lh (HST.out x5 hst5); clear hst5)
 exact dw rfl w.heap.size rfl (C := [.int .u8 1, .int .i64 0, .int .i64 0, .slice none 0 0, .slice none 0 0]) (T := 80) Hx5.out.2 _ Tryz.underlying80 rfl bG rfl (.int .i64 0) rfl Hx5.out.1
theorem Fa (L : List Lt) (S : List cB) (A B : Option Addr) (n c m d : Nat) (s : Alp.B) (hs : s.length < 1000000) (w0 w : World) (hn : n = L.length) (hc : n <= c) (hm : c <= 9223372036854775807) (hS : dV w0 S B m d) (hb0 : Below w0.heap.size w0 w) (hL : Rd w A (lv L)) (hlt : ∀ l ∈ L, l.text.length <= 1000000) (hn60 : n <= 60) (hT : DB w) : Calls Tryz.prog 98 #[.string (tb (124 :: s)), .slice A n c, .slice B m d] w (bR w0.heap.size w (bP L S (124 :: s))) := by
 have HZ : Hid (Below w.heap.size w (w.alloc zT) /\ aa (w.alloc zT) w.heap.size zM 80) := Lh ⟨ag _ _, aa.at w zM _ 80 _ rfl rfl⟩;have HST : Hid (∀ W, aK (w.alloc zT) W w.heap.size [.int .u8 124, .int .i64 0, .int .i64 0, .slice none 0 0, .slice none 0 0] 80 -> bR w0.heap.size w (bP L S (124 :: s)) (.returned (.tuple #[.agg #[.int .u8 124, .int .i64 0, .int .i64 0, .slice none 0 0, .slice none 0 0], .int .i64 1])) W /\ aa W w.heap.size [.int .u8 124, .int .i64 0, .int .i64 0, .slice none 0 0, .slice none 0 0] 80) := Lh fun W hst => ⟨jq (k := 124) (sz := 1) rfl (hst.below HZ.out.1 (Nat.le_refl _)), hst.1⟩
 clear hS hb0 hL hlt hT hn;have he : (tb (124 :: s)).toList.isEmpty = false := by rw [iP]; rfl
 have hsz : (tb (124 :: s)).size = s.length + 1 := fP _;go_enter Tryz.func98, Tryz.ntmps98
 go_wp2_with (refine wB rfl 80 (.tmp 6) (.tmp 21) rfl w.heap.size 0 rfl [.int .u8 124, .int .i64 0, .int .i64 0, .slice none 0 0, .slice none 0 0] rfl HZ.out.2 5 bG ?_; intro x5 hst5; have Hx5 := Lh (HST.out x5 hst5); clear hst5)
 exact dw rfl w.heap.size rfl (C := [.int .u8 124, .int .i64 0, .int .i64 0, .slice none 0 0, .slice none 0 0]) (T := 80) Hx5.out.2 _ Tryz.underlying80 rfl bG rfl (.int .i64 1) rfl Hx5.out.1
theorem Gq (L : List Lt) (S : List cB) (A B : Option Addr) (n c m d : Nat) (s : Alp.B) (hs : s.length < 1000000) (w0 w : World) (hn : n = L.length) (hc : n <= c) (hm : c <= 9223372036854775807) (hS : dV w0 S B m d) (hb0 : Below w0.heap.size w0 w) (hL : Rd w A (lv L)) (hlt : ∀ l ∈ L, l.text.length <= 1000000) (hn60 : n <= 60) (hT : DB w) : Calls Tryz.prog 98 #[.string (tb (42 :: s)), .slice A n c, .slice B m d] w (bR w0.heap.size w (bP L S (42 :: s))) := by
 have HZ : Hid (Below w.heap.size w (w.alloc zT) /\ aa (w.alloc zT) w.heap.size zM 80) := Lh ⟨ag _ _, aa.at w zM _ 80 _ rfl rfl⟩;have HST : Hid (∀ W, aK (w.alloc zT) W w.heap.size [.int .u8 42, .int .i64 0, .int .i64 0, .slice none 0 0, .slice none 0 0] 80 -> bR w0.heap.size w (bP L S (42 :: s)) (.returned (.tuple #[.agg #[.int .u8 42, .int .i64 0, .int .i64 0, .slice none 0 0, .slice none 0 0], .int .i64 1])) W /\ aa W w.heap.size [.int .u8 42, .int .i64 0, .int .i64 0, .slice none 0 0, .slice none 0 0] 80) := Lh fun W hst => ⟨jq (k := 42) (sz := 1) rfl (hst.below HZ.out.1 (Nat.le_refl _)), hst.1⟩
 clear hS hb0 hL hlt hT hn;have he : (tb (42 :: s)).toList.isEmpty = false := by rw [iP]; rfl
 have hsz : (tb (42 :: s)).size = s.length + 1 := fP _;go_enter Tryz.func98, Tryz.ntmps98
 go_wp2_with (refine wB rfl 80 (.tmp 6) (.tmp 21) rfl w.heap.size 0 rfl [.int .u8 42, .int .i64 0, .int .i64 0, .slice none 0 0, .slice none 0 0] rfl HZ.out.2 5 bG ?_; intro x5 hst5; have Hx5 := Lh (HST.out x5 hst5); clear hst5)
 exact dw rfl w.heap.size rfl (C := [.int .u8 42, .int .i64 0, .int .i64 0, .slice none 0 0, .slice none 0 0]) (T := 80) Hx5.out.2 _ Tryz.underlying80 rfl bG rfl (.int .i64 1) rfl Hx5.out.1
theorem DL (L : List Lt) (S : List cB) (A B : Option Addr) (n c m d : Nat) (s : Alp.B) (hs : s.length < 1000000) (w0 w : World) (hn : n = L.length) (hc : n <= c) (hm : c <= 9223372036854775807) (hS : dV w0 S B m d) (hb0 : Below w0.heap.size w0 w) (hL : Rd w A (lv L)) (hlt : ∀ l ∈ L, l.text.length <= 1000000) (hn60 : n <= 60) (hT : DB w) : Calls Tryz.prog 98 #[.string (tb (63 :: s)), .slice A n c, .slice B m d] w (bR w0.heap.size w (bP L S (63 :: s))) := by
 have HZ : Hid (Below w.heap.size w (w.alloc zT) /\ aa (w.alloc zT) w.heap.size zM 80) := Lh ⟨ag _ _, aa.at w zM _ 80 _ rfl rfl⟩;have HST : Hid (∀ W, aK (w.alloc zT) W w.heap.size [.int .u8 63, .int .i64 0, .int .i64 0, .slice none 0 0, .slice none 0 0] 80 -> bR w0.heap.size w (bP L S (63 :: s)) (.returned (.tuple #[.agg #[.int .u8 63, .int .i64 0, .int .i64 0, .slice none 0 0, .slice none 0 0], .int .i64 1])) W /\ aa W w.heap.size [.int .u8 63, .int .i64 0, .int .i64 0, .slice none 0 0, .slice none 0 0] 80) := Lh fun W hst => ⟨jq (k := 63) (sz := 1) rfl (hst.below HZ.out.1 (Nat.le_refl _)), hst.1⟩
 clear hS hb0 hL hlt hT hn;have he : (tb (63 :: s)).toList.isEmpty = false := by rw [iP]; rfl
 have hsz : (tb (63 :: s)).size = s.length + 1 := fP _;go_enter Tryz.func98, Tryz.ntmps98
 go_wp2_with (refine wB rfl 80 (.tmp 6) (.tmp 21) rfl w.heap.size 0 rfl [.int .u8 63, .int .i64 0, .int .i64 0, .slice none 0 0, .slice none 0 0] rfl HZ.out.2 5 bG ?_; intro x5 hst5; have Hx5 := Lh (HST.out x5 hst5); clear hst5)
 exact dw rfl w.heap.size rfl (C := [.int .u8 63, .int .i64 0, .int .i64 0, .slice none 0 0, .slice none 0 0]) (T := 80) Hx5.out.2 _ Tryz.underlying80 rfl bG rfl (.int .i64 1) rfl Hx5.out.1
theorem EZ (L : List Lt) (S : List cB) (A B : Option Addr) (n c m d : Nat) (s : Alp.B) (hs : s.length < 1000000) (w0 w : World) (hn : n = L.length) (hc : n <= c) (hm : c <= 9223372036854775807) (hS : dV w0 S B m d) (hb0 : Below w0.heap.size w0 w) (hL : Rd w A (lv L)) (hlt : ∀ l ∈ L, l.text.length <= 1000000) (hn60 : n <= 60) (hT : DB w) : Calls Tryz.prog 98 #[.string (tb (40 :: s)), .slice A n c, .slice B m d] w (bR w0.heap.size w (bP L S (40 :: s))) := by
 have HZ : Hid (Below w.heap.size w (w.alloc zT) /\ aa (w.alloc zT) w.heap.size zM 80) := Lh ⟨ag _ _, aa.at w zM _ 80 _ rfl rfl⟩;have HST : Hid (∀ W, aK (w.alloc zT) W w.heap.size [.int .u8 40, .int .i64 0, .int .i64 0, .slice none 0 0, .slice none 0 0] 80 -> bR w0.heap.size w (bP L S (40 :: s)) (.returned (.tuple #[.agg #[.int .u8 40, .int .i64 0, .int .i64 0, .slice none 0 0, .slice none 0 0], .int .i64 1])) W /\ aa W w.heap.size [.int .u8 40, .int .i64 0, .int .i64 0, .slice none 0 0, .slice none 0 0] 80) := Lh fun W hst => ⟨jq (k := 40) (sz := 1) rfl (hst.below HZ.out.1 (Nat.le_refl _)), hst.1⟩
 clear hS hb0 hL hlt hT hn;have he : (tb (40 :: s)).toList.isEmpty = false := by rw [iP]; rfl
 have hsz : (tb (40 :: s)).size = s.length + 1 := fP _;go_enter Tryz.func98, Tryz.ntmps98
 go_wp2_with (refine wB rfl 80 (.tmp 6) (.tmp 21) rfl w.heap.size 0 rfl [.int .u8 40, .int .i64 0, .int .i64 0, .slice none 0 0, .slice none 0 0] rfl HZ.out.2 5 bG ?_; intro x5 hst5; have Hx5 := Lh (HST.out x5 hst5); clear hst5)
 exact dw rfl w.heap.size rfl (C := [.int .u8 40, .int .i64 0, .int .i64 0, .slice none 0 0, .slice none 0 0]) (T := 80) Hx5.out.2 _ Tryz.underlying80 rfl bG rfl (.int .i64 1) rfl Hx5.out.1
theorem FK (L : List Lt) (S : List cB) (A B : Option Addr) (n c m d : Nat) (s : Alp.B) (hs : s.length < 1000000) (w0 w : World) (hn : n = L.length) (hc : n <= c) (hm : c <= 9223372036854775807) (hS : dV w0 S B m d) (hb0 : Below w0.heap.size w0 w) (hL : Rd w A (lv L)) (hlt : ∀ l ∈ L, l.text.length <= 1000000) (hn60 : n <= 60) (hT : DB w) : Calls Tryz.prog 98 #[.string (tb (41 :: s)), .slice A n c, .slice B m d] w (bR w0.heap.size w (bP L S (41 :: s))) := by
 have HZ : Hid (Below w.heap.size w (w.alloc zT) /\ aa (w.alloc zT) w.heap.size zM 80) := Lh ⟨ag _ _, aa.at w zM _ 80 _ rfl rfl⟩;have HST : Hid (∀ W, aK (w.alloc zT) W w.heap.size [.int .u8 41, .int .i64 0, .int .i64 0, .slice none 0 0, .slice none 0 0] 80 -> bR w0.heap.size w (bP L S (41 :: s)) (.returned (.tuple #[.agg #[.int .u8 41, .int .i64 0, .int .i64 0, .slice none 0 0, .slice none 0 0], .int .i64 1])) W /\ aa W w.heap.size [.int .u8 41, .int .i64 0, .int .i64 0, .slice none 0 0, .slice none 0 0] 80) := Lh fun W hst => ⟨jq (k := 41) (sz := 1) rfl (hst.below HZ.out.1 (Nat.le_refl _)), hst.1⟩
 clear hS hb0 hL hlt hT hn;have he : (tb (41 :: s)).toList.isEmpty = false := by rw [iP]; rfl
 have hsz : (tb (41 :: s)).size = s.length + 1 := fP _;go_enter Tryz.func98, Tryz.ntmps98
 go_wp2_with (refine wB rfl 80 (.tmp 6) (.tmp 21) rfl w.heap.size 0 rfl [.int .u8 41, .int .i64 0, .int .i64 0, .slice none 0 0, .slice none 0 0] rfl HZ.out.2 5 bG ?_; intro x5 hst5; have Hx5 := Lh (HST.out x5 hst5); clear hst5)
 exact dw rfl w.heap.size rfl (C := [.int .u8 41, .int .i64 0, .int .i64 0, .slice none 0 0, .slice none 0 0]) (T := 80) Hx5.out.2 _ Tryz.underlying80 rfl bG rfl (.int .i64 1) rfl Hx5.out.1
theorem FX (L : List Lt) (S : List cB) (A B : Option Addr) (n c m d : Nat) (s : Alp.B) (hs : s.length < 1000000) (w0 w : World) (hn : n = L.length) (hc : n <= c) (hm : c <= 9223372036854775807) (hS : dV w0 S B m d) (hb0 : Below w0.heap.size w0 w) (hL : Rd w A (lv L)) (hlt : ∀ l ∈ L, l.text.length <= 1000000) (hn60 : n <= 60) (hT : DB w) : Calls Tryz.prog 98 #[.string (tb (45 :: s)), .slice A n c, .slice B m d] w (bR w0.heap.size w (bP L S (45 :: s))) := by
 have HZ : Hid (Below w.heap.size w (w.alloc zT) /\ aa (w.alloc zT) w.heap.size zM 80) := Lh ⟨ag _ _, aa.at w zM _ 80 _ rfl rfl⟩;have HAO : Hid (Calls Tryz.prog 127 #[.slice (some ⟨w.heap.size + 1, 0, none⟩) 1 1] ((w.alloc zT).alloc (.cells #[.int .i64 63] 3)) (kP ((w.alloc zT).alloc (.cells #[.int .i64 63] 3)) (some ⟨w.heap.size + 1, 0, none⟩) 1 1)) := Lh (mX _ _ _ _);have HST : Hid (∀ x4, Below ((w.alloc zT).alloc (.cells #[.int .i64 63] 3)).heap.size ((w.alloc zT).alloc (.cells #[.int .i64 63] 3)) x4 -> aa x4 w.heap.size zM 80 /\ ∀ W, aK x4 W w.heap.size [.int .u8 2, .int .i64 0, .int .i64 2, .slice (some ⟨w.heap.size + 1, 0, none⟩) 1 1, .slice none 0 0] 80 -> bR w0.heap.size w (bP L S (45 :: s)) (.returned (.tuple #[.agg #[.int .u8 2, .int .i64 0, .int .i64 2, .slice (some ⟨w.heap.size + 1, 0, none⟩) 1 1, .slice none 0 0], .int .i64 1])) W /\ aa W w.heap.size [.int .u8 2, .int .i64 0, .int .i64 2, .slice (some ⟨w.heap.size + 1, 0, none⟩) 1 1, .slice none 0 0] 80) := Lh fun x4 hb => by
  have h1 : aa ((w.alloc zT).alloc (.cells #[.int .i64 63] 3)) (w.heap.size + 1) [.int .i64 63] 3 := aa.at (w.alloc zT) _ _ 3 _ rfl (by simp);have h2 := HZ.out.2.alloc (Obj.cells #[.int .i64 63] 3);have h3 := h1.below hb h1.lt;refine ⟨h2.below hb h2.lt, fun W hst => ⟨?_, hst.1⟩⟩;have h4 := hst.other h3 (by omega);exact nA (s := [63]) (sz := 1) rfl (by decide) rfl (Nat.le_refl _) (by decide) (.inr ⟨w.heap.size + 1, 0, rfl, fun k v hv => by rw [Nat.zero_add]; exact h4.cell hv⟩) (fun _ b o e => by obtain ⟨rfl, _⟩ : w.heap.size + 1 = b /\ 0 = o := (by simpa using e); exact .inr (by omega)) (hst.below ((aB HZ.out.1 _).trans (hb.mono (aB HZ.out.1 _).size)) (Nat.le_refl _))
 clear hS hb0 hL hlt hT hn;have he : (tb (45 :: s)).toList.isEmpty = false := by rw [iP]; rfl
 have hsz : (tb (45 :: s)).size = s.length + 1 := fP _;go_enter Tryz.func98, Tryz.ntmps98
 go_wp2_with (first
  |((with_reducible refine HAO.out.mono ?_); rintro e x4 hp; obtain ⟨rfl, h1⟩ := mQ hp; have H4 := Lh (HST.out x4 h1); clear hp h1)
  |(refine wB rfl 80 (.tmp 6) (.tmp 33) rfl w.heap.size 0 rfl [.int .u8 2, .int .i64 0, .int .i64 2, .slice (some ⟨w.heap.size + 1, 0, none⟩) 1 1, .slice none 0 0] rfl H4.out.1 5 bG ?_; intro x5 hst5; have Hx5 := Lh (H4.out.2 x5 hst5); clear hst5))
 exact dw rfl w.heap.size rfl (C := [.int .u8 2, .int .i64 0, .int .i64 2, .slice (some ⟨w.heap.size + 1, 0, none⟩) 1 1, .slice none 0 0]) (T := 80) Hx5.out.2 _ Tryz.underlying80 rfl bG rfl (.int .i64 1) rfl Hx5.out.1
theorem FD (L : List Lt) (S : List cB) (A B : Option Addr) (n c m d : Nat) (s : Alp.B) (hs : s.length < 1000000) (w0 w : World) (hn : n = L.length) (hc : n <= c) (hm : c <= 9223372036854775807) (hS : dV w0 S B m d) (hb0 : Below w0.heap.size w0 w) (hL : Rd w A (lv L)) (hlt : ∀ l ∈ L, l.text.length <= 1000000) (hn60 : n <= 60) (hT : DB w) : Calls Tryz.prog 98 #[.string (tb (35 :: s)), .slice A n c, .slice B m d] w (bR w0.heap.size w (bP L S (35 :: s))) := by
 have HZ : Hid (Below w.heap.size w (w.alloc zT) /\ aa (w.alloc zT) w.heap.size zM 80) := Lh ⟨ag _ _, aa.at w zM _ 80 _ rfl rfl⟩;have HAO : Hid (Calls Tryz.prog 127 #[.slice (some ⟨w.heap.size + 1, 0, none⟩) 1 1] ((w.alloc zT).alloc (.cells #[.int .i64 62] 3)) (kP ((w.alloc zT).alloc (.cells #[.int .i64 62] 3)) (some ⟨w.heap.size + 1, 0, none⟩) 1 1)) := Lh (mX _ _ _ _);have HST : Hid (∀ x4, Below ((w.alloc zT).alloc (.cells #[.int .i64 62] 3)).heap.size ((w.alloc zT).alloc (.cells #[.int .i64 62] 3)) x4 -> aa x4 w.heap.size zM 80 /\ ∀ W, aK x4 W w.heap.size [.int .u8 2, .int .i64 0, .int .i64 2, .slice (some ⟨w.heap.size + 1, 0, none⟩) 1 1, .slice none 0 0] 80 -> bR w0.heap.size w (bP L S (35 :: s)) (.returned (.tuple #[.agg #[.int .u8 2, .int .i64 0, .int .i64 2, .slice (some ⟨w.heap.size + 1, 0, none⟩) 1 1, .slice none 0 0], .int .i64 1])) W /\ aa W w.heap.size [.int .u8 2, .int .i64 0, .int .i64 2, .slice (some ⟨w.heap.size + 1, 0, none⟩) 1 1, .slice none 0 0] 80) := Lh fun x4 hb => by
  have h1 : aa ((w.alloc zT).alloc (.cells #[.int .i64 62] 3)) (w.heap.size + 1) [.int .i64 62] 3 := aa.at (w.alloc zT) _ _ 3 _ rfl (by simp);have h2 := HZ.out.2.alloc (Obj.cells #[.int .i64 62] 3);have h3 := h1.below hb h1.lt;refine ⟨h2.below hb h2.lt, fun W hst => ⟨?_, hst.1⟩⟩;have h4 := hst.other h3 (by omega);exact nA (s := [62]) (sz := 1) rfl (by decide) rfl (Nat.le_refl _) (by decide) (.inr ⟨w.heap.size + 1, 0, rfl, fun k v hv => by rw [Nat.zero_add]; exact h4.cell hv⟩) (fun _ b o e => by obtain ⟨rfl, _⟩ : w.heap.size + 1 = b /\ 0 = o := (by simpa using e); exact .inr (by omega)) (hst.below ((aB HZ.out.1 _).trans (hb.mono (aB HZ.out.1 _).size)) (Nat.le_refl _))
 clear hS hb0 hL hlt hT hn;have he : (tb (35 :: s)).toList.isEmpty = false := by rw [iP]; rfl
 have hsz : (tb (35 :: s)).size = s.length + 1 := fP _;go_enter Tryz.func98, Tryz.ntmps98
 go_wp2_with (first
  |((with_reducible refine HAO.out.mono ?_); rintro e x4 hp; obtain ⟨rfl, h1⟩ := mQ hp; have H4 := Lh (HST.out x4 h1); clear hp h1)
  |(refine wB rfl 80 (.tmp 6) (.tmp 37) rfl w.heap.size 0 rfl [.int .u8 2, .int .i64 0, .int .i64 2, .slice (some ⟨w.heap.size + 1, 0, none⟩) 1 1, .slice none 0 0] rfl H4.out.1 5 bG ?_; intro x5 hst5; have Hx5 := Lh (H4.out.2 x5 hst5); clear hst5))
 exact dw rfl w.heap.size rfl (C := [.int .u8 2, .int .i64 0, .int .i64 2, .slice (some ⟨w.heap.size + 1, 0, none⟩) 1 1, .slice none 0 0]) (T := 80) Hx5.out.2 _ Tryz.underlying80 rfl bG rfl (.int .i64 1) rfl Hx5.out.1
theorem BL (L : List Lt) (S : List cB) (A B : Option Addr) (n c m d : Nat) (s : Alp.B) (hs : s.length < 1000000) (w0 w : World) (hn : n = L.length) (hc : n <= c) (hm : c <= 9223372036854775807) (hS : dV w0 S B m d) (hb0 : Below w0.heap.size w0 w) (hL : Rd w A (lv L)) (hlt : ∀ l ∈ L, l.text.length <= 1000000) (hn60 : n <= 60) (hT : DB w) : Calls Tryz.prog 98 #[.string (tb (46 :: s)), .slice A n c, .slice B m d] w (bR w0.heap.size w (bP L S (46 :: s))) := by
 have HZ : Hid (Below w.heap.size w (w.alloc zT) /\ aa (w.alloc zT) w.heap.size zM 80) := Lh ⟨ag _ _, aa.at w zM _ 80 _ rfl rfl⟩;obtain ⟨P, hP⟩ : ∃ P, P = 2 ^ n := ⟨_, rfl⟩;have hPlt : P < 18446744073709551616 := by
  rw [hP, show 18446744073709551616 = 2 ^ 64 from rfl];exact Nat.pow_lt_pow_right (by omega) (by omega)
 have hP1 : 1 <= P := by rw [hP]; exact Nat.one_le_two_pow
 have eP : IntKind.u64.wrap (2 ^ n) = (P : Int) := by
  rw [IntKind.wrap_u64, hP];have h2 : ((2 : Int) ^ n) = ((2 ^ n : Nat) : Int) := by norm_cast
  rw [h2, <- hP]; omega
 obtain ⟨Q, hQ⟩ : ∃ Q, Q = P - 1 := ⟨_, rfl⟩;have eQ : IntKind.u64.wrap ((P : Int) - 1) = (Q : Int) := by rw [IntKind.wrap_u64]; omega
 have HSY : Hid (Calls Tryz.prog 118 #[.int .u64 (Q : Int)] (w.alloc zT) (kW (w.alloc zT) (dH Q))) := Lh (vE Q (by omega) (w.alloc zT) (hT.below (ag _ _)));have HST : Hid (∀ x3 A4 n4 c4, Below (w.alloc zT).heap.size (w.alloc zT) x3 -> n4 = (dH Q).length -> n4 <= c4 -> c4 <= maxLen -> Rd x3 A4 (iv (dH Q)) -> (∀ b o, A4 = some ⟨b, o, none⟩ -> (w.alloc zT).heap.size <= b /\ b < x3.heap.size) -> ∀ x4, Below x3.heap.size x3 x4 -> aa x4 w.heap.size zM 80 /\ ∀ W, aK x4 W w.heap.size [.int .u8 2, .int .i64 0, .int .i64 2, .slice A4 n4 c4, .slice none 0 0] 80 -> bR w0.heap.size w (bP L S (46 :: s)) (.returned (.tuple #[.agg #[.int .u8 2, .int .i64 0, .int .i64 2, .slice A4 n4 c4, .slice none 0 0], .int .i64 1])) W /\ aa W w.heap.size [.int .u8 2, .int .i64 0, .int .i64 2, .slice A4 n4 c4, .slice none 0 0] 80) := Lh fun x3 A4 n4 c4 hb3 g1 g2 g3 g4 g5 x4 hb4 => by
  have hb := hb3.trans (hb4.mono hb3.size);refine ⟨HZ.out.2.below hb HZ.out.2.lt, fun W hst => ⟨?_, hst.1⟩⟩;have hs1 : (w.alloc zT).heap.size = w.heap.size + 1 := by simp
  have hr : Rd W A4 (iv (dH Q)) := by
   rcases g4.below hb4 with h | ⟨b, o, e, h⟩
   · exact .inl h
   · exact .inr ⟨b, o, e, fun k v hv => hst.cell (by have := (g5 b o e).1; omega) (h k v hv)⟩
  exact nA (s := dH Q) (sz := 1) (by rw [hQ, hP, hn]; rfl) (fun x hx => (lI.1 hx).1) g1 g2 (by unfold maxLen at g3; exact g3) hr (fun _ b o e => .inr (by have := (g5 b o e).1; omega)) (hst.below (HZ.out.1.trans (hb.mono HZ.out.1.size)) (Nat.le_refl _))
 clear hS hb0 hL hlt hT hP hQ hn;have he : (tb (46 :: s)).toList.isEmpty = false := by rw [iP]; rfl
 have hsz : (tb (46 :: s)).size = s.length + 1 := fP _;go_enter Tryz.func98, Tryz.ntmps98
 go_wp2_with (first
  |((with_reducible refine HSY.out.mono ?_); rintro e x3 hp; obtain ⟨A4, n4, c4, rfl, g1, g2, g3, g4, g5, g6⟩ := rU hp; have H3 := Lh (HST.out x3 A4 n4 c4 g6 g1 g2 g3 g4 g5); have HAO : Hid (Calls Tryz.prog 127 #[.slice A4 n4 c4] x3 (kP x3 A4 n4 c4)) := Lh (mX _ _ _ _); clear hp g1 g2 g3 g4 g5 g6)
  |((with_reducible refine HAO.out.mono ?_); rintro e x4 hp; obtain ⟨rfl, h1⟩ := mQ hp; have H4 := Lh (H3.out x4 h1); clear hp h1)
  |(refine wB rfl 80 (.tmp 6) (.tmp 29) rfl w.heap.size 0 rfl [.int .u8 2, .int .i64 0, .int .i64 2, .slice A4 n4 c4, .slice none 0 0] rfl H4.out.1 5 bG ?_; intro x5 hst5; have Hx5 := Lh (H4.out.2 x5 hst5); clear hst5))
 exact dw rfl w.heap.size rfl (C := [.int .u8 2, .int .i64 0, .int .i64 2, .slice A4 n4 c4, .slice none 0 0]) (T := 80) Hx5.out.2 _ Tryz.underlying80 rfl bG rfl (.int .i64 1) rfl Hx5.out.1
theorem xD {N0 : Nat} {w x4 : World} {t : Nat × Rx × Nat} {A B : Option Addr} {n c m d : Nat} (hN : N0 <= w.heap.size) (h : ai (fun b => b < N0 \/ (w.alloc zT).heap.size <= b) x4 t.2.1 A n c B m d) (hb : Below (w.alloc zT).heap.size (w.alloc zT) x4) : aa x4 w.heap.size zM 80 /\ ∀ W, aK x4 W w.heap.size [.int .u8 (t.1 : Int), .int .i64 0, .int .i64 t.2.1.kind, .slice A n c, .slice B m d] 80 -> bR N0 w t (.returned (.tuple #[.agg #[.int .u8 (t.1 : Int), .int .i64 0, .int .i64 t.2.1.kind, .slice A n c, .slice B m d], .int .i64 (t.2.2 : Int)])) W /\ aa W w.heap.size [.int .u8 (t.1 : Int), .int .i64 0, .int .i64 t.2.1.kind, .slice A n c, .slice B m d] 80 := by
 have hz : aa (w.alloc zT) w.heap.size zM 80 := aa.at w zM _ 80 _ rfl rfl;have hs1 : (w.alloc zT).heap.size = w.heap.size + 1 := by simp
 refine ⟨hz.below hb hz.lt, fun W hst => ⟨⟨A, n, c, B, m, d, rfl, ?_, ?_⟩, hst.1⟩⟩
 ·exact (h.grown (bv hst) (fun b hb e => by have := Option.some.inj e; omega)).mono fun b hb => hb.imp id fun h => by omega
 ·exact hst.below ((ag w _).trans (hb.mono (ag w _).size)) (Nat.le_refl _)
theorem AC (L : List Lt) (S : List cB) (A B : Option Addr) (n c m d : Nat) (s : Alp.B) (hs : s.length < 1000000) (w0 w : World) (hn : n = L.length) (hc : n <= c) (hm : c <= 9223372036854775807) (hS : dV w0 S B m d) (hb0 : Below w0.heap.size w0 w) (hL : Rd w A (lv L)) (hlt : ∀ l ∈ L, l.text.length <= 1000000) (hn60 : n <= 60) (hT : DB w) : Calls Tryz.prog 98 #[.string (tb (123 :: s)), .slice A n c, .slice B m d] w (bR w0.heap.size w (bP L S (123 :: s))) := by
 obtain ⟨t, ht⟩ : ∃ t, t = fE S (123 :: s) := ⟨_, rfl⟩;have HTP : Hid (bP L S (123 :: s) = t) := Lh (by rw [ht]; rfl);have HCL : Hid (Calls Tryz.prog 128 #[.string (tb (123 :: s)), .slice B m d] (w.alloc zT) (bR w0.heap.size (w.alloc zT) t)) := Lh (by rw [ht]; exact zZ S B m d (123 :: s) (by simp; omega) w0 (w.alloc zT) hS (hb0.trans ((ag w _).mono hb0.size)) rfl);have HN0 : Hid (w0.heap.size <= w.heap.size) := Lh hb0.size;rw [HTP.out];obtain ⟨T1, hT1⟩ : ∃ x, x = t.1 := ⟨_, rfl⟩;obtain ⟨K, hK⟩ : ∃ x, x = t.2.1.kind := ⟨_, rfl⟩;obtain ⟨T3, hT3⟩ : ∃ x, x = t.2.2 := ⟨_, rfl⟩;have HST : Hid (∀ x4 A4 n4 c4 B4 m4 d4, ai (fun b => b < w0.heap.size \/ (w.alloc zT).heap.size <= b) x4 t.2.1 A4 n4 c4 B4 m4 d4 -> Below (w.alloc zT).heap.size (w.alloc zT) x4 -> aa x4 w.heap.size zM 80 /\ ∀ W, aK x4 W w.heap.size [.int .u8 (T1 : Int), .int .i64 0, .int .i64 K, .slice A4 n4 c4, .slice B4 m4 d4] 80 -> bR w0.heap.size w t (.returned (.tuple #[.agg #[.int .u8 (T1 : Int), .int .i64 0, .int .i64 K, .slice A4 n4 c4, .slice B4 m4 d4], .int .i64 (T3 : Int)])) W /\ aa W w.heap.size [.int .u8 (T1 : Int), .int .i64 0, .int .i64 K, .slice A4 n4 c4, .slice B4 m4 d4] 80) := Lh fun x4 A4 n4 c4 B4 m4 d4 h hb => by rw [hT1, hK, hT3]; exact xD HN0.out h hb
 have HOUT : Hid (∀ e x4, bR w0.heap.size (w.alloc zT) t e x4 -> ∃ A4 n4 c4 B4 m4 d4, e = .returned (.tuple #[.agg #[.int .u8 (T1 : Int), .int .i64 0, .int .i64 K, .slice A4 n4 c4, .slice B4 m4 d4], .int .i64 (T3 : Int)]) /\ ai (fun b => b < w0.heap.size \/ (w.alloc zT).heap.size <= b) x4 t.2.1 A4 n4 c4 B4 m4 d4 /\ Below (w.alloc zT).heap.size (w.alloc zT) x4) := Lh fun e x4 h => by rw [hT1, hK, hT3]; exact tJ h
 clear hS hb0 hL hlt hT hn ht hT1 hK hT3;have he : (tb (123 :: s)).toList.isEmpty = false := by rw [iP]; rfl
 have hsz : (tb (123 :: s)).size = s.length + 1 := fP _;go_enter Tryz.func98, Tryz.ntmps98
 go_wp2_with (first
  |((with_reducible refine HCL.out.mono ?_); rintro e x4 hp; obtain ⟨A4, n4, c4, B4, m4, d4, rfl, g1, g2⟩ := HOUT.out e x4 hp; have H4 := Lh (HST.out x4 A4 n4 c4 B4 m4 d4 g1 g2); clear hp g1 g2)
  |(refine wB rfl 80 (.tmp 6) (.tmp 43) rfl w.heap.size 0 rfl [.int .u8 (T1 : Int), .int .i64 0, .int .i64 K, .slice A4 n4 c4, .slice B4 m4 d4] rfl H4.out.1 5 bG ?_; intro x5 hst5; have Hx5 := Lh (H4.out.2 x5 hst5); clear hst5))
 exact dw rfl w.heap.size rfl (C := [.int .u8 (T1 : Int), .int .i64 0, .int .i64 K, .slice A4 n4 c4, .slice B4 m4 d4]) (T := 80) Hx5.out.2 _ Tryz.underlying80 rfl bG rfl (.int .i64 (T3 : Int)) rfl Hx5.out.1
theorem F6 (L : List Lt) (S : List cB) (A B : Option Addr) (n c m d : Nat) (s : Alp.B) (hs : s.length < 1000000) (k : UInt8) (hk : k ≠ 124 /\ k ≠ 42 /\ k ≠ 63 /\ k ≠ 40 /\ k ≠ 41 /\ k ≠ 46 /\ k ≠ 45 /\ k ≠ 35 /\ k ≠ 123) (w0 w : World) (hn : n = L.length) (hc : n <= c) (hm : c <= 9223372036854775807) (hS : dV w0 S B m d) (hb0 : Below w0.heap.size w0 w) (hL : Rd w A (lv L)) (hlt : ∀ l ∈ L, l.text.length <= 1000000) (hn60 : n <= 60) (hT : DB w) : Calls Tryz.prog 98 #[.string (tb (k :: s)), .slice A n c, .slice B m d] w (bR w0.heap.size w (bP L S (k :: s))) := by
 obtain ⟨t, ht⟩ : ∃ t, t = jW L (k :: s) := ⟨_, rfl⟩;have HTP : Hid (bP L S (k :: s) = t) := Lh (by rw [pu, if_neg (by simp [hk]), if_neg (by simp [hk]), if_neg (by simp [hk]), if_neg (by simp [hk]), if_neg (by simp [hk]), ht]);have HCL : Hid (Calls Tryz.prog 129 #[.string (tb (k :: s)), .slice A n c] (w.alloc zT) (bR w0.heap.size (w.alloc zT) t)) := Lh (by rw [ht]; exact (Bo L A n c hn hc hm (k :: s) (by simp; omega) (w.alloc zT) (hL.below (ag _ _)) hlt).mono fun e w1 h => DK (N0 := w0.heap.size) (by omega) h);have HN0 : Hid (w0.heap.size <= w.heap.size) := Lh hb0.size;rw [HTP.out];obtain ⟨T1, hT1⟩ : ∃ x, x = t.1 := ⟨_, rfl⟩;obtain ⟨K, hK⟩ : ∃ x, x = t.2.1.kind := ⟨_, rfl⟩;obtain ⟨T3, hT3⟩ : ∃ x, x = t.2.2 := ⟨_, rfl⟩;have HST : Hid (∀ x4 A4 n4 c4 B4 m4 d4, ai (fun b => b < w0.heap.size \/ (w.alloc zT).heap.size <= b) x4 t.2.1 A4 n4 c4 B4 m4 d4 -> Below (w.alloc zT).heap.size (w.alloc zT) x4 -> aa x4 w.heap.size zM 80 /\ ∀ W, aK x4 W w.heap.size [.int .u8 (T1 : Int), .int .i64 0, .int .i64 K, .slice A4 n4 c4, .slice B4 m4 d4] 80 -> bR w0.heap.size w t (.returned (.tuple #[.agg #[.int .u8 (T1 : Int), .int .i64 0, .int .i64 K, .slice A4 n4 c4, .slice B4 m4 d4], .int .i64 (T3 : Int)])) W /\ aa W w.heap.size [.int .u8 (T1 : Int), .int .i64 0, .int .i64 K, .slice A4 n4 c4, .slice B4 m4 d4] 80) := Lh fun x4 A4 n4 c4 B4 m4 d4 h hb => by rw [hT1, hK, hT3]; exact xD HN0.out h hb
 have HOUT : Hid (∀ e x4, bR w0.heap.size (w.alloc zT) t e x4 -> ∃ A4 n4 c4 B4 m4 d4, e = .returned (.tuple #[.agg #[.int .u8 (T1 : Int), .int .i64 0, .int .i64 K, .slice A4 n4 c4, .slice B4 m4 d4], .int .i64 (T3 : Int)]) /\ ai (fun b => b < w0.heap.size \/ (w.alloc zT).heap.size <= b) x4 t.2.1 A4 n4 c4 B4 m4 d4 /\ Below (w.alloc zT).heap.size (w.alloc zT) x4) := Lh fun e x4 h => by rw [hT1, hK, hT3]; exact tJ h
 clear hS hb0 hL hlt hT hn ht hT1 hK hT3;have he : (tb (k :: s)).toList.isEmpty = false := by rw [iP]; rfl
 have hsz : (tb (k :: s)).size = s.length + 1 := fP _;obtain ⟨z, hz⟩ : ∃ z : Nat, z = k.toNat := ⟨_, rfl⟩;have hz0 : ((tb (k :: s))[0]'(by rw [hsz]; omega)).toNat = z := by rw [hz]; rfl
 have hkn : ∀ q : UInt8, k ≠ q -> z ≠ q.toNat := fun q hq e => hq (UInt8.toNat_inj.1 (by rw [<- hz]; exact e))
 have z124 : z ≠ 124 := hkn 124 hk.1;have zc124 : ((z : Int) == 124) = false := bF (by omega);clear z124;have z42 : z ≠ 42 := hkn 42 hk.2.1;have zc42 : ((z : Int) == 42) = false := bF (by omega);clear z42;have z63 : z ≠ 63 := hkn 63 hk.2.2.1;have zc63 : ((z : Int) == 63) = false := bF (by omega);clear z63;have z40 : z ≠ 40 := hkn 40 hk.2.2.2.1;have zc40 : ((z : Int) == 40) = false := bF (by omega);clear z40;have z41 : z ≠ 41 := hkn 41 hk.2.2.2.2.1;have zc41 : ((z : Int) == 41) = false := bF (by omega);clear z41;have z46 : z ≠ 46 := hkn 46 hk.2.2.2.2.2.1;have zc46 : ((z : Int) == 46) = false := bF (by omega);clear z46;have z45 : z ≠ 45 := hkn 45 hk.2.2.2.2.2.2.1;have zc45 : ((z : Int) == 45) = false := bF (by omega);clear z45;have z35 : z ≠ 35 := hkn 35 hk.2.2.2.2.2.2.2.1;have zc35 : ((z : Int) == 35) = false := bF (by omega);clear z35;have z123 : z ≠ 123 := hkn 123 hk.2.2.2.2.2.2.2.2;have zc123 : ((z : Int) == 123) = false := bF (by omega);clear z123;clear hkn hz hk;go_enter Tryz.func98, Tryz.ntmps98
 go_wp2_with (first
  |((with_reducible refine HCL.out.mono ?_); rintro e x4 hp; obtain ⟨A4, n4, c4, B4, m4, d4, rfl, g1, g2⟩ := HOUT.out e x4 hp; have H4 := Lh (HST.out x4 A4 n4 c4 B4 m4 d4 g1 g2); clear hp g1 g2)
  |(refine wB rfl 80 (.tmp 6) (.tmp 48) rfl w.heap.size 0 rfl [.int .u8 (T1 : Int), .int .i64 0, .int .i64 K, .slice A4 n4 c4, .slice B4 m4 d4] rfl H4.out.1 5 bG ?_; intro x5 hst5; have Hx5 := Lh (H4.out.2 x5 hst5); clear hst5))
 exact dw rfl w.heap.size rfl (C := [.int .u8 (T1 : Int), .int .i64 0, .int .i64 K, .slice A4 n4 c4, .slice B4 m4 d4]) (T := 80) Hx5.out.2 _ Tryz.underlying80 rfl bG rfl (.int .i64 (T3 : Int)) rfl Hx5.out.1
theorem Gr (L : List Lt) (S : List cB) (A B : Option Addr) (n c m d : Nat) (s : Alp.B) (hs : s.length <= 1000000) (w0 w : World) (hn : n = L.length) (hc : n <= c) (hm : c <= 9223372036854775807) (hS : dV w0 S B m d) (hb0 : Below w0.heap.size w0 w) (hL : Rd w A (lv L)) (hlt : ∀ l ∈ L, l.text.length <= 1000000) (hn60 : n <= 60) (hT : DB w) : Calls Tryz.prog 98 #[.string (tb s), .slice A n c, .slice B m d] w (bR w0.heap.size w (bP L S s)) := by
 match s, hs with
 |[], _ => exact BI L S A B n c m d w0 w hn hc hm hS hb0 hL hlt hn60 hT
 |k :: s, hs =>
  have hs' : s.length < 1000000 := by simp at hs; omega
  by_cases h124 : k = 124
  ·subst h124; exact Fa L S A B n c m d s hs' w0 w hn hc hm hS hb0 hL hlt hn60 hT
  by_cases h42 : k = 42
  ·subst h42; exact Gq L S A B n c m d s hs' w0 w hn hc hm hS hb0 hL hlt hn60 hT
  by_cases h63 : k = 63
  ·subst h63; exact DL L S A B n c m d s hs' w0 w hn hc hm hS hb0 hL hlt hn60 hT
  by_cases h40 : k = 40
  ·subst h40; exact EZ L S A B n c m d s hs' w0 w hn hc hm hS hb0 hL hlt hn60 hT
  by_cases h41 : k = 41
  ·subst h41; exact FK L S A B n c m d s hs' w0 w hn hc hm hS hb0 hL hlt hn60 hT
  by_cases h46 : k = 46
  ·subst h46; exact BL L S A B n c m d s hs' w0 w hn hc hm hS hb0 hL hlt hn60 hT
  by_cases h45 : k = 45
  ·subst h45; exact FX L S A B n c m d s hs' w0 w hn hc hm hS hb0 hL hlt hn60 hT
  by_cases h35 : k = 35
  ·subst h35; exact FD L S A B n c m d s hs' w0 w hn hc hm hS hb0 hL hlt hn60 hT
  by_cases h123 : k = 123
  ·subst h123; exact AC L S A B n c m d s hs' w0 w hn hc hm hS hb0 hL hlt hn60 hT
  exact F6 L S A B n c m d s hs' k ⟨h124, h42, h63, h40, h41, h46, h45, h35, h123⟩ w0 w hn hc hm hS hb0 hL hlt hn60 hT
namespace Rgx
theorem uS (L : List Lt) (S : List cB) (s : Alp.B) : (bP L S s).2.2 <= s.length := by
 match s with
 |[] => exact Nat.le_refl _
 |c :: t =>
  rw [pu]
  split
  ·simp
  ·split
   ·simp
   ·split
    ·simp
    ·split
     ·simp
     ·split
      ·unfold fE
       split
       ·simp
       ·split
        ·rename_i h1 h2
         have h3 := (Lib.indexByte_some (o := 1) h2).1
         rcases Nat.lt_or_ge 1 (c :: t).length with h | h
         ·exact h
         ·rw [List.getElem?_eq_none h] at h3; cases h3
        ·split
         ·simp
         ·split
          ·rename_i h1 h2 _ _ _ _
           obtain ⟨o, ho⟩ : ∃ o : Nat, Lib.indexByte (c :: t) 125 = o := ⟨(Lib.indexByte (c :: t) 125).toNat, by omega⟩;have h3 := (Lib.indexByte_some ho).1;rw [ho, Int.toNat_natCast]
           rcases Nat.lt_or_ge o (c :: t).length with h | h
           ·exact h
           ·rw [List.getElem?_eq_none h] at h3; cases h3
          ·simp
      ·unfold jW
       split
       ·simp
       ·exact (nU L (c :: t) L.length).1
end Rgx
def l8 (N0 ab p : Nat) (t : Nat × Rx × Nat) (w : World) (e : Ending) (w' : World) : Prop := ∃ A n c B m d, e = .returned (.agg #[.int .u8 (t.1 : Int), .int .i64 (p : Int), .int .i64 t.2.1.kind, .slice A n c, .slice B m d]) /\ ai (fun b => b < N0 \/ w.heap.size <= b) w' t.2.1 A n c B m d /\ aa w' ab [.int .i64 ((p + t.2.2 : Nat) : Int)] 3 /\ w.grownBy w' (some ab)
theorem GN {N0 ab p : Nat} {t : Nat × Rx × Nat} {w : World} {e : Ending} {w' : World} (h : l8 N0 ab p t w e w') : ∃ A n c B m d, e = .returned (.agg #[.int .u8 (t.1 : Int), .int .i64 (p : Int), .int .i64 t.2.1.kind, .slice A n c, .slice B m d]) /\ ai (fun b => b < N0 \/ w.heap.size <= b) w' t.2.1 A n c B m d /\ aa w' ab [.int .i64 ((p + t.2.2 : Nat) : Int)] 3 /\ w.grownBy w' (some ab) := h
theorem zK (args : Array Value) (W : World) : (callFunc 97 args).run Tryz.prog W = .ok (.enter 97 args) W := by kernel_rfl
theorem Fy (L : List Lt) (S : List cB) (A B : Option Addr) (n c m d : Nat) (s : Alp.B) (p sb ab lb eb : Nat) (w0 w : World) (hs : s.length <= 1000000) (hp : p <= s.length) (hn : n = L.length) (hc : n <= c) (hm : c <= 9223372036854775807) (hS : dV w0 S B m d) (hb0 : Below w0.heap.size w0 w) (hL : Rd w0 A (lv L)) (hlt : ∀ l ∈ L, l.text.length <= 1000000) (hn60 : n <= 60) (hT : DB w0) (hab : w0.heap.size <= ab) (c1 : w.cell? ⟨sb, 0, none⟩ = some (.string (tb s))) (c2 : aa w ab [.int .i64 (p : Int)] 3) (c3 : w.cell? ⟨lb, 0, none⟩ = some (.slice A n c)) (c4 : w.cell? ⟨eb, 0, none⟩ = some (.slice B m d)) : Calls Tryz.prog 97 #[.pointer (some ⟨sb, 0, none⟩), .pointer (some ⟨ab, 0, none⟩), .pointer (some ⟨lb, 0, none⟩), .pointer (some ⟨eb, 0, none⟩)] w (l8 w0.heap.size ab p (bP L S (s.drop p)) w) := by
 obtain ⟨t, ht⟩ : ∃ t, t = bP L S (s.drop p) := ⟨_, rfl⟩;obtain ⟨T1, hT1⟩ : ∃ x, x = t.1 := ⟨_, rfl⟩;obtain ⟨K, hK⟩ : ∃ x, x = t.2.1.kind := ⟨_, rfl⟩;obtain ⟨T3, hT3⟩ : ∃ x, x = t.2.2 := ⟨_, rfl⟩;have hT3l : T3 <= 1000000 := by have h1 := uS L S (s.drop p); rw [hT3, ht]; rw [List.length_drop] at h1; omega
 have HSZ : Hid (w0.heap.size <= w.heap.size) := Lh hb0.size;have HFT : Hid (∀ W, Below (w.alloc zT).heap.size (w.alloc zT) W -> Calls Tryz.prog 98 #[.string (tb (s.drop p)), .slice A n c, .slice B m d] W (bR w0.heap.size W t)) := Lh fun W hb => by
  have hbw : Below w0.heap.size w0 W := hb0.trans (((ag w _).trans (hb.mono (ag w _).size)).mono hb0.size);rw [ht];exact Gr L S A B n c m d (s.drop p) (by rw [List.length_drop]; omega) w0 W hn hc hm hS hbw (hL.below hbw) hlt hn60 (hT.below hbw)
 have HOUT : Hid (∀ N1 W e x4, bR N1 W t e x4 -> ∃ A4 n4 c4 B4 m4 d4, e = .returned (.tuple #[.agg #[.int .u8 (T1 : Int), .int .i64 0, .int .i64 K, .slice A4 n4 c4, .slice B4 m4 d4], .int .i64 (T3 : Int)]) /\ ai (fun b => b < N1 \/ W.heap.size <= b) x4 t.2.1 A4 n4 c4 B4 m4 d4 /\ Below W.heap.size W x4) := Lh fun N1 W e x4 h => by rw [hT1, hK, hT3]; exact tJ h
 have HT : Hid (bP L S (s.drop p) = t /\ T1 = t.1 /\ K = t.2.1.kind /\ T3 = t.2.2) := Lh ⟨ht.symm, hT1, hK, hT3⟩;have HC2 := Lh c2;have hc2 := c2.cell (j := 0) rfl;have HSB : Hid (∀ W, Below (w.alloc zT).heap.size (w.alloc zT) W -> (fun w' => w'.cell? ⟨sb, 0, none⟩ = some (.string (tb s)) /\ w'.cell? ⟨ab, 0, none⟩ = some (.int .i64 (p : Int)) /\ w'.cell? ⟨lb, 0, none⟩ = some (.slice A n c) /\ w'.cell? ⟨eb, 0, none⟩ = some (.slice B m d)) W) := Lh fun W hb => by
  have hbw : Below w.heap.size w W := (ag w _).trans (hb.mono (ag w _).size);exact ⟨(hbw.cell (p := ⟨sb, 0, none⟩) (World.block_lt_of_cell? w _ c1)).trans c1, (hbw.cell (p := ⟨ab, 0, none⟩) (World.block_lt_of_cell? w _ hc2)).trans hc2, (hbw.cell (p := ⟨lb, 0, none⟩) (World.block_lt_of_cell? w _ c3)).trans c3, (hbw.cell (p := ⟨eb, 0, none⟩) (World.block_lt_of_cell? w _ c4)).trans c4⟩
 have HAB : Hid (w0.heap.size <= ab /\ ab < w.heap.size) := Lh ⟨hab, c2.lt⟩;have HZ : Hid (aa (w.alloc zT) w.heap.size zM 80) := Lh (aa.at w zM _ 80 _ rfl rfl);have hsub : (tb s).extract p s.length = tb (s.drop p) := by rw [yw, List.take_of_length_le (by rw [List.length_drop]; exact Nat.le_refl _)]
 have hsz : (tb s).size = s.length := fP s;rw [HT.out.1];clear hn hc hm hS hb0 hL hlt hn60 hT hab c1 c2 c3 c4 hc2 ht hT1 hK hT3;go_enter Tryz.func97, Tryz.ntmps97;go_wp2_with fail;refine wp_region_held_drew (S := fun w' => w'.cell? ⟨sb, 0, none⟩ = some (.string (tb s)) /\ w'.cell? ⟨ab, 0, none⟩ = some (.int .i64 (p : Int)) /\ w'.cell? ⟨lb, 0, none⟩ = some (.slice A n c) /\ w'.cell? ⟨eb, 0, none⟩ = some (.slice B m d)) (by kernel_rfl) (HSB.out _ (below_drewN (Below.refl _ _) 1)) (fun hS0 => ?_);refine bE 0 ?_;refine bE 1 ?_;refine bE 2 ?_;refine bE 3 ?_;refine bE 4 ?_;refine wpAnyH_ready (rs := [5, 9]) (by kernel_rfl) (by simp) ?_;refine wA rfl (fun K0 hK => ?_) (wA rfl (fun K0 hK => ?_) AllReadyH.nil)
 ·go_simp;go_at_call 98;refine (HFT.out _ (below_drewN (Below.refl _ _) 1)).mono ?_;rintro e w5 hp;obtain ⟨A4, n4, c4, B4, m4, d4, rfl, q1, q2⟩ := HOUT.out _ _ e w5 hp;have H5 : Hid (ai (fun b => b < w0.heap.size \/ (w.alloc zT).heap.size <= b) w5 t.2.1 A4 n4 c4 B4 m4 d4 /\ Below (w.alloc zT).heap.size (w.alloc zT) w5) := Lh ⟨q1, ae (below_drewN (Below.refl _ _) 1) q2⟩;clear hp q1 q2;refine hK.out _ _ (HSB.out _ H5.out.2) (fun hS1 => ?_);clear hK K0 hS0;(try simp only [Act.put, pP]);refine bE 6 ?_;refine bE 7 ?_;refine bE 8 ?_;refine wpAnyH_ready (rs := [9]) (by kernel_rfl) (by simp) ?_;refine wA rfl (fun K0 hK => ?_) AllReadyH.nil
  go_simp;have HX : Hid (Below (w.alloc zT).heap.size (w.alloc zT) (w5.alloc zT) /\ aa (w5.alloc zT) w5.heap.size zM 80 /\ ai (fun b => (b < w0.heap.size \/ (w.alloc zT).heap.size <= b) /\ b ≠ w5.heap.size) (w5.alloc zT) t.2.1 A4 n4 c4 B4 m4 d4 /\ (w.alloc zT).heap.size <= w5.heap.size) := Lh ⟨aB H5.out.2 _, aa.at w5 zM _ 80 _ rfl rfl, (H5.out.1.lt7.mono fun b hb => ⟨hb.1, by omega⟩).below (ag _ _), H5.out.2.size⟩;refine hK.out _ _ (HSB.out _ HX.out.1) (fun hS2 => ?_);clear hK K0 hS1;(try simp only [Act.put, pP]);refine wpAnyH_ready (rs := [10]) (by kernel_rfl) (by simp) ?_;refine AllReadyH.cons (o := ⟨none, .store 80 (.tmp 5) (.tmp 14), 0, _, _, none⟩) rfl (fun K0 hK => ?_) AllReadyH.nil
  refine oH rfl 80 (.tmp 5) (.tmp 14) rfl w5.heap.size rfl [.int .u8 (T1 : Int), .int .i64 0, .int .i64 K, .slice A4 n4 c4, .slice B4 m4 d4] rfl HX.out.2.1 bG rfl (by simp [Value.oneCell']) ?_;intro x6 hst6;have HX6 : Hid (Below (w.alloc zT).heap.size (w.alloc zT) x6 /\ aa x6 w5.heap.size [.int .u8 (T1 : Int), .int .i64 0, .int .i64 K, .slice A4 n4 c4, .slice B4 m4 d4] 80 /\ ai (fun b => (b < w0.heap.size \/ (w.alloc zT).heap.size <= b) /\ b ≠ w5.heap.size) x6 t.2.1 A4 n4 c4 B4 m4 d4 /\ (w.alloc zT).heap.size <= w5.heap.size) := Lh ⟨hst6.below HX.out.1 HX.out.2.2.2, hst6.1, HX.out.2.2.1.grown (bv hst6) (fun b hb e => hb.2 (Option.some.inj e)), HX.out.2.2.2⟩;clear hst6;refine hK.out _ _ (HSB.out _ HX6.out.1) (fun hS3 => ?_);clear hK K0 hS2;(try simp only [Act.put, pP]);refine bE 11 ?_;refine wpAnyH_done (by kernel_rfl) ?_ _;obtain ⟨g5, hg5⟩ : ∃ g, g = w5.heap.size := ⟨_, rfl⟩;rw [<- hg5] at HX6 ⊢;clear hg5;have hcx6 := HX6.out.2.1.cell (j := 1) rfl;have hfr6 : x6.frozen? ⟨g5, 1, none⟩ = false := HX6.out.2.1.frozen 1;have HS7 : Hid (∀ W, W = x6.setCell ⟨g5, 1, none⟩ (.int .i64 (p : Int)) -> aK x6 W g5 [.int .u8 (T1 : Int), .int .i64 (p : Int), .int .i64 K, .slice A4 n4 c4, .slice B4 m4 d4] 80 /\ aa W ab [.int .i64 (p : Int)] 3) := Lh fun W hW => by
   have h1 := aK.of_setCell HX6.out.2.1 1 (.int .i64 (p : Int));rw [<- hW] at h1;have h2 : aa x6 ab [.int .i64 (p : Int)] 3 := HC2.out.below ((ag w _).trans (HX6.out.1.mono (ag w _).size)) HC2.out.lt;have hs1 : (w.alloc zT).heap.size = w.heap.size + 1 := by simp
   exact ⟨h1, h1.other h2 (by have := HX6.out.2.2.2; have := HAB.out.2; omega)⟩
  go_upto_region 3 with fail
  obtain ⟨x7, hx7⟩ : ∃ W, W = x6.setCell ⟨g5, 1, none⟩ (.int .i64 (p : Int)) := ⟨_, rfl⟩;rw [<- hx7];have H7 := Lh (HS7.out x7 hx7);clear hx7 hcx6 hfr6;have hca7 := H7.out.2.cell (j := 0) rfl;have hfr7 : x7.frozen? ⟨ab, 0, none⟩ = false := H7.out.2.frozen 0;have HS8 : Hid (∀ W, W = x7.setCell ⟨ab, 0, none⟩ (.int .i64 ((p : Int) + (T3 : Int))) -> aK x7 W ab [.int .i64 ((p : Int) + (T3 : Int))] 3 /\ aa W g5 [.int .u8 (T1 : Int), .int .i64 (p : Int), .int .i64 K, .slice A4 n4 c4, .slice B4 m4 d4] 80 /\ aa W w.heap.size zM 80) := Lh fun W hW => by
   have h1 := aK.of_setCell H7.out.2 0 (.int .i64 ((p : Int) + (T3 : Int)));rw [<- hW] at h1;have hs1 : (w.alloc zT).heap.size = w.heap.size + 1 := by simp
   have h3 := HX6.out.2.2.2;have h4 := HAB.out.2;exact ⟨h1, h1.other H7.out.1.1 (by omega), h1.other (H7.out.1.other (HZ.out.below HX6.out.1 HZ.out.lt) (by omega)) (by omega)⟩
  go_upto_region 4 with fail
  obtain ⟨x8, hx8⟩ : ∃ W, W = x7.setCell ⟨ab, 0, none⟩ (.int .i64 ((p : Int) + (T3 : Int))) := ⟨_, rfl⟩;rw [<- hx8];have H8 := Lh (HS8.out x8 hx8);clear hx8 hca7 hfr7;have HFIN : Hid (∀ W, aK x8 W w.heap.size [.int .u8 (T1 : Int), .int .i64 (p : Int), .int .i64 K, .slice A4 n4 c4, .slice B4 m4 d4] 80 -> l8 w0.heap.size ab p t w (.returned (.agg #[.int .u8 (T1 : Int), .int .i64 (p : Int), .int .i64 K, .slice A4 n4 c4, .slice B4 m4 d4])) W /\ aa W w.heap.size [.int .u8 (T1 : Int), .int .i64 (p : Int), .int .i64 K, .slice A4 n4 c4, .slice B4 m4 d4] 80) := Lh fun W hst => by
   have hs1 : (w.alloc zT).heap.size = w.heap.size + 1 := by simp
   have h3 := HX6.out.2.2.2;have h4 := HAB.out;have hbb : Below w.heap.size w x6 := (ag w _).trans (HX6.out.1.mono (ag w _).size);have g6 : w.grownBy x6 (some ab) := ⟨hbb.os, hbb.tape, hbb.output, hbb.size, fun k hk _ => hbb.block k hk⟩;have g9 := ((g6.andThen (bv H7.out.1) (fun j e => .inl (by have := Option.some.inj e; omega))).andThen (bv H8.out.1) (fun j e => .inr (by rw [Option.some.inj e]))).andThen (bv hst) (fun j e => .inl (by have := Option.some.inj e; omega));refine ⟨⟨A4, n4, c4, B4, m4, d4, by rw [<- HT.out.2.1, <- HT.out.2.2.1], ?_, ?_, g9⟩, hst.1⟩
   ·have r7 := HX6.out.2.2.1.grown (bv H7.out.1) (fun b hb e => hb.2 (Option.some.inj e));have r8 := r7.grown (bv H8.out.1) (fun b hb e => by have := Option.some.inj e; omega);have r9 := r8.grown (bv hst) (fun b hb e => by have := Option.some.inj e; omega);exact r9.mono fun b hb => hb.1.imp id fun h => by omega
   ·have h5 := hst.other H8.out.1.1 (by omega);rw [<- HT.out.2.2.2]
    push_cast
    exact h5
  have HBK := Lh H8.out.2.1;have HBZ := Lh H8.out.2.2
  go_wp2_with (first
   |(refine vI rfl 80 (.tmp 5) rfl g5 0 rfl HBK.out _ Tryz.underlying80 rfl 5 bG (by simp) ?_)
   |(refine wB rfl 80 (.tmp 4) (.tmp 21) rfl w.heap.size 0 rfl [.int .u8 (T1 : Int), .int .i64 (p : Int), .int .i64 K, .slice A4 n4 c4, .slice B4 m4 d4] rfl HBZ.out 5 bG ?_; intro x9 hst9; have HX9 := Lh (HFIN.out x9 hst9); clear hst9))
  exact bM rfl w.heap.size rfl (C := [.int .u8 (T1 : Int), .int .i64 (p : Int), .int .i64 K, .slice A4 n4 c4, .slice B4 m4 d4]) (T := 80) HX9.out.2 _ Tryz.underlying80 rfl bG rfl HX9.out.1
 ·go_simp;have HY : Hid (Below (w.alloc zT).heap.size (w.alloc zT) ((w.alloc zT).drew.alloc zT) /\ aa ((w.alloc zT).drew.alloc zT) (w.alloc zT).heap.size zM 80) := Lh ⟨aB (below_drewN (Below.refl _ _) 1) _, aa.at (w.alloc zT).drew zM _ 80 _ rfl rfl⟩;refine hK.out _ _ (HSB.out _ HY.out.1) (fun hS1 => ?_);clear hK K0 hS0;(try simp only [Act.put, pP]);refine wpAnyH_ready (rs := [5]) (by kernel_rfl) (by simp) ?_;refine wA rfl (fun K0 hK => ?_) AllReadyH.nil
  go_simp;go_at_call 98;refine (HFT.out _ HY.out.1).mono ?_;rintro e w5 hp;obtain ⟨A4, n4, c4, B4, m4, d4, rfl, q1, q2⟩ := HOUT.out _ _ e w5 hp;have HX : Hid (Below (w.alloc zT).heap.size (w.alloc zT) w5 /\ aa w5 (w.heap.size + 1) zM 80 /\ ai (fun b => (b < w0.heap.size \/ (w.alloc zT).heap.size <= b) /\ b ≠ w.heap.size + 1) w5 t.2.1 A4 n4 c4 B4 m4 d4 /\ (w.alloc zT).heap.size <= w.heap.size + 1) := Lh (by
   have hs0 := HSZ.out;have hs1 : (w.alloc zT).heap.size = w.heap.size + 1 := by simp
   have hs2 : ((w.alloc zT).drew.alloc zT).heap.size = w.heap.size + 1 + 1 := by simp
   have h1 := HY.out.2;rw [hs1] at h1;refine ⟨HY.out.1.trans (q2.mono HY.out.1.size), h1.below q2 h1.lt, q1.mono fun b hb => ?_, by omega⟩;rw [hs2] at hb;rw [hs1];omega)
  clear hp q1 q2;refine hK.out _ _ (HSB.out _ HX.out.1) (fun hS2 => ?_);clear hK K0 hS1;(try simp only [Act.put, pP]);refine bE 6 ?_;refine bE 7 ?_;refine wpAnyH_take (i := 8) (oi := { dst := some 15, op := Op.extract (Operand.tmp 7) 1, type := 3, pos := "pattern.go:46", after := #[{ on := 6, ground := Ground.data }, { on := 10, ground := Ground.gcOnly Departure.lateStores }], guard := none }) (v := ?_) rfl (by kernel_rfl) (by kernel_rfl) (by kernel_rfl) (fun _ _ _ h => h) (Or.inl ⟨by rfl, ?_⟩) (by assumption) ?_
  rotate_left
  ·(rintro w' ⟨h1, h2, h3, h4⟩; go_simp; try with_reducible rfl)
  (try simp only [Act.put, pP]);refine wpAnyH_ready (rs := [10]) (by kernel_rfl) (by simp) ?_;refine AllReadyH.cons (o := ⟨none, .store 80 (.tmp 5) (.tmp 14), 0, _, _, none⟩) rfl (fun K0 hK => ?_) AllReadyH.nil
  refine oH rfl 80 (.tmp 5) (.tmp 14) rfl (w.heap.size + 1) rfl [.int .u8 (T1 : Int), .int .i64 0, .int .i64 K, .slice A4 n4 c4, .slice B4 m4 d4] rfl HX.out.2.1 bG rfl (by simp [Value.oneCell']) ?_;intro x6 hst6;have HX6 : Hid (Below (w.alloc zT).heap.size (w.alloc zT) x6 /\ aa x6 (w.heap.size + 1) [.int .u8 (T1 : Int), .int .i64 0, .int .i64 K, .slice A4 n4 c4, .slice B4 m4 d4] 80 /\ ai (fun b => (b < w0.heap.size \/ (w.alloc zT).heap.size <= b) /\ b ≠ (w.heap.size + 1)) x6 t.2.1 A4 n4 c4 B4 m4 d4 /\ (w.alloc zT).heap.size <= (w.heap.size + 1)) := Lh ⟨hst6.below HX.out.1 HX.out.2.2.2, hst6.1, HX.out.2.2.1.grown (bv hst6) (fun b hb e => hb.2 (Option.some.inj e)), HX.out.2.2.2⟩;clear hst6;refine hK.out _ _ (HSB.out _ HX6.out.1) (fun hS3 => ?_);clear hK K0 hS2;(try simp only [Act.put, pP]);refine bE 11 ?_;refine wpAnyH_done (by kernel_rfl) ?_ _;obtain ⟨g5, hg5⟩ : ∃ g, g = (w.heap.size + 1) := ⟨_, rfl⟩;rw [<- hg5] at HX6 ⊢;clear hg5;have hcx6 := HX6.out.2.1.cell (j := 1) rfl;have hfr6 : x6.frozen? ⟨g5, 1, none⟩ = false := HX6.out.2.1.frozen 1;have HS7 : Hid (∀ W, W = x6.setCell ⟨g5, 1, none⟩ (.int .i64 (p : Int)) -> aK x6 W g5 [.int .u8 (T1 : Int), .int .i64 (p : Int), .int .i64 K, .slice A4 n4 c4, .slice B4 m4 d4] 80 /\ aa W ab [.int .i64 (p : Int)] 3) := Lh fun W hW => by
   have h1 := aK.of_setCell HX6.out.2.1 1 (.int .i64 (p : Int));rw [<- hW] at h1;have h2 : aa x6 ab [.int .i64 (p : Int)] 3 := HC2.out.below ((ag w _).trans (HX6.out.1.mono (ag w _).size)) HC2.out.lt;have hs1 : (w.alloc zT).heap.size = w.heap.size + 1 := by simp
   exact ⟨h1, h1.other h2 (by have := HX6.out.2.2.2; have := HAB.out.2; omega)⟩
  go_upto_region 3 with fail
  obtain ⟨x7, hx7⟩ : ∃ W, W = x6.setCell ⟨g5, 1, none⟩ (.int .i64 (p : Int)) := ⟨_, rfl⟩;rw [<- hx7];have H7 := Lh (HS7.out x7 hx7);clear hx7 hcx6 hfr6;have hca7 := H7.out.2.cell (j := 0) rfl;have hfr7 : x7.frozen? ⟨ab, 0, none⟩ = false := H7.out.2.frozen 0;have HS8 : Hid (∀ W, W = x7.setCell ⟨ab, 0, none⟩ (.int .i64 ((p : Int) + (T3 : Int))) -> aK x7 W ab [.int .i64 ((p : Int) + (T3 : Int))] 3 /\ aa W g5 [.int .u8 (T1 : Int), .int .i64 (p : Int), .int .i64 K, .slice A4 n4 c4, .slice B4 m4 d4] 80 /\ aa W w.heap.size zM 80) := Lh fun W hW => by
   have h1 := aK.of_setCell H7.out.2 0 (.int .i64 ((p : Int) + (T3 : Int)));rw [<- hW] at h1;have hs1 : (w.alloc zT).heap.size = w.heap.size + 1 := by simp
   have h3 := HX6.out.2.2.2;have h4 := HAB.out.2;exact ⟨h1, h1.other H7.out.1.1 (by omega), h1.other (H7.out.1.other (HZ.out.below HX6.out.1 HZ.out.lt) (by omega)) (by omega)⟩
  go_upto_region 4 with fail
  obtain ⟨x8, hx8⟩ : ∃ W, W = x7.setCell ⟨ab, 0, none⟩ (.int .i64 ((p : Int) + (T3 : Int))) := ⟨_, rfl⟩;rw [<- hx8];have H8 := Lh (HS8.out x8 hx8);clear hx8 hca7 hfr7;have HFIN : Hid (∀ W, aK x8 W w.heap.size [.int .u8 (T1 : Int), .int .i64 (p : Int), .int .i64 K, .slice A4 n4 c4, .slice B4 m4 d4] 80 -> l8 w0.heap.size ab p t w (.returned (.agg #[.int .u8 (T1 : Int), .int .i64 (p : Int), .int .i64 K, .slice A4 n4 c4, .slice B4 m4 d4])) W /\ aa W w.heap.size [.int .u8 (T1 : Int), .int .i64 (p : Int), .int .i64 K, .slice A4 n4 c4, .slice B4 m4 d4] 80) := Lh fun W hst => by
   have hs1 : (w.alloc zT).heap.size = w.heap.size + 1 := by simp
   have h3 := HX6.out.2.2.2;have h4 := HAB.out;have hbb : Below w.heap.size w x6 := (ag w _).trans (HX6.out.1.mono (ag w _).size);have g6 : w.grownBy x6 (some ab) := ⟨hbb.os, hbb.tape, hbb.output, hbb.size, fun k hk _ => hbb.block k hk⟩;have g9 := ((g6.andThen (bv H7.out.1) (fun j e => .inl (by have := Option.some.inj e; omega))).andThen (bv H8.out.1) (fun j e => .inr (by rw [Option.some.inj e]))).andThen (bv hst) (fun j e => .inl (by have := Option.some.inj e; omega));refine ⟨⟨A4, n4, c4, B4, m4, d4, by rw [<- HT.out.2.1, <- HT.out.2.2.1], ?_, ?_, g9⟩, hst.1⟩
   ·have r7 := HX6.out.2.2.1.grown (bv H7.out.1) (fun b hb e => hb.2 (Option.some.inj e));have r8 := r7.grown (bv H8.out.1) (fun b hb e => by have := Option.some.inj e; omega);have r9 := r8.grown (bv hst) (fun b hb e => by have := Option.some.inj e; omega);exact r9.mono fun b hb => hb.1.imp id fun h => by omega
   ·have h5 := hst.other H8.out.1.1 (by omega);rw [<- HT.out.2.2.2]
    push_cast
    exact h5
  have HBK := Lh H8.out.2.1;have HBZ := Lh H8.out.2.2
  go_wp2_with (first
   |(refine vI rfl 80 (.tmp 5) rfl g5 0 rfl HBK.out _ Tryz.underlying80 rfl 5 bG (by simp) ?_)
   |(refine wB rfl 80 (.tmp 4) (.tmp 21) rfl w.heap.size 0 rfl [.int .u8 (T1 : Int), .int .i64 (p : Int), .int .i64 K, .slice A4 n4 c4, .slice B4 m4 d4] rfl HBZ.out 5 bG ?_; intro x9 hst9; have HX9 := Lh (HFIN.out x9 hst9); clear hst9))
  exact bM rfl w.heap.size rfl (C := [.int .u8 (T1 : Int), .int .i64 (p : Int), .int .i64 K, .slice A4 n4 c4, .slice B4 m4 d4]) (T := 80) HX9.out.2 _ Tryz.underlying80 rfl bG rfl HX9.out.1
structure Lx where
 L : List Lt
 S : List cB
 s : Alp.B
 A : Option Addr
 n : Nat
 c : Nat
 B : Option Addr
 m : Nat
 d : Nat
 w0 : World
 sb : Nat
 ab : Nat
 lb : Nat
 eb : Nat
 pb : Nat
structure jD (X : Lx) : Prop where
 hs : X.s.length <= 1000000
 hn : X.n = X.L.length
 hc : X.n <= X.c
 hm : X.c <= 9223372036854775807
 hS : dV X.w0 X.S X.B X.m X.d
 hL : Rd X.w0 X.A (lv X.L)
 hlt : ∀ l ∈ X.L, l.text.length <= 1000000
 hn60 : X.n <= 60
 hT : DB X.w0
 hab : X.w0.heap.size <= X.ab
 hpb : X.w0.heap.size <= X.pb
 hne : X.ab ≠ X.pb /\ X.sb ≠ X.ab /\ X.sb ≠ X.pb /\ X.lb ≠ X.ab /\ X.lb ≠ X.pb /\ X.eb ≠ X.ab /\ X.eb ≠ X.pb
structure PS where
 k : Nat
 x : Rx
 st : Nat
 p : Nat
namespace Rgx
def bg (X : Lx) (Q : PS) : PS := ⟨(bP X.L X.S (X.s.drop Q.p)).1, (bP X.L X.S (X.s.drop Q.p)).2.1, Q.p, Q.p + (bP X.L X.S (X.s.drop Q.p)).2.2⟩
theorem Dg (X : Lx) {Q : PS} (h : Q.p <= X.s.length) : (bg X Q).p <= X.s.length /\ (bg X Q).st = Q.p := by
 have h1 := uS X.L X.S (X.s.drop Q.p);rw [List.length_drop] at h1;exact ⟨by show Q.p + _ <= _; omega, rfl⟩
end Rgx
structure aR (X : Lx) (q : Nat -> Prop) (Q : PS) (w : World) : Prop where
 hb : Below X.w0.heap.size X.w0 w
 hle : Q.p <= X.s.length
 c1 : w.cell? ⟨X.sb, 0, none⟩ = some (.string (tb X.s))
 c2 : aa w X.ab [.int .i64 (Q.p : Int)] 3
 c3 : w.cell? ⟨X.lb, 0, none⟩ = some (.slice X.A X.n X.c)
 c4 : w.cell? ⟨X.eb, 0, none⟩ = some (.slice X.B X.m X.d)
 c5 : ∃ A n c B m d, aa w X.pb [.func (.func 97) #[] #[.pointer (some ⟨X.sb, 0, none⟩), .pointer (some ⟨X.ab, 0, none⟩), .pointer (some ⟨X.lb, 0, none⟩), .pointer (some ⟨X.eb, 0, none⟩)], .int .u8 (Q.k : Int), .int .i64 (Q.st : Int), .int .i64 Q.x.kind, .slice A n c, .slice B m d] 82 /\ ai (fun b => q b /\ b ≠ X.pb /\ b ≠ X.ab) w Q.x A n c B m d
structure Kq (X : Lx) (w w' : World) : Prop where
 os : w'.os = w.os
 tape : w'.tape = w.tape
 output : w'.output = w.output
 size : w.heap.size <= w'.heap.size
 block : ∀ k, k < w.heap.size -> k ≠ X.pb -> k ≠ X.ab -> w'.heap[k]? = w.heap[k]?
section
variable {X : Lx} {q q2 : Nat -> Prop} {Q : PS} {w w1 w2 : World}
theorem Kq.refl (X : Lx) (w : World) : Kq X w w := ⟨rfl, rfl, rfl, Nat.le_refl _, fun _ _ _ _ => rfl⟩
theorem Kq.of_below (h : Below w.heap.size w w1) : Kq X w w1 := ⟨h.os, h.tape, h.output, h.size, fun k hk _ _ => h.block k hk⟩
theorem Kq.tr (h1 : Kq X w w1) (h2 : Kq X w1 w2) : Kq X w w2 := ⟨h2.os.trans h1.os, h2.tape.trans h1.tape, h2.output.trans h1.output, Nat.le_trans h1.size h2.size, fun k hk a b => (h2.block k (Nat.lt_of_lt_of_le hk h1.size) a b).trans (h1.block k hk a b)⟩
theorem Kq.cell (h : Kq X w w1) {b o : Nat} (hb : b < w.heap.size) (h1 : b ≠ X.pb) (h2 : b ≠ X.ab) : w1.cell? ⟨b, o, none⟩ = w.cell? ⟨b, o, none⟩ := World.cell?_of_block (h.block b hb h1 h2)
theorem Kq.blk (h : Kq X w w1) {b : Nat} {C : List Value} {T : TypeId} (hb : aa w b C T) (h1 : b ≠ X.pb) (h2 : b ≠ X.ab) : aa w1 b C T := (h.block b hb.lt h1 h2).trans hb
theorem Kq.below (hx : jD X) (h : Kq X w w1) (hb : Below X.w0.heap.size X.w0 w) : Below X.w0.heap.size X.w0 w1 := ⟨h.os.trans hb.os, h.tape.trans hb.tape, h.output.trans hb.output, Nat.le_trans hb.size h.size, fun k hk => (h.block k (Nat.lt_of_lt_of_le hk hb.size) (by have := hx.hpb; omega) (by have := hx.hab; omega)).trans (hb.block k hk)⟩
theorem aR.below (h : aR X q Q w) (hb : Below w.heap.size w w1) : aR X q Q w1 := by
 obtain ⟨A, n, c, B, m, d, h1, h2⟩ := h.c5;exact ⟨h.hb.trans (hb.mono h.hb.size), h.hle, (hb.cell (p := ⟨X.sb, 0, none⟩) (World.block_lt_of_cell? w _ h.c1)).trans h.c1, h.c2.below hb h.c2.lt, (hb.cell (p := ⟨X.lb, 0, none⟩) (World.block_lt_of_cell? w _ h.c3)).trans h.c3, (hb.cell (p := ⟨X.eb, 0, none⟩) (World.block_lt_of_cell? w _ h.c4)).trans h.c4, A, n, c, B, m, d, h1.below hb h1.lt, h2.below hb⟩
theorem aR.grown (h : aR X q Q w) {G : Nat} (hg : w.grownBy w1 (some G)) (h0 : X.w0.heap.size <= G) (h1 : G ≠ X.pb) (h2 : G ≠ X.ab) (h3 : G ≠ X.sb) (h4 : G ≠ X.lb) (h5 : G ≠ X.eb) (hq : ∀ b, q b -> b ≠ G) : aR X q Q w1 := by
 obtain ⟨A, n, c, B, m, d, e1, e2⟩ := h.c5;have hc : ∀ b o, b < w.heap.size -> G ≠ b -> w1.cell? ⟨b, o, none⟩ = w.cell? ⟨b, o, none⟩ := fun b o hb hne => World.cell?_of_block (hg.block b hb (fun e => hne (Option.some.inj e).symm))
 have hk : ∀ b C T, aa w b C T -> G ≠ b -> aa w1 b C T := fun b C T hb hne => (hg.block b hb.lt (fun e => hne (Option.some.inj e).symm)).trans hb
 exact ⟨h.hb.grown hg h.hb.size (fun g e => by have := Option.some.inj e; omega), h.hle, (hc _ _ (World.block_lt_of_cell? w _ h.c1) h3).trans h.c1, hk _ _ _ h.c2 h2, (hc _ _ (World.block_lt_of_cell? w _ h.c3) h4).trans h.c3, (hc _ _ (World.block_lt_of_cell? w _ h.c4) h5).trans h.c4, A, n, c, B, m, d, hk _ _ _ e1 h1, e2.grown hg fun b hb e => hq b hb.1 (Option.some.inj e)⟩
theorem aR.mono (h : aR X q Q w) (hq : ∀ b, q b -> b < w.heap.size -> q2 b) : aR X q2 Q w := by
 obtain ⟨A, n, c, B, m, d, h1, h2⟩ := h.c5;exact ⟨h.hb, h.hle, h.c1, h.c2, h.c3, h.c4, A, n, c, B, m, d, h1, h2.lt7.mono fun b hb => ⟨hq b hb.1.1 hb.2, hb.1.2⟩⟩
end
def kw (X : Lx) (q : Nat -> Prop) (Q : PS) (w : World) (e : Ending) (w' : World) : Prop := e = .returned (.tuple #[]) /\ aR X (fun b => b < X.w0.heap.size \/ w.heap.size <= b) (bg X Q) w' /\ Kq X w w'
theorem kQ {X : Lx} {q : Nat -> Prop} {Q : PS} {w : World} {e : Ending} {w' : World} (h : kw X q Q w e w') : e = .returned (.tuple #[]) /\ aR X (fun b => b < X.w0.heap.size \/ w.heap.size <= b) (bg X Q) w' /\ Kq X w w' := h
theorem Hq : (Tryz.prog.info? 82).map (·.size) = some 6 := by kernel_rfl
theorem nN (X : Lx) (hx : jD X) (q : Nat -> Prop) (Q : PS) (w : World) (h : aR X q Q w) : Calls Tryz.prog 66 #[.pointer (some ⟨X.pb, 0, none⟩)] w (kw X q Q w) := by
 obtain ⟨t, ht⟩ : ∃ t, t = bP X.L X.S (X.s.drop Q.p) := ⟨_, rfl⟩;obtain ⟨T1, hT1⟩ : ∃ x, x = t.1 := ⟨_, rfl⟩;obtain ⟨K2, hK2⟩ : ∃ x, x = t.2.1.kind := ⟨_, rfl⟩;obtain ⟨A, n, c, B, m, d, e1, e2⟩ := h.c5;obtain ⟨k0, hk0⟩ : ∃ x, x = Q.k := ⟨_, rfl⟩;obtain ⟨s0, hs0⟩ : ∃ x, x = Q.st := ⟨_, rfl⟩;obtain ⟨K0, hK0⟩ : ∃ x, x = Q.x.kind := ⟨_, rfl⟩;rw [<- hk0, <- hs0, <- hK0] at e1;have HNX : Hid (Calls Tryz.prog 97 #[.pointer (some ⟨X.sb, 0, none⟩), .pointer (some ⟨X.ab, 0, none⟩), .pointer (some ⟨X.lb, 0, none⟩), .pointer (some ⟨X.eb, 0, none⟩)] w (l8 X.w0.heap.size X.ab Q.p t w)) := Lh (by rw [ht]; exact Fy X.L X.S X.A X.B X.n X.c X.m X.d X.s Q.p X.sb X.ab X.lb X.eb X.w0 w hx.hs h.hle hx.hn hx.hc hx.hm hx.hS h.hb hx.hL hx.hlt hx.hn60 hx.hT hx.hab h.c1 h.c2 h.c3 h.c4);have hcf := e1.cell (j := 0) rfl;have hen := zK;have HAFT : Hid (∀ e x4, l8 X.w0.heap.size X.ab Q.p t w e x4 -> ∃ A4 n4 c4 B4 m4 d4, e = .returned (.agg #[.int .u8 (T1 : Int), .int .i64 (Q.p : Int), .int .i64 K2, .slice A4 n4 c4, .slice B4 m4 d4]) /\ aa x4 X.pb [.func (.func 97) #[] #[.pointer (some ⟨X.sb, 0, none⟩), .pointer (some ⟨X.ab, 0, none⟩), .pointer (some ⟨X.lb, 0, none⟩), .pointer (some ⟨X.eb, 0, none⟩)], .int .u8 (k0 : Int), .int .i64 (s0 : Int), .int .i64 K0, .slice A n c, .slice B m d] 82 /\ ∀ W, aK x4 W X.pb [.func (.func 97) #[] #[.pointer (some ⟨X.sb, 0, none⟩), .pointer (some ⟨X.ab, 0, none⟩), .pointer (some ⟨X.lb, 0, none⟩), .pointer (some ⟨X.eb, 0, none⟩)], .int .u8 (T1 : Int), .int .i64 (Q.p : Int), .int .i64 K2, .slice A4 n4 c4, .slice B4 m4 d4] 82 -> kw X q Q w (.returned (.tuple #[])) W) := Lh fun e x4 hh => by
  obtain ⟨A4, n4, c4, B4, m4, d4, rfl, g1, g2, g3⟩ := GN hh;have hne := hx.hne;have hk : ∀ b C T, aa w b C T -> X.ab ≠ b -> aa x4 b C T := fun b C T hb hn => (g3.block b hb.lt (fun e => hn (Option.some.inj e).symm)).trans hb
  have hc : ∀ b o, b < w.heap.size -> X.ab ≠ b -> x4.cell? ⟨b, o, none⟩ = w.cell? ⟨b, o, none⟩ := fun b o hb hn => World.cell?_of_block (g3.block b hb (fun e => hn (Option.some.inj e).symm))
  refine ⟨A4, n4, c4, B4, m4, d4, by rw [hT1, hK2], hk _ _ _ e1 hne.1, fun W hst => ⟨rfl, ?_, ?_⟩⟩
  ·have hal := Dg X h.hle;have hbb : Below X.w0.heap.size X.w0 x4 := h.hb.grown g3 h.hb.size (fun g e => by have := Option.some.inj e; have := hx.hab; omega);refine ⟨hst.below hbb hx.hpb, hal.1, hst.cell hne.2.2.1 ((hc _ _ (World.block_lt_of_cell? w _ h.c1) hne.2.1.symm).trans h.c1), ?_, hst.cell hne.2.2.2.2.1 ((hc _ _ (World.block_lt_of_cell? w _ h.c3) hne.2.2.2.1.symm).trans h.c3), hst.cell hne.2.2.2.2.2.2 ((hc _ _ (World.block_lt_of_cell? w _ h.c4) hne.2.2.2.2.2.1.symm).trans h.c4), A4, n4, c4, B4, m4, d4, ?_, ?_⟩
   · show aa W X.ab [.int .i64 ((Q.p + (bP X.L X.S (X.s.drop Q.p)).2.2 : Nat) : Int)] 3;rw [<- ht];exact hst.other g2 hne.1
   · have h9 := hst.1;show aa W X.pb [_, .int .u8 (((bP X.L X.S (X.s.drop Q.p)).1 : Nat) : Int), .int .i64 ((Q.p : Nat) : Int), .int .i64 ((bP X.L X.S (X.s.drop Q.p)).2.1.kind), _, _] 82;rw [<- ht, <- hT1, <- hK2];exact h9
   · show ai _ W (bP X.L X.S (X.s.drop Q.p)).2.1 A4 n4 c4 B4 m4 d4;rw [<- ht];have hpl := e1.lt;have hal2 := h.c2.lt;have hp0 := hx.hpb;have ha0 := hx.hab;exact (g1.grown (bv hst) (fun b hb e => by have := Option.some.inj e; omega)).mono fun b hb => ⟨hb, by omega, by omega⟩
  ·exact ⟨(hst.2.2.2.1).trans g3.os, (hst.2.2.2.2.1).trans g3.tape, (hst.2.2.2.2.2).trans g3.output, by rw [hst.2.2.1]; exact g3.size, fun k hk1 a b => (hst.2.1 k a).trans (g3.block k hk1 (fun e => b (Option.some.inj e)))⟩
 clear hx h e1 e2 ht hT1 hK2 hk0 hs0 hK0;go_enter Tryz.func66, Tryz.ntmps66
 go_wp2_with (first
  |((with_reducible refine HNX.out.mono ?_); rintro e x4 hp; obtain ⟨A4, n4, c4, B4, m4, d4, rfl, g1, g2⟩ := HAFT.out e x4 hp; have H4 := Lh (And.intro g1 g2); clear hp g1 g2)
  |(refine wB rfl 80 (.tmp 9) (.tmp 7) rfl X.pb 1 rfl [.int .u8 (T1 : Int), .int .i64 (Q.p : Int), .int .i64 K2, .slice A4 n4 c4, .slice B4 m4 d4] rfl H4.out.1 5 bG ?_; intro x5 hst5; have HX5 := Lh (H4.out.2 x5 hst5); clear hst5))
 go_end0;exact HX5.out
namespace Rgx
theorem Gt (L : List Lt) (S : List cB) (s : Alp.B) (h0 : (bP L S s).1 ≠ 0) (h1 : (bP L S s).1 ≠ 1) : 1 <= (bP L S s).2.2 := by
 match s with
 |[] => exact absurd rfl h1
 |c :: t =>
  rw [pu] at h0 h1 ⊢
  split at h0
  ·rename_i h; rw [if_pos h]; exact Nat.le_refl _
  ·rename_i g1
   rw [if_neg g1]
   split at h0
   ·rename_i h; rw [if_pos h]; exact Nat.le_refl _
   ·rename_i g2
    rw [if_neg g2]
    split at h0
    ·rename_i h; rw [if_pos h]; exact Nat.le_refl _
    ·rename_i g3
     rw [if_neg g3]
     split at h0
     ·rename_i h; rw [if_pos h]; exact Nat.le_refl _
     ·rename_i g4
      rw [if_neg g4]
      split at h0
      ·rename_i h
       rw [if_pos h];unfold fE at h0 ⊢
       split at h0
       ·exact absurd rfl h0
       ·rename_i a1
        rw [if_neg a1]
        split at h0
        ·rename_i h; rw [if_pos h]; exact Nat.le_succ _
        ·rename_i a2
         rw [if_neg a2]
         cases hX : jy S (((c :: t).drop 1).take ((Lib.indexByte (c :: t) 125).toNat - 1)) with
         |none => rw [hX] at h0; exact absurd rfl h0
         |some i =>
          rw [hX] at h0
          dsimp only at h0 ⊢
          split at h0
          ·rename_i h; rw [if_pos h]; exact Nat.le_add_left _ _
          ·exact absurd rfl h0
      ·rename_i g5
       rw [if_neg g5];unfold jW at h0 ⊢
       split at h0
       ·exact absurd rfl h0
       ·rename_i h; rw [if_neg h]; exact Nat.pos_of_ne_zero h
def dQ (Q : PS) : Prop := Q.st <= Q.p /\ (Q.k ≠ 0 -> Q.k ≠ 1 -> Q.st < Q.p)
theorem dZ (X : Lx) (Q : PS) : dQ (bg X Q) := ⟨Nat.le_add_right _ _, fun h0 h1 => by
 have := Gt X.L X.S (X.s.drop Q.p) h0 h1;show Q.p < Q.p + _;omega⟩
def kC (Q : PS) : PS := ⟨0, Q.x, Q.st, Q.p⟩
inductive PR (X : Lx) : Nat -> List Rx -> PS -> Rx -> PS -> Prop
 |altGo {ks : List Rx} {Q Q1 Q2 : PS} {r x : Rx} : Q.k = 124 -> PR X 1 [] (bg X Q) r Q1 -> PR X 0 (ks ++ [r]) Q1 x Q2 -> PR X 0 ks Q x Q2
 |altEnd {ks : List Rx} {Q : PS} : Q.k ≠ 124 -> PR X 0 ks Q (.mk 4 [] ks) Q
 |seqGo {ks : List Rx} {Q Q0 Q1 Q2 : PS} {a r x : Rx} : Q.k = 2 \/ Q.k = 40 -> PR X 3 [] Q a Q0 -> PR X 2 [a] Q0 r Q1 -> PR X 1 (ks ++ [r]) Q1 x Q2 -> PR X 1 ks Q x Q2
 |seqEnd {ks : List Rx} {Q : PS} : ¬ (Q.k = 2 \/ Q.k = 40) -> PR X 1 ks Q (.mk 3 [] ks) Q
 |star {Q Q2 : PS} {r x : Rx} : Q.k = 42 -> PR X 2 [.mk 5 [] [r]] (bg X Q) x Q2 -> PR X 2 [r] Q x Q2
 |opt {Q Q2 : PS} {r x : Rx} : Q.k = 63 -> PR X 2 [.mk 4 [] [.mk 1 [] [], r]] (bg X Q) x Q2 -> PR X 2 [r] Q x Q2
 |none {Q : PS} {r : Rx} : Q.k ≠ 42 -> Q.k ≠ 63 -> PR X 2 [r] Q r Q
 |atom {Q : PS} : Q.k = 2 -> PR X 3 [] Q Q.x (bg X Q)
 |paren {Q Q0 Q1 : PS} {r x : Rx} : Q.k = 40 -> PR X 1 [] (bg X Q) r Q0 -> PR X 0 [r] Q0 x Q1 -> Q1.k = 41 -> PR X 3 [] Q x (bg X Q1)
 |bad {Q Q0 Q1 : PS} {r x : Rx} : Q.k = 40 -> PR X 1 [] (bg X Q) r Q0 -> PR X 0 [r] Q0 x Q1 -> Q1.k ≠ 41 -> PR X 3 [] Q x (kC Q1)
theorem PR.one {X : Lx} {t : Nat} {ks : List Rx} {Q : PS} {x : Rx} {Q1 : PS} (h : PR X t ks Q x Q1) : ∀ {y : Rx} {Q2 : PS}, PR X t ks Q y Q2 -> x = y /\ Q1 = Q2 := by
 induction h with
 |altGo h1 h2 h3 ih2 ih3 =>
  intro y Q2 h
  cases h with
  |altGo g1 g2 g3 => obtain ⟨rfl, rfl⟩ := ih2 g2; exact ih3 g3
  |altEnd g1 => exact absurd h1 g1
 |altEnd h1 =>
  intro y Q2 h
  cases h with
  |altGo g1 g2 g3 => exact absurd g1 h1
  |altEnd g1 => exact ⟨rfl, rfl⟩
 |seqGo h1 h2 h3 h4 ih2 ih3 ih4 =>
  intro y Q2 h
  cases h with
  |seqGo g1 g2 g3 g4 => obtain ⟨rfl, rfl⟩ := ih2 g2; obtain ⟨rfl, rfl⟩ := ih3 g3; exact ih4 g4
  |seqEnd g1 => exact absurd h1 g1
 |seqEnd h1 =>
  intro y Q2 h
  cases h with
  |seqGo g1 g2 g3 g4 => exact absurd g1 h1
  |seqEnd g1 => exact ⟨rfl, rfl⟩
 |star h1 h2 ih2 =>
  intro y Q2 h
  cases h with
  |star g1 g2 => exact ih2 g2
  |opt g1 g2 => rw [h1] at g1; cases g1
  |none g1 g2 => exact absurd h1 g1
 |opt h1 h2 ih2 =>
  intro y Q2 h
  cases h with
  |star g1 g2 => rw [h1] at g1; cases g1
  |opt g1 g2 => exact ih2 g2
  |none g1 g2 => exact absurd h1 g2
 |none h1 h2 =>
  intro y Q2 h
  cases h with
  |star g1 g2 => exact absurd g1 h1
  |opt g1 g2 => exact absurd g1 h2
  |none g1 g2 => exact ⟨rfl, rfl⟩
 |atom h1 =>
  intro y Q2 h
  cases h with
  |atom g1 => exact ⟨rfl, rfl⟩
  |paren g1 g2 g3 g4 => rw [h1] at g1; cases g1
  |bad g1 g2 g3 g4 => rw [h1] at g1; cases g1
 |paren h1 h2 h3 h4 ih2 ih3 =>
  intro y Q2 h
  cases h with
  |atom g1 => rw [h1] at g1; cases g1
  |paren g1 g2 g3 g4 => obtain ⟨rfl, rfl⟩ := ih2 g2; obtain ⟨rfl, rfl⟩ := ih3 g3; exact ⟨rfl, rfl⟩
  |bad g1 g2 g3 g4 => obtain ⟨rfl, rfl⟩ := ih2 g2; obtain ⟨rfl, rfl⟩ := ih3 g3; exact absurd h4 g4
 |bad h1 h2 h3 h4 ih2 ih3 =>
  intro y Q2 h
  cases h with
  |atom g1 => rw [h1] at g1; cases g1
  |paren g1 g2 g3 g4 => obtain ⟨rfl, rfl⟩ := ih2 g2; obtain ⟨rfl, rfl⟩ := ih3 g3; exact absurd g4 h4
  |bad g1 g2 g3 g4 => obtain ⟨rfl, rfl⟩ := ih2 g2; obtain ⟨rfl, rfl⟩ := ih3 g3; exact ⟨rfl, rfl⟩
theorem PR.mono {X : Lx} {t : Nat} {ks : List Rx} {Q : PS} {x : Rx} {Q1 : PS} (h : PR X t ks Q x Q1) : dQ Q -> dQ Q1 /\ Q.st <= Q1.st := by
 have ha : ∀ Q, (bg X Q).st = Q.p := fun _ => rfl
 have hbd : ∀ Q, (kC Q).st = Q.st := fun _ => rfl
 induction h with
 |altGo h1 h2 h3 ih2 ih3 =>
  intro hq;have g2 := ih2 (dZ X _);have g3 := ih3 g2.1;rw [ha] at g2;exact ⟨g3.1, by have := hq.1; omega⟩
 |altEnd h1 => exact fun hq => ⟨hq, Nat.le_refl _⟩
 |seqGo h1 h2 h3 h4 ih2 ih3 ih4 =>
  intro hq;have g2 := ih2 hq;have g3 := ih3 g2.1;have g4 := ih4 g3.1;exact ⟨g4.1, by omega⟩
 |seqEnd h1 => exact fun hq => ⟨hq, Nat.le_refl _⟩
 |star h1 h2 ih2 =>
  intro hq;have g2 := ih2 (dZ X _);rw [ha] at g2;exact ⟨g2.1, by have := hq.1; omega⟩
 |opt h1 h2 ih2 =>
  intro hq;have g2 := ih2 (dZ X _);rw [ha] at g2;exact ⟨g2.1, by have := hq.1; omega⟩
 |none h1 h2 => exact fun hq => ⟨hq, Nat.le_refl _⟩
 |atom h1 => exact fun hq => ⟨dZ X _, hq.1⟩
 |paren h1 h2 h3 h4 ih2 ih3 =>
  intro hq;have g2 := ih2 (dZ X _);have g3 := ih3 g2.1;rw [ha] at g2;exact ⟨dZ X _, by rw [ha]; have := hq.1; have := g3.1.1; omega⟩
 |bad h1 h2 h3 h4 ih2 ih3 =>
  intro hq;have g2 := ih2 (dZ X _);have g3 := ih3 g2.1;rw [ha] at g2;refine ⟨⟨g3.1.1, fun h => absurd rfl h⟩, ?_⟩;rw [hbd];have := hq.1;omega
theorem PR.atom_lt {X : Lx} {Q : PS} {x : Rx} {Q1 : PS} (h : PR X 3 [] Q x Q1) (hk : Q.k = 2 \/ Q.k = 40) (hq : dQ Q) : Q.st < Q1.st := by
 have hp : Q.st < Q.p := hq.2 (by omega) (by omega);have ha : ∀ Q, (bg X Q).st = Q.p := fun _ => rfl
 have hbd : ∀ Q, (kC Q).st = Q.st := fun _ => rfl
 cases h with
 |atom h1 => exact hp
 |paren h1 h2 h3 h4 =>
  have g2 := h2.mono (dZ X _);have g3 := h3.mono g2.1;have := g3.1.1;rw [ha] at g2 ⊢;omega
 |bad h1 h2 h3 h4 =>
  have g2 := h2.mono (dZ X _);have g3 := h3.mono g2.1;rw [ha] at g2;rw [hbd];omega
def eH (X : Lx) (Q : PS) (x : Rx) (Q1 : PS) : Prop := ∃ r Q0, PR X 1 [] Q r Q0 /\ PR X 0 [r] Q0 x Q1
def lg (X : Lx) (Q : PS) (x : Rx) (Q1 : PS) : Prop := PR X 1 [] Q x Q1
def nT (X : Lx) (Q : PS) (x : Rx) (Q1 : PS) : Prop := ∃ a Q0, PR X 3 [] Q a Q0 /\ PR X 2 [a] Q0 x Q1
def jf (X : Lx) (Q : PS) (x : Rx) (Q1 : PS) : Prop := PR X 3 [] Q x Q1
end Rgx
def dM (R : Lx -> PS -> Rx -> PS -> Prop) (X : Lx) (q : Nat -> Prop) (Q : PS) (w : World) (e : Ending) (w' : World) : Prop := ∃ r Q1 A n c B m d, e = .returned (.agg #[.int .i64 r.kind, .slice A n c, .slice B m d]) /\ R X Q r Q1 /\ ai (fun b => (q b \/ w.heap.size <= b) /\ b ≠ X.pb /\ b ≠ X.ab) w' r A n c B m d /\ aR X (fun b => q b \/ w.heap.size <= b) Q1 w' /\ Kq X w w'
theorem kX {R : Lx -> PS -> Rx -> PS -> Prop} {X : Lx} {q : Nat -> Prop} {Q : PS} {w : World} {e : Ending} {w' : World} (h : dM R X q Q w e w') : ∃ r Q1 A n c B m d, e = .returned (.agg #[.int .i64 r.kind, .slice A n c, .slice B m d]) /\ R X Q r Q1 /\ ai (fun b => (q b \/ w.heap.size <= b) /\ b ≠ X.pb /\ b ≠ X.ab) w' r A n c B m d /\ aR X (fun b => q b \/ w.heap.size <= b) Q1 w' /\ Kq X w w' := h
namespace Rgx
theorem ai.kq {X : Lx} {p : Nat -> Prop} {w w1 : World} {r : Rx} {A B : Option Addr} {n c m d : Nat} (h : ai p w r A n c B m d) (hk : Kq X w w1) (hp : ∀ b, p b -> b ≠ X.pb /\ b ≠ X.ab) : ai p w1 r A n c B m d :=
 (h.lt7.keep (W := w1) fun b o hb => hk.cell hb.2 (hp b hb.1).1 (hp b hb.1).2).mono fun b hb => hb.1
end Rgx
theorem aR.lts {X : Lx} {q : Nat -> Prop} {Q : PS} {w : World} (h : aR X q Q w) : X.w0.heap.size <= w.heap.size /\ X.pb < w.heap.size /\ X.ab < w.heap.size /\ X.sb < w.heap.size /\ X.lb < w.heap.size /\ X.eb < w.heap.size := by
 obtain ⟨A, n, c, B, m, d, e1, e2⟩ := h.c5;exact ⟨h.hb.size, e1.lt, h.c2.lt, World.block_lt_of_cell? w _ h.c1, World.block_lt_of_cell? w _ h.c3, World.block_lt_of_cell? w _ h.c4⟩
theorem aR.stored {X : Lx} {q : Nat -> Prop} {Q : PS} {w W W1 : World} {G : Nat} {D : List Value} {T : TypeId} (h0 : X.w0.heap.size <= w.heap.size /\ X.pb < w.heap.size /\ X.ab < w.heap.size /\ X.sb < w.heap.size /\ X.lb < w.heap.size /\ X.eb < w.heap.size) (h : aR X q Q W) (hG : w.heap.size <= G) (hst : aK W W1 G D T) (hq : ∀ b, q b -> b ≠ G) : aR X q Q W1 := h.grown (bv hst) (by omega) (by omega) (by omega) (by omega) (by omega) (by omega) hq
theorem Kq.stored {X : Lx} {w W W1 : World} {G : Nat} {D : List Value} {T : TypeId} (h : Kq X w W) (hG : w.heap.size <= G) (hst : aK W W1 G D T) : Kq X w W1 := ⟨hst.2.2.2.1.trans h.os, hst.2.2.2.2.1.trans h.tape, hst.2.2.2.2.2.trans h.output, by rw [hst.2.2.1]; exact h.size, fun k hk a b => (hst.2.1 k (by omega)).trans (h.block k hk a b)⟩
def lw (X : Lx) (N : Nat) : Prop := ∀ (q : Nat -> Prop) (Q : PS) (w : World), (∀ b, b < X.w0.heap.size -> q b) -> aR X q Q w -> dQ Q -> X.s.length - Q.st < N -> Calls Tryz.prog 67 #[.pointer (some ⟨X.pb, 0, none⟩)] w (dM eH X q Q w)
theorem wK {X : Lx} {N : Nat} (h : lw X N) {q : Nat -> Prop} {Q : PS} {w : World} (h1 : ∀ b, b < X.w0.heap.size -> q b) (h2 : aR X q Q w) (h3 : dQ Q) (h4 : X.s.length - Q.st < N) : Calls Tryz.prog 67 #[.pointer (some ⟨X.pb, 0, none⟩)] w (dM eH X q Q w) := h q Q w h1 h2 h3 h4
theorem Eo (X : Lx) (hx : jD X) (q : Nat -> Prop) (Q : PS) (w : World) (hq0 : ∀ b, b < X.w0.heap.size -> q b) (h : aR X q Q w) (hk : Q.k = 2) : Calls Tryz.prog 155 #[.pointer (some ⟨X.pb, 0, none⟩)] w (dM jf X q Q w) := by
 obtain ⟨A, n, c, B, m, d, e1, e2⟩ := h.c5;rw [hk] at e1;obtain ⟨s0, hs0⟩ : ∃ x, x = Q.st := ⟨_, rfl⟩;obtain ⟨K, hK⟩ : ∃ x, x = Q.x.kind := ⟨_, rfl⟩;rw [<- hs0, <- hK] at e1;have hlt := h.lts;have hb1 : aa (w.alloc zR) w.heap.size zL 25 := aa.at w zL _ 25 _ rfl rfl;have hb2 : aa ((w.alloc zR).alloc zR) (w.heap.size + 1) zL 25 := aa.at (w.alloc zR) zL _ 25 _ rfl (by simp);have hs1 : (w.alloc zR).heap.size = w.heap.size + 1 := by simp
 have hs2 : ((w.alloc zR).alloc zR).heap.size = w.heap.size + 1 + 1 := by simp
 have hbb1 : Below w.heap.size w (w.alloc zR) := ag _ _;have hbb2 : Below w.heap.size w ((w.alloc zR).alloc zR) := aB hbb1 _;have hck := (e1.below hbb1 e1.lt).cell (j := 1) rfl;have hr1 : (w.alloc zR).rangeAt X.pb 3 (zV K A n c B m d) := (e1.below hbb1 e1.lt).range 3 3;have HZ2 := Lh hb2;have HST3 : Hid (∀ W, aK ((w.alloc zR).alloc zR) W (w.heap.size + 1) (zV K A n c B m d) 25 -> aR X q Q W /\ Kq X w W /\ aa W (w.heap.size + 1) (zV K A n c B m d) 25 /\ aa W w.heap.size zL 25 /\ W.heap.size = w.heap.size + 1 + 1 /\ Below w.heap.size w W) := Lh fun W hst => by
  have hbw := hst.below hbb2 (by omega);exact ⟨h.below hbw, Kq.of_below hbw, hst.1, hst.other (hb1.alloc _) (by omega), by rw [hst.2.2.1, hs2], hbw⟩
 have HADV : Hid (∀ W, aR X q Q W -> Calls Tryz.prog 66 #[.pointer (some ⟨X.pb, 0, none⟩)] W (kw X q Q W)) := Lh fun W hp => nN X hx q Q W hp
 have HFIN : Hid (∀ W3 W4, Below w.heap.size w W3 -> aa W3 (w.heap.size + 1) (zV K A n c B m d) 25 -> aa W3 w.heap.size zL 25 -> W3.heap.size = w.heap.size + 1 + 1 -> aR X (fun b => b < X.w0.heap.size \/ W3.heap.size <= b) (bg X Q) W4 -> Kq X W3 W4 -> W4.rangeAt (w.heap.size + 1) 0 (zV K A n c B m d) /\ aa W4 w.heap.size zL 25 /\ ∀ W5, aK W4 W5 w.heap.size (zV K A n c B m d) 25 -> dM jf X q Q w (.returned (.agg #[.int .i64 K, .slice A n c, .slice B m d])) W5 /\ aa W5 w.heap.size (zV K A n c B m d) 25) := Lh fun W3 W4 hbw hr hz hsz hp hkq => by
  have hz4 := hkq.blk hz (by omega) (by omega);have hr4 := hkq.blk hr (by omega) (by omega);refine ⟨fun j u hu => by rw [Nat.zero_add]; exact hr4.cell hu, hz4, fun W5 hst => ⟨⟨Q.x, bg X Q, A, n, c, B, m, d, by rw [hK], .atom hk, ?_, ?_, ?_⟩, hst.1⟩⟩
  ·have r3 := e2.lt7.below hbw;have r4 := r3.kq hkq (fun b hb => hb.1.2);exact (r4.grown (bv hst) (fun b hb e => by have := Option.some.inj e; omega)).mono fun b hb => ⟨.inl hb.1.1, hb.1.2⟩
  ·exact (aR.stored hlt hp (Nat.le_refl _) hst (fun b hb => by omega)).mono fun b hb _ => by
     rcases hb with hb | hb
     ·exact .inl (hq0 b hb)
     ·exact .inr (by omega)
  ·exact ((Kq.of_below hbw).tr hkq).stored (Nat.le_refl _) hst
 clear hx hq0 h hk e1 e2 hs0 hK hlt hb1 hb2 hs1 hs2 hbb1 hbb2;go_enter Tryz.func155, Tryz.ntmps155
 go_wp2_with (first
  |(refine aA rfl (.tmp 14) rfl X.pb (3) rfl K A B n c m d hr1 ?_)
  |(refine aA rfl (.tmp 3) rfl (w.heap.size + 1) (0) rfl K A B n c m d hr4 ?_)
  |(refine wB rfl 25 (.tmp 3) (.tmp 15) rfl (w.heap.size + 1) 0 rfl (zV K A n c B m d) rfl HZ2.out 3 au ?_; intro x3 hst3; have H3 := Lh (HST3.out x3 hst3); clear hst3)
  |((with_reducible refine (HADV.out _ H3.out.1).mono ?_); rintro e x4 hp; obtain ⟨rfl, g1, g2⟩ := kQ hp; have H4 := Lh (HFIN.out x3 x4 H3.out.2.2.2.2.2 H3.out.2.2.1 H3.out.2.2.2.1 H3.out.2.2.2.2.1 g1 g2); have hr4 := H4.out.1; clear hp g1 g2)
  |(refine wB rfl 25 (.tmp 2) (.tmp 18) rfl w.heap.size 0 rfl (zV K A n c B m d) rfl H4.out.2.1 3 au ?_; intro x5 hst5; have HX5 := Lh (H4.out.2.2 x5 hst5); clear hst5))
 exact bM rfl w.heap.size rfl (C := (zV K A n c B m d)) (T := 25) HX5.out.2 _ Tryz.underlying25 rfl au rfl HX5.out.1
theorem EH (X : Lx) (hx : jD X) (N : Nat) (HA : lw X N) (q : Nat -> Prop) (Q : PS) (w : World) (hq0 : ∀ b, b < X.w0.heap.size -> q b) (h : aR X q Q w) (hk : Q.k = 40) (hok : dQ Q) (hN : X.s.length - Q.st < N + 1) : Calls Tryz.prog 155 #[.pointer (some ⟨X.pb, 0, none⟩)] w (dM jf X q Q w) := by
 have hlt := h.lts;have hpst : Q.st < Q.p := hok.2 (by omega) (by omega);have hple := h.hle;have hs1 : (w.alloc zR).heap.size = w.heap.size + 1 := by simp
 have hbb1 : Below w.heap.size w (w.alloc zR) := ag _ _;have hb1 : aa (w.alloc zR) w.heap.size zL 25 := aa.at w zL _ 25 _ rfl rfl;have HADV : Hid (∀ q Q W, aR X q Q W -> Calls Tryz.prog 66 #[.pointer (some ⟨X.pb, 0, none⟩)] W (kw X q Q W)) := Lh fun q Q W hp => nN X hx q Q W hp
 have HAD1 := Lh (HADV.out q Q (w.alloc zR) (h.below hbb1));have HALT : Hid (∀ w2, aR X (fun b => b < X.w0.heap.size \/ (w.alloc zR).heap.size <= b) (bg X Q) w2 -> Kq X (w.alloc zR) w2 -> Calls Tryz.prog 67 #[.pointer (some ⟨X.pb, 0, none⟩)] w2 (dM eH X (fun b => b < X.w0.heap.size \/ w.heap.size + 1 <= b) (bg X Q) w2)) := Lh fun w2 hp hkq => by
  rw [hs1] at hp;exact wK HA (fun b hb => .inl hb) hp (dZ X Q) (by show X.s.length - Q.p < N; omega)
 have HGOT : Hid (∀ w2 e w3, aR X (fun b => b < X.w0.heap.size \/ (w.alloc zR).heap.size <= b) (bg X Q) w2 -> Kq X (w.alloc zR) w2 -> dM eH X (fun b => b < X.w0.heap.size \/ w.heap.size + 1 <= b) (bg X Q) w2 e w3 -> ∃ r Q1 A4 n4 c4 B4 m4 d4, e = .returned (.agg #[.int .i64 r.kind, .slice A4 n4 c4, .slice B4 m4 d4]) /\ eH X (bg X Q) r Q1 /\ ai (fun b => ((fun b => b < X.w0.heap.size \/ w.heap.size + 1 <= b) b \/ w2.heap.size <= b) /\ b ≠ X.pb /\ b ≠ X.ab) w3 r A4 n4 c4 B4 m4 d4 /\ aR X (fun b => (fun b => b < X.w0.heap.size \/ w.heap.size + 1 <= b) b \/ w2.heap.size <= b) Q1 w3 /\ Kq X (w.alloc zR) w3 /\ w.heap.size + 1 <= w2.heap.size /\ w2.heap.size <= w3.heap.size) := Lh fun w2 e w3 hp hkq hh => by
  obtain ⟨r, Q1, A4, n4, c4, B4, m4, d4, rfl, g1, g2, g3, g4⟩ := kX hh;exact ⟨r, Q1, A4, n4, c4, B4, m4, d4, rfl, g1, g2, g3, hkq.tr g4, by have := hkq.size; omega, g4.size⟩
 have HST5 : Hid (∀ (w2 w3 : World) (r : Rx) (Q1 : PS) (A4 : Option Addr) (n4 c4 : Nat) (B4 : Option Addr) (m4 d4 : Nat), eH X (bg X Q) r Q1 /\ ai (fun b => ((fun b => b < X.w0.heap.size \/ w.heap.size + 1 <= b) b \/ w2.heap.size <= b) /\ b ≠ X.pb /\ b ≠ X.ab) w3 r A4 n4 c4 B4 m4 d4 /\ aR X (fun b => (fun b => b < X.w0.heap.size \/ w.heap.size + 1 <= b) b \/ w2.heap.size <= b) Q1 w3 /\ Kq X (w.alloc zR) w3 /\ w.heap.size + 1 <= w2.heap.size /\ w2.heap.size <= w3.heap.size -> aa (w3.alloc zR) w3.heap.size zL 25 /\ ∀ W5, aK (w3.alloc zR) W5 w3.heap.size (zV r.kind A4 n4 c4 B4 m4 d4) 25 -> aR X (fun b => (fun b => b < X.w0.heap.size \/ w.heap.size + 1 <= b) b \/ w2.heap.size <= b) Q1 W5 /\ Kq X (w.alloc zR) W5 /\ aa W5 w3.heap.size (zV r.kind A4 n4 c4 B4 m4 d4) 25 /\ ai (fun b => ((fun b => b < X.w0.heap.size \/ w.heap.size + 1 <= b) b \/ w2.heap.size <= b) /\ b ≠ X.pb /\ b ≠ X.ab) W5 r A4 n4 c4 B4 m4 d4 /\ (∃ v u1 u2 u3 u4, aa W5 X.pb [v, .int .u8 (Q1.k : Int), u1, u2, u3, u4] 82) /\ w3.heap.size < W5.heap.size) := Lh fun w2 w3 r Q1 A4 n4 c4 B4 m4 d4 hg => by
  obtain ⟨g1, g2, g3, g4, g5, g6⟩ := hg;refine ⟨aa.at w3 zL _ 25 _ rfl rfl, fun W5 hst => ?_⟩;have hb5 : Below w3.heap.size w3 W5 := hst.below (ag w3 _) (Nat.le_refl _);have hp5 := g3.below hb5;obtain ⟨A, n, c, B, m, d, e1, e2⟩ := hp5.c5;exact ⟨hp5, g4.tr (Kq.of_below hb5), hst.1, g2.below hb5, ⟨_, _, _, _, _, e1⟩, hst.1.lt⟩
 have HEND : Hid (∀ (w2 w3 : World) (r : Rx) (Q1 : PS) (A4 : Option Addr) (n4 c4 : Nat) (B4 : Option Addr) (m4 d4 : Nat) W6 W7 Q7, eH X (bg X Q) r Q1 /\ ai (fun b => ((fun b => b < X.w0.heap.size \/ w.heap.size + 1 <= b) b \/ w2.heap.size <= b) /\ b ≠ X.pb /\ b ≠ X.ab) w3 r A4 n4 c4 B4 m4 d4 /\ aR X (fun b => (fun b => b < X.w0.heap.size \/ w.heap.size + 1 <= b) b \/ w2.heap.size <= b) Q1 w3 /\ Kq X (w.alloc zR) w3 /\ w.heap.size + 1 <= w2.heap.size /\ w2.heap.size <= w3.heap.size -> jf X Q r Q7 -> ai (fun b => ((fun b => b < X.w0.heap.size \/ w.heap.size + 1 <= b) b \/ w2.heap.size <= b) /\ b ≠ X.pb /\ b ≠ X.ab) W6 r A4 n4 c4 B4 m4 d4 -> aR X (fun b => b < X.w0.heap.size \/ w.heap.size + 1 <= b) Q7 W6 -> Kq X (w.alloc zR) W6 -> aa W6 w.heap.size zL 25 /\ (aK W6 W7 w.heap.size (zV r.kind A4 n4 c4 B4 m4 d4) 25 -> dM jf X q Q w (.returned (.agg #[.int .i64 r.kind, .slice A4 n4 c4, .slice B4 m4 d4])) W7 /\ aa W7 w.heap.size (zV r.kind A4 n4 c4 B4 m4 d4) 25)) := Lh fun w2 w3 r Q1 A4 n4 c4 B4 m4 d4 W6 W7 Q7 hg hr hrx hp hkq => by
  obtain ⟨g1, g2, g3, g4, g5, g6⟩ := hg;refine ⟨hkq.blk hb1 (by omega) (by omega), fun hst => ⟨⟨r, Q7, A4, n4, c4, B4, m4, d4, rfl, hr, ?_, ?_, ?_⟩, hst.1⟩⟩
  ·exact (hrx.grown (bv hst) (fun b hb e => by have := Option.some.inj e; omega)).mono fun b hb => ⟨by
     rcases hb.1 with (hb | hb) | hb
     · exact .inl (hq0 b hb)
     · exact .inr (by omega)
     · exact .inr (by omega), hb.2⟩
  ·exact (aR.stored hlt hp (Nat.le_refl _) hst (fun b hb => by omega)).mono fun b hb _ => by
     rcases hb with hb | hb
     · exact .inl (hq0 b hb)
     · exact .inr (by omega)
  ·exact ((Kq.of_below hbb1).tr hkq).stored (Nat.le_refl _) hst
 have HX := Lh (And.intro hk hlt);have HNX : Hid (X.w0.heap.size <= X.pb /\ X.sb ≠ X.pb /\ X.ab ≠ X.pb /\ X.lb ≠ X.pb /\ X.eb ≠ X.pb) := Lh ⟨hx.hpb, hx.hne.2.2.1, hx.hne.1, hx.hne.2.2.2.2.1, hx.hne.2.2.2.2.2.2⟩;obtain ⟨A, n, c, B, m, d, e1, e2⟩ := h.c5;have hck := (e1.below hbb1 e1.lt).cell (j := 1) rfl;rw [hk] at hck;clear hx HA hq0 h hk e1 e2 hok hN hlt hpst hple hs1 hbb1 hb1;go_enter Tryz.func155, Tryz.ntmps155
 go_upto_region 7 with (first
  |((with_reducible refine HAD1.out.mono ?_); rintro e w2 hp; obtain ⟨rfl, g1, g2⟩ := kQ hp; have H2 := Lh (And.intro g1 g2); have HAL := Lh (HALT.out w2 g1 g2); clear hp g1 g2)
  |((with_reducible refine HAL.out.mono ?_); rintro e w3 hp; obtain ⟨r, Q1, A4, n4, c4, B4, m4, d4, rfl, hg⟩ := HGOT.out w2 e w3 H2.out.1 H2.out.2 hp; have H3 := Lh hg; have H4 := Lh (HST5.out w2 w3 r Q1 A4 n4 c4 B4 m4 d4 hg); clear hp hg)
  |(refine wB rfl 25 (.tmp 4) (.tmp 22) rfl w3.heap.size 0 rfl (zV r.kind A4 n4 c4 B4 m4 d4) rfl H4.out.1 3 au ?_; intro x5 hst5; have H5 := Lh (H4.out.2 x5 hst5); clear hst5))
 (try simp only [Act.put]);obtain ⟨fv, u1, u2, u3, u4, hpb⟩ := H5.out.2.2.2.2.1;have HPB := Lh hpb;have hck5 := hpb.cell (j := 1) rfl;clear hpb hck;obtain ⟨k1, hk1⟩ : ∃ k, k = Q1.k := ⟨_, rfl⟩;rw [<- hk1] at hck5;have HK1 := Lh hk1
 by_cases h41 : k1 = 41
 ·have HADX := Lh (HADV.out _ Q1 x5 H5.out.1);have HAFT : Hid (∀ x6, aR X (fun b => b < X.w0.heap.size \/ x5.heap.size <= b) (bg X Q1) x6 -> Kq X x5 x6 -> x6.rangeAt w3.heap.size 0 (zV r.kind A4 n4 c4 B4 m4 d4) /\ aa x6 w.heap.size zL 25 /\ ∀ W7, aK x6 W7 w.heap.size (zV r.kind A4 n4 c4 B4 m4 d4) 25 -> dM jf X q Q w (.returned (.agg #[.int .i64 r.kind, .slice A4 n4 c4, .slice B4 m4 d4])) W7 /\ aa W7 w.heap.size (zV r.kind A4 n4 c4 B4 m4 d4) 25) := Lh fun x6 hp hkq => by
   have hlt := HX.out.2;have h5 := H5.out;have hg := H3.out;have hr6 := hkq.blk h5.2.2.1 (by have := hg.2.2.2.2; omega) (by have := hg.2.2.2.2; omega);have hrx6 := h5.2.2.2.1.kq hkq (fun b hb => hb.2);have hp6 : aR X (fun b => b < X.w0.heap.size \/ w.heap.size + 1 <= b) (bg X Q1) x6 := hp.mono fun b hb _ => hb.imp id fun h => by have := hg.2.2.2.2; have := h5.2.2.2.2.2; omega
   obtain ⟨a1, a2, a3, a4⟩ := hg.1;have hat : jf X Q r (bg X Q1) := .paren HX.out.1 a3 a4 (by rw [<- HK1.out]; exact h41);have h9 := fun W7 => HEND.out w2 w3 r Q1 A4 n4 c4 B4 m4 d4 x6 W7 (bg X Q1) hg hat hrx6 hp6 (h5.2.1.tr hkq)
   exact ⟨fun j u hu => by rw [Nat.zero_add]; exact hr6.cell hu, (h9 x6).1, fun W7 => (h9 W7).2⟩
  subst h41;clear hk1
  go_wp2_with (first
   | (refine aA rfl (.tmp 4) rfl w3.heap.size (0) rfl r.kind A4 B4 n4 c4 m4 d4 hr6 ?_)
   | ((with_reducible refine HADX.out.mono ?_); rintro e x6 hp; obtain ⟨rfl, g1, g2⟩ := kQ hp; have H6 := Lh (HAFT.out x6 g1 g2); have hr6 := H6.out.1; clear hp g1 g2)
   | (refine wB rfl 25 (.tmp 2) (.tmp 36) rfl w.heap.size 0 rfl (zV r.kind A4 n4 c4 B4 m4 d4) rfl H6.out.2.1 3 au ?_; intro x7 hst7; have HX7 := Lh (H6.out.2.2 x7 hst7); clear hst7))
  exact bM rfl w.heap.size rfl (C := (zV r.kind A4 n4 c4 B4 m4 d4)) (T := 25) HX7.out.2 _ Tryz.underlying25 rfl au rfl HX7.out.1
 ·have e1 : ((k1 : Int) != 41) = true := by simp; omega
  have e2 : ((k1 : Int) == 41) = false := bF (by omega);have hfr : x5.frozen? ⟨X.pb, 1, none⟩ = false := HPB.out.frozen 1;have HAFT : Hid (∀ x6, x6 = x5.setCell ⟨X.pb, 1, none⟩ (.int .u8 0) -> x6.rangeAt w3.heap.size 0 (zV r.kind A4 n4 c4 B4 m4 d4) /\ aa x6 w.heap.size zL 25 /\ ∀ W7, aK x6 W7 w.heap.size (zV r.kind A4 n4 c4 B4 m4 d4) 25 -> dM jf X q Q w (.returned (.agg #[.int .i64 r.kind, .slice A4 n4 c4, .slice B4 m4 d4])) W7 /\ aa W7 w.heap.size (zV r.kind A4 n4 c4 B4 m4 d4) 25) := Lh fun x6 hx6 => by
   have hlt := HX.out.2;have h5 := H5.out;have hg := H3.out;obtain ⟨A, n, c, B, m, d, e1, e2⟩ := h5.1.c5;have hst := aK.of_setCell e1 1 (.int .u8 0);rw [<- hx6] at hst;have hr6 := hst.other h5.2.2.1 (by have := hg.2.2.2.2; omega);have hrx6 := h5.2.2.2.1.grown (bv hst) (fun b hb e => hb.2.1 (Option.some.inj e));have hc := h5.1;have hx0 := HNX.out;have hp6 : aR X (fun b => b < X.w0.heap.size \/ w.heap.size + 1 <= b) (kC Q1) x6 := by
     refine ⟨hst.below hc.hb (hx0.1), hc.hle, hst.cell hx0.2.1 hc.c1, hst.other hc.c2 hx0.2.2.1, hst.cell hx0.2.2.2.1 hc.c3, hst.cell hx0.2.2.2.2 hc.c4, A, n, c, B, m, d, hst.1, ?_⟩;exact (e2.grown (bv hst) (fun b hb e => hb.2.1 (Option.some.inj e))).mono fun b hb => ⟨by
       rcases hb.1 with (h | h) | h
       ·exact .inl h
       ·exact .inr h
       ·exact .inr (by have := hg.2.2.2.2; omega), hb.2⟩
   obtain ⟨a1, a2, a3, a4⟩ := hg.1;have hat : jf X Q r (kC Q1) := .bad HX.out.1 a3 a4 (by rw [<- HK1.out]; exact h41);have hkq : Kq X x5 x6 := ⟨hst.2.2.2.1, hst.2.2.2.2.1, hst.2.2.2.2.2, by rw [hst.2.2.1]; exact Nat.le_refl _, fun k _ a _ => hst.2.1 k a⟩;have h9 := fun W7 => HEND.out w2 w3 r Q1 A4 n4 c4 B4 m4 d4 x6 W7 (kC Q1) hg hat hrx6 hp6 (h5.2.1.tr hkq)
   exact ⟨fun j u hu => by rw [Nat.zero_add]; exact hr6.cell hu, (h9 x6).1, fun W7 => (h9 W7).2⟩
  clear hk1
  go_upto_region 9 with fail
  obtain ⟨x6, hx6⟩ : ∃ W, W = x5.setCell ⟨X.pb, 1, none⟩ (.int .u8 0) := ⟨_, rfl⟩;rw [<- hx6];have H6 := Lh (HAFT.out x6 hx6);have hr6 := H6.out.1;clear hx6 hck5 hfr
  go_wp2_with (first
   | (refine aA rfl (.tmp 4) rfl w3.heap.size (0) rfl r.kind A4 B4 n4 c4 m4 d4 hr6 ?_)
   | (refine wB rfl 25 (.tmp 2) (.tmp 33) rfl w.heap.size 0 rfl (zV r.kind A4 n4 c4 B4 m4 d4) rfl H6.out.2.1 3 au ?_; intro x7 hst7; have HX7 := Lh (H6.out.2.2 x7 hst7); clear hst7))
  exact bM rfl w.heap.size rfl (C := (zV r.kind A4 n4 c4 B4 m4 d4)) (T := 25) HX7.out.2 _ Tryz.underlying25 rfl au rfl HX7.out.1
theorem jm {q : Nat -> Prop} {w : World} {g : Nat} {rs : List Rx} {xs : List Value} {T : TypeId} (k : Int) (hk : bI k) (h : aG q w xs rs) (hl : rs.length <= 1000000000) (hb : aa w g xs T) (hq : q g) : ai q w (.mk k [] rs) none 0 0 (some ⟨g, 0, none⟩) rs.length rs.length :=
 ai.make hk (fun x hx => (by cases hx)) rfl (Nat.le_refl _) (Nat.zero_le _) (.inl rfl) (fun h => absurd rfl h) rfl (Nat.le_refl _) (by unfold maxLen; omega) (aG.e h fun j v hv => by rw [Nat.zero_add]; exact hb.cell hv) (fun _ b o e => by
  obtain ⟨rfl, rfl⟩ : g = b /\ 0 = o := by simpa using e
  exact hq)
theorem Er (X : Lx) (hx : jD X) (N : Nat) (HA : lw X N) (q : Nat -> Prop) (Q : PS) (w : World) (hq0 : ∀ b, b < X.w0.heap.size -> q b) (h : aR X q Q w) (hk : Q.k = 2 \/ Q.k = 40) (hok : dQ Q) (hN : X.s.length - Q.st < N + 1) : Calls Tryz.prog 155 #[.pointer (some ⟨X.pb, 0, none⟩)] w (dM jf X q Q w) := by
 rcases hk with hk | hk
 ·exact Eo X hx q Q w hq0 h hk
 ·exact EH X hx N HA q Q w hq0 h hk hok hN
theorem FY (X : Lx) (hx : jD X) (N : Nat) (HA : lw X N) (q : Nat -> Prop) (Q : PS) (w : World) (hq0 : ∀ b, b < X.w0.heap.size -> q b) (hqw : ∀ b, q b -> b < w.heap.size) (h : aR X q Q w) (hk : Q.k = 2 \/ Q.k = 40) (hok : dQ Q) (hN : X.s.length - Q.st < N + 1) : Calls Tryz.prog 130 #[.pointer (some ⟨X.pb, 0, none⟩)] w (dM nT X q Q w) := by
 have hlt := h.lts;have hs1 : (w.alloc zR).heap.size = w.heap.size + 1 := by simp
 have hbb1 : Below w.heap.size w (w.alloc zR) := ag _ _;have hb1 : aa (w.alloc zR) w.heap.size zL 25 := aa.at w zL _ 25 _ rfl rfl;have HADV : Hid (∀ q Q W, aR X q Q W -> Calls Tryz.prog 66 #[.pointer (some ⟨X.pb, 0, none⟩)] W (kw X q Q W)) := Lh fun q Q W hp => nN X hx q Q W hp
 have HATM : Hid (Calls Tryz.prog 155 #[.pointer (some ⟨X.pb, 0, none⟩)] (w.alloc zR) (dM jf X q Q (w.alloc zR))) := Lh (Er X hx N HA q Q (w.alloc zR) hq0 (h.below hbb1) hk hok hN);have HX := Lh (And.intro hlt (And.intro hq0 (And.intro hqw hok)));have HST : Hid (∀ w2 r Q1 A4 n4 c4 B4 m4 d4, jf X Q r Q1 -> ai (fun b => (q b \/ (w.alloc zR).heap.size <= b) /\ b ≠ X.pb /\ b ≠ X.ab) w2 r A4 n4 c4 B4 m4 d4 -> aR X (fun b => q b \/ (w.alloc zR).heap.size <= b) Q1 w2 -> Kq X (w.alloc zR) w2 -> aa (w2.alloc zR) w2.heap.size zL 25 /\ ∀ W, aK (w2.alloc zR) W w2.heap.size (zV r.kind A4 n4 c4 B4 m4 d4) 25 -> (∃ a Q0, PR X 3 [] Q a Q0 /\ ∀ x Q2, PR X 2 [r] Q1 x Q2 -> PR X 2 [a] Q0 x Q2) /\ ai (fun b => (fun b => (q b \/ w.heap.size + 1 <= b) /\ b ≠ w2.heap.size) b /\ b ≠ X.pb /\ b ≠ X.ab) W r A4 n4 c4 B4 m4 d4 /\ aR X (fun b => (q b \/ w.heap.size + 1 <= b) /\ b ≠ w2.heap.size) Q1 W /\ Kq X (w.alloc zR) W /\ aa W w2.heap.size (zV r.kind A4 n4 c4 B4 m4 d4) 25 /\ dQ Q1 /\ w2.heap.size < W.heap.size) := Lh fun w2 r Q1 A4 n4 c4 B4 m4 d4 g1 g2 g3 g4 => by
  rw [hs1] at g2 g3;refine ⟨aa.at w2 zL _ 25 _ rfl rfl, fun W hst => ?_⟩;have hb5 : Below w2.heap.size w2 W := hst.below (ag w2 _) (Nat.le_refl _);have hpm := (PR.mono g1 hok).1;exact ⟨⟨r, Q1, g1, fun x Q2 hh => hh⟩, (g2.lt7.below hb5).mono fun b hb => ⟨⟨hb.1.1, by omega⟩, hb.1.2⟩, (g3.mono (q2 := (fun b => (q b \/ w.heap.size + 1 <= b) /\ b ≠ w2.heap.size)) fun b hb hbl => ⟨hb, by omega⟩).below hb5, g4.tr (Kq.of_below hb5), hst.1, hpm, hst.1.lt⟩
 have HB1 := Lh hb1;clear hx HA hq0 hqw h hk hok hN hlt hs1 hbb1 hb1;go_enter Tryz.func130, Tryz.ntmps130
 go_wp2_with (first
  |((with_reducible refine HATM.out.mono ?_); rintro e w2 hp; obtain ⟨r, Q1, A4, n4, c4, B4, m4, d4, rfl, g1, g2, g3, g4⟩ := kX hp; have HS2 := Lh (HST.out w2 r Q1 A4 n4 c4 B4 m4 d4 g1 g2 g3 g4); have HK2 := Lh g4.size; clear hp g1 g2 g3 g4)
  |(refine wB rfl 25 (.tmp 3) (.tmp 5) rfl w2.heap.size 0 rfl (zV r.kind A4 n4 c4 B4 m4 d4) rfl HS2.out.1 3 au ?_; intro x5 hst5; have H5 := Lh (HS2.out.2 x5 hst5); clear hst5))
 try simp only [Act.put]
 go_loopg [10] (X.s.length + 1) (fun gq s10 wr => ∃ (r : Rx) (Q1 : PS) (A4 : Option Addr) (n4 c4 : Nat) (B4 : Option Addr) (m4 d4 : Nat), X.s.length - Q1.st + 1 <= gq /\ Hid ((∃ a Q0, PR X 3 [] Q a Q0 /\ ∀ x Q2, PR X 2 [r] Q1 x Q2 -> PR X 2 [a] Q0 x Q2) /\ ai (fun b => (fun b => (q b \/ w.heap.size + 1 <= b) /\ b ≠ w2.heap.size) b /\ b ≠ X.pb /\ b ≠ X.ab) wr r A4 n4 c4 B4 m4 d4 /\ aR X (fun b => (q b \/ w.heap.size + 1 <= b) /\ b ≠ w2.heap.size) Q1 wr /\ Kq X (w.alloc zR) wr /\ aa wr w2.heap.size (zV r.kind A4 n4 c4 B4 m4 d4) 25 /\ dQ Q1 /\ w2.heap.size < wr.heap.size))
 case atStart => exact ⟨r, Q1, A4, n4, c4, B4, m4, d4, by omega, H5⟩
 case round =>
  obtain ⟨r, Q1, A4, n4, c4, B4, m4, d4, hgk, HI⟩ := hrel;obtain ⟨gg, rfl⟩ : ∃ g, gk = g + 1 := ⟨gk - 1, by omega⟩;obtain ⟨k1, hk1⟩ : ∃ k, k = Q1.k := ⟨_, rfl⟩;obtain ⟨A, n, c, B, m, d, e1, e2⟩ := HI.out.2.2.1.c5;have hck := e1.cell (j := 1) rfl;rw [<- hk1] at hck;have HK1 := Lh hk1;have hle := HI.out.2.2.1.hle;have hr1 : wr.rangeAt w2.heap.size 0 (zV r.kind A4 n4 c4 B4 m4 d4) := fun j u hu => by rw [Nat.zero_add]; exact HI.out.2.2.2.2.1.cell hu
  clear e1 e2 hk1
  by_cases h42 : k1 = 42
  ·have hst : Q1.st < Q1.p := HI.out.2.2.2.2.2.1.2 (by rw [<- HK1.out]; omega) (by rw [<- HK1.out]; omega);have HNEW : Hid (aa (wr.alloc (zC r.kind A4 n4 c4 B4 m4 d4)) w2.heap.size (zV r.kind A4 n4 c4 B4 m4 d4) 25 /\ ∀ W, aK (wr.alloc (zC r.kind A4 n4 c4 B4 m4 d4)) W w2.heap.size (zV 5 none 0 0 (some ⟨wr.heap.size, 0, none⟩) 1 1) 25 -> aR X (fun b => (q b \/ w.heap.size + 1 <= b) /\ b ≠ w2.heap.size) Q1 W /\ ∀ W6, aR X (fun b => b < X.w0.heap.size \/ W.heap.size <= b) (bg X Q1) W6 -> Kq X W W6 -> ∃ A5 n5 c5 B5 m5 d5, (∃ a Q0, PR X 3 [] Q a Q0 /\ ∀ x Q2, PR X 2 [(Rx.mk 5 [] [r])] (bg X Q1) x Q2 -> PR X 2 [a] Q0 x Q2) /\ ai (fun b => (fun b => (q b \/ w.heap.size + 1 <= b) /\ b ≠ w2.heap.size) b /\ b ≠ X.pb /\ b ≠ X.ab) W6 (Rx.mk 5 [] [r]) A5 n5 c5 B5 m5 d5 /\ aR X (fun b => (q b \/ w.heap.size + 1 <= b) /\ b ≠ w2.heap.size) (bg X Q1) W6 /\ Kq X (w.alloc zR) W6 /\ aa W6 w2.heap.size [.int .i64 (Rx.mk 5 [] [r]).kind, .slice A5 n5 c5, .slice B5 m5 d5] 25 /\ dQ (bg X Q1) /\ w2.heap.size < W6.heap.size) := Lh (by
     have hlt := HX.out.1;have hi := HI.out;have hsz : (wr.alloc (zC r.kind A4 n4 c4 B4 m4 d4)).heap.size = wr.heap.size + 1 := by simp
     refine ⟨hi.2.2.2.2.1.alloc _, fun W hst => ?_⟩;have hb5 : aa (wr.alloc (zC r.kind A4 n4 c4 B4 m4 d4)) wr.heap.size (zV r.kind A4 n4 c4 B4 m4 d4) 25 := aa.at wr _ _ 25 _ rfl rfl;have hk2 : w.heap.size + 1 <= w2.heap.size := by have := HK2.out; simp at this; omega
     have hrow := hst.other hb5 (by omega);have hrx := (hi.2.1.lt7.below (ag wr (zC r.kind A4 n4 c4 B4 m4 d4))).grown (bv hst) (fun b hb e => hb.1.1.2 (Option.some.inj e));have hps := (hi.2.2.1.below (ag wr (zC r.kind A4 n4 c4 B4 m4 d4))).grown (bv hst) (by omega) (by omega) (by omega) (by omega) (by omega) (by omega) (fun b hb => hb.2);refine ⟨hps, fun W6 hp hkq => ⟨none, 0, 0, some ⟨wr.heap.size, 0, none⟩, 1, 1, ?_⟩⟩;obtain ⟨a, Q0, p1, p2⟩ := hi.1;have hq0 := HX.out.2.1;have hqw := HX.out.2.2.1;have hsW : W.heap.size = wr.heap.size + 1 := by rw [hst.2.2.1, hsz]
     have hkx : Kq X (w.alloc zR) W := (hi.2.2.2.1.tr (Kq.of_below (ag wr (zC r.kind A4 n4 c4 B4 m4 d4)))).stored (by simp; omega) hst;have hrp : ai (fun b => (fun b => (q b \/ w.heap.size + 1 <= b) /\ b ≠ w2.heap.size) b /\ b ≠ X.pb /\ b ≠ X.ab) W (Rx.mk 5 [] [r]) none 0 0 (some ⟨wr.heap.size, 0, none⟩) 1 1 := jm 5 (by constructor <;> decide) (aG.one (hrx.mono fun b hb => hb.1).q) (by simp) hrow ⟨⟨.inr (by omega), by omega⟩, by omega, by omega⟩;refine ⟨⟨a, Q0, p1, fun x Q2 hh => p2 x Q2 (.star (by rw [<- HK1.out]; exact h42) hh)⟩, hrp.kq hkq (fun b hb => hb.2), hp.mono fun b hb _ => ?_, hkx.tr hkq, hkq.blk hst.1 (by omega) (by omega), dZ X Q1, by have := hkq.size; omega⟩
     rcases hb with hb | hb
     · exact ⟨.inl (hq0 b hb), by omega⟩
     · exact ⟨.inr (by omega), by omega⟩)
   subst h42
   go_wp2_with (first
     | (refine aA rfl (.tmp 3) rfl w2.heap.size (0) rfl r.kind A4 B4 n4 c4 m4 d4 hr1 ?_)
     | (refine wB rfl 25 (.tmp 3) (.tmp 16) rfl w2.heap.size 0 rfl (zV 5 none 0 0 (some ⟨wr.heap.size, 0, none⟩) 1 1) rfl HNEW.out.1 3 au ?_; intro x5 hst5; have H5 := Lh (HNEW.out.2 x5 hst5); have HAD := Lh (HADV.out _ Q1 x5 H5.out.1); clear hst5)
     | ((with_reducible refine HAD.out.mono ?_); rintro e x6 hp; obtain ⟨rfl, g1, g2⟩ := kQ hp; have H6 := Lh (H5.out.2 x6 g1 g2); clear hp g1 g2))
   obtain ⟨A5, n5, c5, B5, m5, d5, hi5⟩ := H6.out
   go_roundg gg
   case rel => exact ⟨.mk 5 [] [r], bg X Q1, A5, n5, c5, B5, m5, d5, by show X.s.length - Q1.p + 1 <= gg; omega, Lh hi5⟩
   case measure => omega
  by_cases h63 : k1 = 63
  ·have hst : Q1.st < Q1.p := HI.out.2.2.2.2.2.1.2 (by rw [<- HK1.out]; omega) (by rw [<- HK1.out]; omega);have HNEW : Hid (aa (wr.alloc (.cells #[.int .i64 1, .slice none 0 0, .slice none 0 0, .int .i64 r.kind, .slice A4 n4 c4, .slice B4 m4 d4] 25)) w2.heap.size (zV r.kind A4 n4 c4 B4 m4 d4) 25 /\ ∀ W, aK (wr.alloc (.cells #[.int .i64 1, .slice none 0 0, .slice none 0 0, .int .i64 r.kind, .slice A4 n4 c4, .slice B4 m4 d4] 25)) W w2.heap.size (zV 4 none 0 0 (some ⟨wr.heap.size, 0, none⟩) 2 2) 25 -> aR X (fun b => (q b \/ w.heap.size + 1 <= b) /\ b ≠ w2.heap.size) Q1 W /\ ∀ W6, aR X (fun b => b < X.w0.heap.size \/ W.heap.size <= b) (bg X Q1) W6 -> Kq X W W6 -> ∃ A5 n5 c5 B5 m5 d5, (∃ a Q0, PR X 3 [] Q a Q0 /\ ∀ x Q2, PR X 2 [(Rx.mk 4 [] [Rx.mk 1 [] [], r])] (bg X Q1) x Q2 -> PR X 2 [a] Q0 x Q2) /\ ai (fun b => (fun b => (q b \/ w.heap.size + 1 <= b) /\ b ≠ w2.heap.size) b /\ b ≠ X.pb /\ b ≠ X.ab) W6 (Rx.mk 4 [] [Rx.mk 1 [] [], r]) A5 n5 c5 B5 m5 d5 /\ aR X (fun b => (q b \/ w.heap.size + 1 <= b) /\ b ≠ w2.heap.size) (bg X Q1) W6 /\ Kq X (w.alloc zR) W6 /\ aa W6 w2.heap.size [.int .i64 (Rx.mk 4 [] [Rx.mk 1 [] [], r]).kind, .slice A5 n5 c5, .slice B5 m5 d5] 25 /\ dQ (bg X Q1) /\ w2.heap.size < W6.heap.size) := Lh (by
     have hlt := HX.out.1;have hi := HI.out;have hsz : (wr.alloc (.cells #[.int .i64 1, .slice none 0 0, .slice none 0 0, .int .i64 r.kind, .slice A4 n4 c4, .slice B4 m4 d4] 25)).heap.size = wr.heap.size + 1 := by simp
     refine ⟨hi.2.2.2.2.1.alloc _, fun W hst => ?_⟩;have hb5 : aa (wr.alloc (.cells #[.int .i64 1, .slice none 0 0, .slice none 0 0, .int .i64 r.kind, .slice A4 n4 c4, .slice B4 m4 d4] 25)) wr.heap.size [.int .i64 1, .slice none 0 0, .slice none 0 0, .int .i64 r.kind, .slice A4 n4 c4, .slice B4 m4 d4] 25 := aa.at wr _ _ 25 _ rfl rfl;have hk2 : w.heap.size + 1 <= w2.heap.size := by have := HK2.out; simp at this; omega
     have hrow := hst.other hb5 (by omega);have hrx := (hi.2.1.lt7.below (ag wr (.cells #[.int .i64 1, .slice none 0 0, .slice none 0 0, .int .i64 r.kind, .slice A4 n4 c4, .slice B4 m4 d4] 25))).grown (bv hst) (fun b hb e => hb.1.1.2 (Option.some.inj e));have hps := (hi.2.2.1.below (ag wr (.cells #[.int .i64 1, .slice none 0 0, .slice none 0 0, .int .i64 r.kind, .slice A4 n4 c4, .slice B4 m4 d4] 25))).grown (bv hst) (by omega) (by omega) (by omega) (by omega) (by omega) (by omega) (fun b hb => hb.2);refine ⟨hps, fun W6 hp hkq => ⟨none, 0, 0, some ⟨wr.heap.size, 0, none⟩, 2, 2, ?_⟩⟩;obtain ⟨a, Q0, p1, p2⟩ := hi.1;have hq0 := HX.out.2.1;have hqw := HX.out.2.2.1;have hsW : W.heap.size = wr.heap.size + 1 := by rw [hst.2.2.1, hsz]
     have hkx : Kq X (w.alloc zR) W := (hi.2.2.2.1.tr (Kq.of_below (ag wr (.cells #[.int .i64 1, .slice none 0 0, .slice none 0 0, .int .i64 r.kind, .slice A4 n4 c4, .slice B4 m4 d4] 25)))).stored (by simp; omega) hst;have hrp : ai (fun b => (fun b => (q b \/ w.heap.size + 1 <= b) /\ b ≠ w2.heap.size) b /\ b ≠ X.pb /\ b ≠ X.ab) W (Rx.mk 4 [] [Rx.mk 1 [] [], r]) none 0 0 (some ⟨wr.heap.size, 0, none⟩) 2 2 := jm 4 (by constructor <;> decide) (aG.app (aG.one (ai.flat _ W (K := 1) (by constructor <;> decide)).q) (aG.one (hrx.mono fun b hb => hb.1).q)) (by simp) hrow ⟨⟨.inr (by omega), by omega⟩, by omega, by omega⟩;refine ⟨⟨a, Q0, p1, fun x Q2 hh => p2 x Q2 (.opt (by rw [<- HK1.out]; exact h63) hh)⟩, hrp.kq hkq (fun b hb => hb.2), hp.mono fun b hb _ => ?_, hkx.tr hkq, hkq.blk hst.1 (by omega) (by omega), dZ X Q1, by have := hkq.size; omega⟩
     rcases hb with hb | hb
     · exact ⟨.inl (hq0 b hb), by omega⟩
     · exact ⟨.inr (by omega), by omega⟩)
   subst h63
   go_wp2_with (first
     | (refine aA rfl (.tmp 3) rfl w2.heap.size (0) rfl r.kind A4 B4 n4 c4 m4 d4 hr1 ?_)
     | (refine wB rfl 25 (.tmp 3) (.tmp 22) rfl w2.heap.size 0 rfl (zV 4 none 0 0 (some ⟨wr.heap.size, 0, none⟩) 2 2) rfl HNEW.out.1 3 au ?_; intro x5 hst5; have H5 := Lh (HNEW.out.2 x5 hst5); have HAD := Lh (HADV.out _ Q1 x5 H5.out.1); clear hst5)
     | ((with_reducible refine HAD.out.mono ?_); rintro e x6 hp; obtain ⟨rfl, g1, g2⟩ := kQ hp; have H6 := Lh (H5.out.2 x6 g1 g2); clear hp g1 g2))
   obtain ⟨A5, n5, c5, B5, m5, d5, hi5⟩ := H6.out
   go_roundg gg
   case rel => exact ⟨.mk 4 [] [.mk 1 [] [], r], bg X Q1, A5, n5, c5, B5, m5, d5, by show X.s.length - Q1.p + 1 <= gg; omega, Lh hi5⟩
   case measure => omega
  have a1 : ((k1 : Int) == 42) = false := bF (by omega);have b1 : ((k1 : Int) == 63) = false := bF (by omega);have HFIN : Hid (aa wr w.heap.size zL 25 /\ ∀ W, aK wr W w.heap.size (zV r.kind A4 n4 c4 B4 m4 d4) 25 -> dM nT X q Q w (.returned (.agg #[.int .i64 r.kind, .slice A4 n4 c4, .slice B4 m4 d4])) W /\ aa W w.heap.size (zV r.kind A4 n4 c4 B4 m4 d4) 25) := Lh (by
   have hlt := HX.out.1;have hi := HI.out;obtain ⟨a, Q0, p1, p2⟩ := hi.1;refine ⟨hi.2.2.2.1.blk HB1.out (by omega) (by omega), fun W hst => ⟨⟨r, Q1, A4, n4, c4, B4, m4, d4, rfl, ⟨a, Q0, p1, p2 r Q1 (.none (by rw [<- HK1.out]; exact h42) (by rw [<- HK1.out]; exact h63))⟩, ?_, ?_, ?_⟩, hst.1⟩⟩
   · exact (hi.2.1.grown (bv hst) (fun b hb e => by have h2 := Option.some.inj e; have h1 := HX.out.2.2.1 b; rcases hb.1.1 with h | h; (have := h1 h; omega); omega)).mono fun b hb => ⟨hb.1.1.imp id fun h => by omega, hb.2⟩
   · exact (aR.stored hlt hi.2.2.1 (Nat.le_refl _) hst (fun b hb => by have h1 := HX.out.2.2.1 b; rcases hb.1 with h | h; (have := h1 h; omega); omega)).mono fun b hb _ => hb.1.imp id fun h => by omega
   · exact ((Kq.of_below (ag w _)).tr hi.2.2.2.1).stored (Nat.le_refl _) hst)
  clear h42 h63
  go_wp2_with (first
   | (refine aA rfl (.tmp 3) rfl w2.heap.size (0) rfl r.kind A4 B4 n4 c4 m4 d4 hr1 ?_)
   | (refine wB rfl 25 (.tmp 2) (.tmp 11) rfl w.heap.size 0 rfl (zV r.kind A4 n4 c4 B4 m4 d4) rfl HFIN.out.1 3 au ?_; intro x5 hst5; have HX5 := Lh (HFIN.out.2 x5 hst5); clear hst5))
  exact bM rfl w.heap.size rfl (C := (zV r.kind A4 n4 c4 B4 m4 d4)) (T := 25) HX5.out.2 _ Tryz.underlying25 rfl au rfl HX5.out.1
end Go.Proofs.YtakcjlimbabbfaaGreatDoor
