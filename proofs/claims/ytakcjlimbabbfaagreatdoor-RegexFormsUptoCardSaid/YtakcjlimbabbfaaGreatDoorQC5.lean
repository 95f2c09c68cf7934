/- Part of the proof of the laws of layer 7: what they share. -/
import Derived.Test.YtakcjlimbabbfaaGreatDoorQC4
set_option linter.unusedVariables false
set_option linter.unusedSimpArgs false
set_option maxRecDepth 1000000
set_option maxHeartbeats 8000000
namespace Go.Proofs.YtakcjlimbabbfaaGreatDoor
open Go.RowKit
open Alp
open Rgx
def Ig (t : Bool) (x : Rx) : Prop := ∀ (p : Nat -> Prop) (w : World) (K : Int) (A B : Option Addr) (n c m d : Nat), K = x.kind -> (∀ b, p b -> b < w.heap.size) -> ak p w x A n c B m d -> Calls Tryz.prog 52 #[.agg #[.int .i64 K, .slice A n c, .slice B m d], .bool t] w (dB p w (normR t x))
def jN (t : Bool) (r : Rx) : List Rx := if t && decide (r.kind = 3) then r.kids.reverse else r.kids
theorem IK (t : Bool) (r : Rx) : (jN t r).length = r.kids.length := by unfold jN; split <;> simp
theorem Lr {t : Bool} {r x : Rx} : x ∈ jN t r ↔ x ∈ r.kids := by unfold jN; split <;> simp
theorem Uq {t : Bool} {r : Rx} {i : Nat} (hi : i < r.kids.length) : av (jN t r) i = av r.kids (if t && decide (r.kind = 3) then r.kids.length - 1 - i else i) := by
 unfold jN
 by_cases h : (t && decide (r.kind = 3)) = true
 ·rw [if_pos h, if_pos h, gI (by simpa using hi), gI (by omega), List.getElem_reverse]
 ·rw [if_neg h, if_neg h]
theorem FU (t : Bool) (r : Rx) : normR t r = if r.kind = 3 then seqP ((jN t r).map (normR t)) else if r.kind = 4 then altP ((jN t r).map (normR t)) else if r.kind = 5 then starP (((jN t r).map (normR t)).headD (.mk 0 [] [])) else r := by
 rw [lH];unfold jN Cu
 by_cases h3 : r.kind = 3
 ·rw [if_pos h3, if_pos h3]
  cases t <;> simp [h3, List.map_reverse]
 ·rw [if_neg h3, if_neg h3];have e : (t && decide (r.kind = 3)) = false := by simp [h3]
  rw [e]; rfl
theorem SH (t : Bool) (r : Rx) (hv : aC r = true) (hc : az r <= 1000000000000) (ih : ∀ x ∈ r.kids, Ig t x) : Ig t r := by
 intro p w K A B n c m d hK hp h;obtain ⟨i0, aZ, hz0, hz1, hz2⟩ := info_parts lG;have hm : m <= 1000000000000 := by rw [h.o.mlen]; have := vZ r; omega
 have HX := LH (ak p w r A n c B m d /\ K = r.kind /\ aC r = true /\ az r <= 1000000000000) ⟨h, hK, hv, hc⟩;have HP := Lh hp;have dH := Lh ih;have bK := LH (ae ((w.alloc (zC K A n c B m d)).alloc zR) w.heap.size (zV K A n c B m d) 25) ((ae.at w (zV K A n c B m d) _ 25 _ rfl rfl).alloc _);have HZ := LH (∀ W, Below ((w.alloc (zC K A n c B m d)).alloc zR).heap.size ((w.alloc (zC K A n c B m d)).alloc zR) W -> ae W (w.heap.size + 1) zL 25) fun W hb => (ae.at (w.alloc (zC K A n c B m d)) zL _ 25 _ rfl (by simp)).below hb (by simp)
 clear h hK hc hp hv ih;go_enter Tryz.func52, Tryz.ntmps52;go_wp2_with fail
 go_loopg [5, 6] m (fun g s5 s6 wr => ∃ i : Nat, i + g = m /\ s6 = .int .i64 (i : Int) /\ Hid (aD (fun b => p b \/ w.heap.size + 1 < b) (w.heap.size + 1 + 1) s5 (((jN t r).take i).map (normR t)) wr /\ Below ((w.alloc (zC K A n c B m d)).alloc zR).heap.size ((w.alloc (zC K A n c B m d)).alloc zR) wr))
 case atStart => exact ⟨0, by omega, rfl, Lh ⟨aD.nil _ _ _, Below.refl _ _⟩⟩
 case round =>
  obtain ⟨i, hi, rfl, HI⟩ := hrel;have dw := LH (ae wr w.heap.size (zV K A n c B m d) 25) (bK.out.below HI.out.2 (by simp; omega));have hb0 : wr.cell? ⟨w.heap.size, 0, none⟩ = some (.int .i64 K) := dw.out.cell (j := 0) rfl;obtain ⟨B5, d5, hv, sW, uY, vv, wI⟩ := HI.out.1.e;obtain ⟨L5, nS⟩ := eX (((jN t r).take i).map (normR t));have zg := LH (L5 = ((jN t r).take i).map (normR t) /\ L5.length = i) ⟨nS, by rw [nS, List.length_map, List.length_take, IK, <- HX.out.1.o.mlen]; omega⟩;rw [<- nS, zg.out.2] at hv;subst hv;clear sW uY vv wI;have AY := HI.out.1;rw [<- nS] at AY;have HR5 := Lh AY;clear AY nS
  by_cases hlt : i < m
  ·obtain ⟨gg, rfl⟩ : ∃ g, gk = g + 1 := ⟨gk - 1, by omega⟩;obtain ⟨xs, hC, hO⟩ := HR5.out;rw [zg.out.2] at hO;have HC := Lh hC;have HO := Lh hO;have bg := LH (Bw w wr) (ah (aF (ai _ _) _) HI.out.2);obtain ⟨j, hj⟩ := eX (if t && decide (r.kind = 3) then m - 1 - i else i)
   have hjm : j < m := by rw [hj]; split <;> omega
   have HJ := LH (j < r.kids.length) (by rw [<- HX.out.1.o.mlen]; exact hjm);have bR := LH (i < (jN t r).length) (by rw [IK, <- HX.out.1.o.mlen]; exact hlt);obtain ⟨b, o, rfl⟩ := HX.out.1.kids.1.place (by have := HJ.out; omega);obtain ⟨A2, n2, c2, B2, m2, d2, hrg, ax⟩ := HX.out.1.kids.1.kid HJ.out;obtain ⟨y, hy⟩ := eX (av r.kids j);have hyi : av (jN t r) i = y := by
    rw [Uq (by rw [<- HX.out.1.o.mlen]; exact hlt), <- HX.out.1.o.mlen, <- hj, hy]
   rw [<- hy] at hrg ax;obtain ⟨Ky, bi⟩ := eX y.kind;rw [<- bi] at hrg;have aP := Lh (iW hrg bg.out);have hb2 : wr.cell? ⟨w.heap.size, 2, none⟩ = some (.slice (some ⟨b, o, none⟩) m d) := dw.out.cell (j := 2) rfl;have bY : y ∈ r.kids := by rw [hy]; exact gU HJ.out
   obtain ⟨NY, hNY⟩ := eX (normR t y);have yK := LH (Cz 52 #[.agg #[.int .i64 Ky, .slice A2 n2 c2, .slice B2 m2 d2], .bool t] wr (dB p wr NY)) (by rw [hNY]; exact dH.out y bY p wr Ky A2 B2 n2 c2 m2 d2 bi (fun b hb => by have h1 := HP.out b hb; have h2 := bg.out.size; omega) (ax.below bg.out));have iL := LH (((jN t r).take (i + 1)).map (normR t) = L5 ++ [NY]) (by rw [GD bR.out, List.map_append, hyi, zg.out.1, hNY]; rfl);have iM := LH (∀ w8 K8 A8 n8 c8 B8 m8 d8, K8 = NY.kind -> ak (fun b => p b \/ wr.heap.size <= b) w8 NY A8 n8 c8 B8 m8 d8 -> Bw wr w8 -> ∀ v' w', w'.ownsRow (w.heap.size + 1 + 1) 25 3 v' (i + 1) (xs ++ (zV K8 A8 n8 c8 B8 m8 d8)) -> (w8.alloc (zC K8 A8 n8 c8 B8 m8 d8)).grownBy w' (Value.slice B5 i d5).ownBlock -> (v'.ownBlock = (Value.slice B5 i d5).ownBlock \/ v'.ownBlock = some (w8.alloc (zC K8 A8 n8 c8 B8 m8 d8)).heap.size) -> aD (fun b => p b \/ w.heap.size + 1 < b) (w.heap.size + 1 + 1) v' (((jN t r).take (i + 1)).map (normR t)) w' /\ Below ((w.alloc (zC K A n c (some ⟨b, o, none⟩) m d)).alloc zR).heap.size ((w.alloc (zC K A n c (some ⟨b, o, none⟩) m d)).alloc zR) w') fun w8 K8 A8 n8 c8 B8 m8 d8 aX h8 aK v' w' hown hg hat => ⟨by
    rw [iL.out];have hbase := HI.out.2.size;exact aD.app (m := 1) (ys := (zV K8 A8 n8 c8 B8 m8 d8)) HC.out (aF aK _) (by rw [aX]; exact aM.one (aY.mono (fun b hb => ⟨hb.imp id (fun h => by simp at hbase; omega), fun e => by have h1 := HO.out.lt b e.symm; rcases hb with hb | hb; (have := HP.out b hb; omega); omega⟩) _ (h8.below (ai _ _)).q)) rfl hg hat (by rw [zg.out.2]; exact hown), eH (aF (ah HI.out.2 aK) _) hg (fun g hg => by have h9 := (HO.out.lt _ hg).1; simpa using h9)⟩
   have hs1 : i + 1 <= maxLen := by unfold maxLen; omega
   have hs2 : (i + 1) * 56 <= 140737488355328 := by omega
   have HREL := LH (∀ v' w', (aD (fun b => p b \/ w.heap.size + 1 < b) (w.heap.size + 1 + 1) v' (((jN t r).take (i + 1)).map (normR t)) w' /\ Below ((w.alloc (zC K A n c (some ⟨b, o, none⟩) m d)).alloc zR).heap.size ((w.alloc (zC K A n c (some ⟨b, o, none⟩) m d)).alloc zR) w') -> ∃ i2 : Nat, i2 + gg = m /\ (i : Int) + 1 = (i2 : Int) /\ Hid (aD (fun b => p b \/ w.heap.size + 1 < b) (w.heap.size + 1 + 1) v' (((jN t r).take i2).map (normR t)) w' /\ Below ((w.alloc (zC K A n c (some ⟨b, o, none⟩) m d)).alloc zR).heap.size ((w.alloc (zC K A n c (some ⟨b, o, none⟩) m d)).alloc zR) w')) fun v' w' h => ⟨i + 1, by omega, by omega, Lh h⟩
   have h3 := HX.out.2.1;have hsp : (t = false /\ j = i) \/ (t = true /\ K ≠ 3 /\ j = i) \/ (t = true /\ K = 3 /\ j = m - 1 - i) := by
    rw [h3]
    cases t
    ·exact .inl ⟨rfl, by rw [hj]; rfl⟩
    ·by_cases h : r.kind = 3
     ·exact .inr (.inr ⟨rfl, h, by rw [hj, if_pos (by simp [h])]⟩)
     ·exact .inr (.inl ⟨rfl, h, by rw [hj, if_neg (by simp [h])]⟩)
   clear hrg ax hy bi hC hO bY hyi hj h3 hNY
   rcases hsp with ⟨rfl, yc⟩ | ⟨rfl, h3, yc⟩ | ⟨rfl, h3, hw0⟩
   ·subst yc
    go_wp2_with (first
     |(refine aG rfl (.tmp 32) rfl b (o + j * 3) rfl Ky A2 B2 n2 c2 m2 d2 aP.out ?_)
     |((with_reducible refine (yK.out).mono ?_); rintro e w8 hp; obtain ⟨A8, n8, c8, B8, m8, d8, rfl, h8, aK⟩ := dV hp; obtain ⟨K8, aX⟩ := eX NY.kind; rw [<- aX]; have H8 := Lh aK; have DW := Lh (iM.out w8 K8 A8 n8 c8 B8 m8 d8 aX h8 aK); clear hp h8 aK aX)
     |(at_builtin; refine gW rfl (.tmp 28) (.tmp 36) 23 23 rfl (w.heap.size + 1 + 1) 25 i0 _ 3 56 Tryz.underlying23 aZ hz0 hz1 hz2 rfl _ _ _ rfl (gu HO.out (aF H8.out _)) _ 1 (zV K8 A8 n8 c8 B8 m8 d8) rfl (jR hz1 _ _ _ _ _ _ _ _) hs1 hs2 (by have h1 := HI.out.2.size; have h2 := H8.out.size; simp at h1 ⊢; omega) ?_; intro v5 w5 ed cB dW; have bf := Lh (DW.out _ _ ed cB dW); clear ed cB dW))
    go_roundg gg
    case rel => exact ⟨_, by omega, by go_num, bf⟩
    case measure => omega
   ·have e3a : decide (K = 3) = false := dF h3;have e3b : (K == 3) = false := bF h3;clear h3;subst yc
    go_wp2_with (first
     |(refine aG rfl (.tmp 32) rfl b (o + j * 3) rfl Ky A2 B2 n2 c2 m2 d2 aP.out ?_)
     |((with_reducible refine (yK.out).mono ?_); rintro e w8 hp; obtain ⟨A8, n8, c8, B8, m8, d8, rfl, h8, aK⟩ := dV hp; obtain ⟨K8, aX⟩ := eX NY.kind; rw [<- aX]; have H8 := Lh aK; have DW := Lh (iM.out w8 K8 A8 n8 c8 B8 m8 d8 aX h8 aK); clear hp h8 aK aX)
     |(at_builtin; refine gW rfl (.tmp 28) (.tmp 36) 23 23 rfl (w.heap.size + 1 + 1) 25 i0 _ 3 56 Tryz.underlying23 aZ hz0 hz1 hz2 rfl _ _ _ rfl (gu HO.out (aF H8.out _)) _ 1 (zV K8 A8 n8 c8 B8 m8 d8) rfl (jR hz1 _ _ _ _ _ _ _ _) hs1 hs2 (by have h1 := HI.out.2.size; have h2 := H8.out.size; simp at h1 ⊢; omega) ?_; intro v5 w5 ed cB dW; have bf := Lh (DW.out _ _ ed cB dW); clear ed cB dW))
    go_roundg gg
    case rel => exact ⟨_, by omega, by go_num, bf⟩
    case measure => omega
   ·have e3a : decide (K = 3) = true := dT h3;have e3b : (K == 3) = true := bT h3;have jH : ((m : Int) - 1 - (i : Int)) = (j : Int) := by omega
    clear h3 hw0
    go_wp2_with (first
     |(refine aG rfl (.tmp 32) rfl b (o + j * 3) rfl Ky A2 B2 n2 c2 m2 d2 aP.out ?_)
     |((with_reducible refine (yK.out).mono ?_); rintro e w8 hp; obtain ⟨A8, n8, c8, B8, m8, d8, rfl, h8, aK⟩ := dV hp; obtain ⟨K8, aX⟩ := eX NY.kind; rw [<- aX]; have H8 := Lh aK; have DW := Lh (iM.out w8 K8 A8 n8 c8 B8 m8 d8 aX h8 aK); clear hp h8 aK aX)
     |(at_builtin; refine gW rfl (.tmp 28) (.tmp 36) 23 23 rfl (w.heap.size + 1 + 1) 25 i0 _ 3 56 Tryz.underlying23 aZ hz0 hz1 hz2 rfl _ _ _ rfl (gu HO.out (aF H8.out _)) _ 1 (zV K8 A8 n8 c8 B8 m8 d8) rfl (jR hz1 _ _ _ _ _ _ _ _) hs1 hs2 (by have h1 := HI.out.2.size; have h2 := H8.out.size; simp at h1 ⊢; omega) ?_; intro v5 w5 ed cB dW; have bf := Lh (DW.out _ _ ed cB dW); clear ed cB dW))
    go_roundg gg
    case rel => exact ⟨_, by omega, by go_num, bf⟩
    case measure => omega
  ·obtain rfl : m = i := by omega
   have oq := LH (L5 = (jN t r).map (normR t)) (by rw [zg.out.1, List.take_of_length_le (by rw [IK, HX.out.1.o.mlen]; exact Nat.le_refl _)]);have uM := LH (eD (fun b => (fun b => p b \/ w.heap.size + 1 < b) b /\ b < wr.heap.size) wr L5 B5 m d5) (by
    obtain ⟨B6, m6, d6, e6, h6⟩ := Gt (q2 := (fun b => p b \/ w.heap.size + 1 < b)) HR5.out (fun b hb => hb) (fun b hb => .inr (by omega));rw [Value.slice.injEq] at e6;obtain ⟨rfl, rfl, rfl⟩ := e6;exact h6.lt)
   have hb2 : wr.cell? ⟨w.heap.size, 2, none⟩ = some (.slice B m d) := dw.out.cell (j := 2) rfl;have mQ := LH (∀ x ∈ L5, NF x) fun x hx => by
    rw [oq.out] at hx;obtain ⟨y, hy, rfl⟩ := List.mem_map.1 hx;exact NF.normR t (jL HX.out.2.2.1 y (Lr.1 hy))
   have lD := LH (aj L5 <= 1000000000000) (by
    rw [oq.out];have h1 := Ht (f := normR t) (ks := jN t r) fun y hy => zJ t (jL HX.out.2.2.1 y (Lr.1 hy))
    have h2 : aj (jN t r) = aj r.kids := by unfold jN; split; (rw [Jl]); rfl
    have h3 := fP r;have h4 := HX.out.2.2.2;omega)
   by_cases k3 : K = 3
   ·skip
    have ab : (K == 3) = true := bT (by omega);have bb : (K == 4) = false := bF (by omega);have cb : (K == 5) = false := bF (by omega);have iZ := LH (K = 3) k3;clear k3;have qw := LH (normR t r = seqP L5) (by rw [FU, if_pos (by rw [<- HX.out.2.1]; have := iZ.out; omega), oq.out]);have xZ := LH (Cz 85 #[.slice B5 m d5] wr (dB (fun b => (fun b => p b \/ w.heap.size + 1 < b) b /\ b < wr.heap.size) wr (seqP L5))) (Qm wr (fun b hb => hb.2) L5 B5 m d5 uM.out.mlen uM.out.mcap uM.out.dmax lD.out uM.out.kids);have Ec := LH (∀ w6 K8 A8 n8 c8 B8 m8 d8, K8 = (seqP L5).kind -> ak (fun b => (fun b => (fun b => p b \/ w.heap.size + 1 < b) b /\ b < wr.heap.size) b \/ wr.heap.size <= b) w6 (seqP L5) A8 n8 c8 B8 m8 d8 -> Bw wr w6 -> ∀ w9, aT w6 w9 (w.heap.size + 1) (List.take 0 zL ++ (zV K8 A8 n8 c8 B8 m8 d8) ++ List.drop (0 + 3) zL) 25 -> ae w9 (w.heap.size + 1) (zV K8 A8 n8 c8 B8 m8 d8) 25 /\ dB p w (normR t r) (.returned (.agg #[.int .i64 K8, .slice A8 n8 c8, .slice B8 m8 d8])) w9) fun w6 K8 A8 n8 c8 B8 m8 d8 aX h8 aK w9 hst => ⟨by simpa using hst.1, by
     have hsz := HI.out.2.size;simp at hsz;rw [qw.out, aX];exact ⟨_, _, _, _, _, _, rfl, (il (h8.mono (q := (fun b => p b \/ w.heap.size + 1 < b)) (fun b hb => by rcases hb with hb | hb; exact hb.1; exact .inr (by omega))) hst (fun b hb => by rcases hb with hb | hb; (have := HP.out b hb; omega); omega)).mono (fun b hb => hb.imp id (fun h => by omega)), hst.below (ah (ah (aF (ai _ _) _) HI.out.2) aK) (by omega)⟩⟩
    go_wp2_with (first
     |((with_reducible refine (xZ.out).mono ?_); rintro e w6 hp; obtain ⟨A8, n8, c8, B8, m8, d8, rfl, h8, aK⟩ := dV hp; obtain ⟨K8, aX⟩ := eX ((seqP L5).kind); rw [<- aX]; have H6 := Lh (And.intro (ah HI.out.2 aK) True.intro); have HST := Lh (Ec.out w6 K8 A8 n8 c8 B8 m8 d8 aX h8 aK); clear hp h8 aK aX)
     |(refine wB rfl 25 (.tmp 4) (.tmp 42) rfl (w.heap.size + 1) 0 rfl (zV K8 A8 n8 c8 B8 m8 d8) rfl (HZ.out _ H6.out.1) 3 au ?_; intro w9 ag; have aB := Lh (HST.out _ ag); clear ag))
    exact cK rfl (w.heap.size + 1) rfl (C := (zV K8 A8 n8 c8 B8 m8 d8)) (T := 25) aB.out.1 _ Tryz.underlying25 rfl au rfl aB.out.2
   ·by_cases k4 : K = 4
    ·skip
     have ab : (K == 3) = false := bF (by omega);have bb : (K == 4) = true := bT (by omega);have cb : (K == 5) = false := bF (by omega);have iZ := LH (K = 4) k4;clear k3 k4;have qw := LH (normR t r = altP L5) (by rw [FU, if_neg (by rw [<- HX.out.2.1]; have := iZ.out; omega), if_pos (by rw [<- HX.out.2.1]; have := iZ.out; omega), oq.out]);have xZ := LH (Cz 86 #[.slice B5 m d5] wr (dB (fun b => (fun b => p b \/ w.heap.size + 1 < b) b /\ b < wr.heap.size) wr (altP L5))) (OG wr (fun b hb => hb.2) L5 B5 m d5 uM.out mQ.out lD.out);have Ec := LH (∀ w6 K8 A8 n8 c8 B8 m8 d8, K8 = (altP L5).kind -> ak (fun b => (fun b => (fun b => p b \/ w.heap.size + 1 < b) b /\ b < wr.heap.size) b \/ wr.heap.size <= b) w6 (altP L5) A8 n8 c8 B8 m8 d8 -> Bw wr w6 -> ∀ w9, aT w6 w9 (w.heap.size + 1) (List.take 0 zL ++ (zV K8 A8 n8 c8 B8 m8 d8) ++ List.drop (0 + 3) zL) 25 -> ae w9 (w.heap.size + 1) (zV K8 A8 n8 c8 B8 m8 d8) 25 /\ dB p w (normR t r) (.returned (.agg #[.int .i64 K8, .slice A8 n8 c8, .slice B8 m8 d8])) w9) fun w6 K8 A8 n8 c8 B8 m8 d8 aX h8 aK w9 hst => ⟨by simpa using hst.1, by
      have hsz := HI.out.2.size;simp at hsz;rw [qw.out, aX];exact ⟨_, _, _, _, _, _, rfl, (il (h8.mono (q := (fun b => p b \/ w.heap.size + 1 < b)) (fun b hb => by rcases hb with hb | hb; exact hb.1; exact .inr (by omega))) hst (fun b hb => by rcases hb with hb | hb; (have := HP.out b hb; omega); omega)).mono (fun b hb => hb.imp id (fun h => by omega)), hst.below (ah (ah (aF (ai _ _) _) HI.out.2) aK) (by omega)⟩⟩
     go_wp2_with (first
      | ((with_reducible refine (xZ.out).mono ?_); rintro e w6 hp; obtain ⟨A8, n8, c8, B8, m8, d8, rfl, h8, aK⟩ := dV hp; obtain ⟨K8, aX⟩ := eX ((altP L5).kind); rw [<- aX]; have H6 := Lh (And.intro (ah HI.out.2 aK) True.intro); have HST := Lh (Ec.out w6 K8 A8 n8 c8 B8 m8 d8 aX h8 aK); clear hp h8 aK aX)
      | (refine wB rfl 25 (.tmp 4) (.tmp 47) rfl (w.heap.size + 1) 0 rfl (zV K8 A8 n8 c8 B8 m8 d8) rfl (HZ.out _ H6.out.1) 3 au ?_; intro w9 ag; have aB := Lh (HST.out _ ag); clear ag))
     exact cK rfl (w.heap.size + 1) rfl (C := (zV K8 A8 n8 c8 B8 m8 d8)) (T := 25) aB.out.1 _ Tryz.underlying25 rfl au rfl aB.out.2
    ·by_cases k5 : K = 5
     ·skip
      have ab : (K == 3) = false := bF (by omega);have bb : (K == 4) = false := bF (by omega);have cb : (K == 5) = true := bT (by omega);have iZ := LH (K = 5) k5;clear k3 k4 k5;have l9 : m = 1 := by
        rcases kw HX.out.2.2.1 with e | e | ⟨_, e, _⟩ | ⟨_, e, _⟩ | ⟨_, e, _⟩ | ⟨y, e, _⟩
        all_goals first | (have h1 := HX.out.2.1; have h2 := iZ.out; rw [e] at h1; simp only [Rx.kind] at h1; omega) | (rw [HX.out.1.o.mlen, e]; rfl)
      obtain ⟨b, o, rfl, A2, n2, c2, B2, m2, d2, hrg, ax⟩ := uM.out.kid7 (i := 0) (by omega);obtain ⟨y, hy⟩ := eX (av L5 0);rw [<- hy] at hrg ax;obtain ⟨Ky, bi⟩ := eX y.kind;rw [<- bi, Nat.zero_mul, Nat.add_zero] at hrg;have aP := Lh hrg;have hyL : L5 = [y] := by
        have h1 := uM.out.mlen;rw [l9] at h1
        match L5, h1, hy with
        | [z], _, e => rw [e]; rfl
      have qw := LH (normR t r = starP y) (by rw [FU, if_neg (by rw [<- HX.out.2.1]; have := iZ.out; omega), if_neg (by rw [<- HX.out.2.1]; have := iZ.out; omega), if_pos (by rw [<- HX.out.2.1]; have := iZ.out; omega), <- oq.out, hyL]; rfl);have xZ := LH (Cz 87 #[.agg #[.int .i64 Ky, .slice A2 n2 c2, .slice B2 m2 d2]] wr (dB (fun b => (fun b => p b \/ w.heap.size + 1 < b) b /\ b < wr.heap.size) wr (starP y))) (Tf wr (fun b hb => hb.2) y (mQ.out y (by rw [hyL]; simp)) (by have h1 := lD.out; rw [hyL] at h1; simpa [aj] using h1) Ky bi A2 B2 n2 c2 m2 d2 ax);have Ec := LH (∀ w6 K8 A8 n8 c8 B8 m8 d8, K8 = (starP y).kind -> ak (fun b => (fun b => (fun b => p b \/ w.heap.size + 1 < b) b /\ b < wr.heap.size) b \/ wr.heap.size <= b) w6 (starP y) A8 n8 c8 B8 m8 d8 -> Bw wr w6 -> ∀ w9, aT w6 w9 (w.heap.size + 1) (List.take 0 zL ++ (zV K8 A8 n8 c8 B8 m8 d8) ++ List.drop (0 + 3) zL) 25 -> ae w9 (w.heap.size + 1) (zV K8 A8 n8 c8 B8 m8 d8) 25 /\ dB p w (normR t r) (.returned (.agg #[.int .i64 K8, .slice A8 n8 c8, .slice B8 m8 d8])) w9) fun w6 K8 A8 n8 c8 B8 m8 d8 aX h8 aK w9 hst => ⟨by simpa using hst.1, by
        have hsz := HI.out.2.size;simp at hsz;rw [qw.out, aX];exact ⟨_, _, _, _, _, _, rfl, (il (h8.mono (q := (fun b => p b \/ w.heap.size + 1 < b)) (fun b hb => by rcases hb with hb | hb; exact hb.1; exact .inr (by omega))) hst (fun b hb => by rcases hb with hb | hb; (have := HP.out b hb; omega); omega)).mono (fun b hb => hb.imp id (fun h => by omega)), hst.below (ah (ah (aF (ai _ _) _) HI.out.2) aK) (by omega)⟩⟩
      have ja : 0 < m := by omega
      clear hrg ax hy bi hyL l9
      go_wp2_with (first
        | (refine aG rfl (.tmp 52) rfl b (o) rfl Ky A2 B2 n2 c2 m2 d2 aP.out ?_)
        | ((with_reducible refine (xZ.out).mono ?_); rintro e w6 hp; obtain ⟨A8, n8, c8, B8, m8, d8, rfl, h8, aK⟩ := dV hp; obtain ⟨K8, aX⟩ := eX ((starP y).kind); rw [<- aX]; have H6 := Lh (And.intro (ah HI.out.2 aK) True.intro); have HST := Lh (Ec.out w6 K8 A8 n8 c8 B8 m8 d8 aX h8 aK); clear hp h8 aK aX)
        | (refine wB rfl 25 (.tmp 4) (.tmp 54) rfl (w.heap.size + 1) 0 rfl (zV K8 A8 n8 c8 B8 m8 d8) rfl (HZ.out _ H6.out.1) 3 au ?_; intro w9 ag; have aB := Lh (HST.out _ ag); clear ag))
      exact cK rfl (w.heap.size + 1) rfl (C := (zV K8 A8 n8 c8 B8 m8 d8)) (T := 25) aB.out.1 _ Tryz.underlying25 rfl au rfl aB.out.2
     ·skip
      have ab : (K == 3) = false := bF (by omega);have bb : (K == 4) = false := bF (by omega);have cb : (K == 5) = false := bF (by omega);have iZ := LH (K ≠ 3 /\ K ≠ 4 /\ K ≠ 5) ⟨k3, k4, k5⟩;clear k3 k4 k5;have qw := LH (normR t r = r) (by rw [FU, if_neg (by rw [<- HX.out.2.1]; have := iZ.out; omega), if_neg (by rw [<- HX.out.2.1]; have := iZ.out; omega), if_neg (by rw [<- HX.out.2.1]; have := iZ.out; omega)]);have bO := aS dw.out;have HST := LH (∀ w9, aT wr w9 (w.heap.size + 1) (List.take 0 zL ++ (zV K A n c B m d) ++ List.drop (0 + 3) zL) 25 -> ae w9 (w.heap.size + 1) (zV K A n c B m d) 25 /\ dB p w (normR t r) (.returned (.agg #[.int .i64 K, .slice A n c, .slice B m d])) w9) fun w9 hst => ⟨by simpa using hst.1, by
        rw [qw.out, HX.out.2.1];have fq := ah (aF (ai _ _) _) HI.out.2;exact lI (il (HX.out.1.below fq) hst (fun b hb => by have := HP.out b hb; omega)) (fun b hb => .inl hb) (hst.below fq (by omega))⟩
      go_wp2_with (first
        | (refine aG rfl (.tmp 2) rfl w.heap.size (0) rfl K A B n c m d bO ?_)
        | (refine wB rfl 25 (.tmp 4) (.tmp 55) rfl (w.heap.size + 1) 0 rfl (zV K A n c B m d) rfl (HZ.out _ HI.out.2) 3 au ?_; intro w9 ag; have aB := Lh (HST.out _ ag); clear ag))
      exact cK rfl (w.heap.size + 1) rfl (C := (zV K A n c B m d)) (T := 25) aB.out.1 _ Tryz.underlying25 rfl au rfl aB.out.2
theorem Nb (t : Bool) : ∀ (z : Nat) (r : Rx), SizeOf.sizeOf r <= z -> aC r = true -> az r <= 1000000000000 -> Ig t r
 |0, r, hz, hv, hc => by cases r; simp at hz
 |z + 1, r, hz, hv, hc => SH t r hv hc fun x hx => Nb t z x (by have := jZ hx; omega) (jL hv x hx) (by have h1 := fP r; have h2 := xI hx; omega)
theorem Lm {p : Nat -> Prop} {w : World} (t : Bool) (r : Rx) (hv : aC r = true) (hc : az r <= 1000000000000) (hp : ∀ b, p b -> b < w.heap.size) {K : Int} (hK : K = r.kind) {A B : Option Addr} {n c m d : Nat} (h : ak p w r A n c B m d) : Calls Tryz.prog 52 #[.agg #[.int .i64 K, .slice A n c, .slice B m d], .bool t] w (dB p w (normR t r)) := Nb t _ r (Nat.le_refl _) hv hc p w K A B n c m d hK hp h
theorem Wu {w : World} (r : Rx) (hc : az r <= 1000000000000) (K : Int) (hK : K = r.kind) {A B : Option Addr} {n c m d : Nat} (h : aI w r A n c B m d) : Calls Tryz.prog 20 #[.agg #[.int .i64 K, .slice A n c, .slice B m d]] w (dB (fun b => b < w.heap.size) w (if aC r = true then normR false r else .mk 0 [] [])) := by
 have HX := LH (aI w r A n c B m d /\ K = r.kind /\ az r <= 1000000000000) ⟨h, hK, hc⟩;have bK := LH (ae ((w.alloc (zC K A n c B m d)).alloc zR) w.heap.size (zV K A n c B m d) 25) ((ae.at w (zV K A n c B m d) _ 25 _ rfl rfl).alloc _);have HZ := LH (ae ((w.alloc (zC K A n c B m d)).alloc zR) (w.heap.size + 1) zL 25) (ae.at (w.alloc (zC K A n c B m d)) zL _ 25 _ rfl (by simp));have bO := aS bK.out;obtain ⟨R, hR⟩ := eX (if aC r = true then normR false r else .mk 0 [] [])
 rw [<- hR]
 by_cases hv : aC r = true
 ·have HV := LH (true = aC r) hv.symm;have HE := LH (R = normR false r) (by rw [hR, if_pos hv]);clear h hK hc hv hR;go_enter Tryz.func20, Tryz.ntmps20
  go_wp2_with (first
   |(refine aG rfl (.tmp 1) rfl w.heap.size (0) rfl K A B n c m d bO ?_)
   |((with_reducible refine (xG HX.out.2.1 (HX.out.1.below (aF (ai _ _) _)) true HV.out).mono ?_); rintro e w1 hp; obtain ⟨rfl, hb⟩ := aV hp; have H1 := LH (Bw w w1) (ah (aF (ai _ _) _) hb); have iY := Lh (HZ.out.below hb (by simp)); have nI := aS (bK.out.below hb (by simp; omega)); clear hp hb)
   |(refine aG rfl (.tmp 1) rfl w.heap.size (0) rfl K A B n c m d nI ?_)
   |((with_reducible refine (Lm (p := fun b => b < w.heap.size) false r HV.out.symm HX.out.2.2 (fun b hb => by have := H1.out.size; omega) HX.out.2.1 (HX.out.1.toP.below H1.out)).mono ?_); rintro e w8 hp; rw [<- HE.out] at hp; obtain ⟨A8, n8, c8, B8, m8, d8, rfl, h8, aK⟩ := dV hp; obtain ⟨K8, aX⟩ := eX R.kind; rw [<- aX]; have H8 := LH (ak (fun b => b < w.heap.size \/ w1.heap.size <= b) w8 R A8 n8 c8 B8 m8 d8 /\ Bw w1 w8 /\ K8 = R.kind) ⟨h8, aK, aX⟩; clear hp h8 aK aX)
   |(refine wB rfl 25 (.tmp 2) (.tmp 8) rfl (w.heap.size + 1) 0 rfl (zV K8 A8 n8 c8 B8 m8 d8) rfl (iY.out.below H8.out.2.1 iY.out.lt) 3 au ?_; intro w9 ag; have aB := Lh (And.intro ag.1 (And.intro (ag.below (ah H1.out H8.out.2.1) (by omega)) (il H8.out.1 ag (fun b hb => by have h1 := iY.out.lt; omega)))); clear ag))
  exact cK rfl (w.heap.size + 1) rfl (C := (zV K8 A8 n8 c8 B8 m8 d8)) (T := 25) (by simpa using aB.out.1) _ Tryz.underlying25 rfl au rfl (by
   rw [H8.out.2.2];exact ⟨_, _, _, _, _, _, rfl, aB.out.2.2.mono (fun b hb => hb.imp id (fun h => by have h1 := H1.out.size; omega)), aB.out.2.1⟩)
 ·have HV := LH (false = aC r) (by simpa using hv);have HE := LH (R = .mk 0 [] []) (by rw [hR, if_neg hv]);clear h hK hc hv hR;go_enter Tryz.func20, Tryz.ntmps20
  go_wp2_with (first
   |(refine aG rfl (.tmp 1) rfl w.heap.size (0) rfl K A B n c m d bO ?_)
   |((with_reducible refine (xG HX.out.2.1 (HX.out.1.below (aF (ai _ _) _)) false HV.out).mono ?_); rintro e w1 hp; obtain ⟨rfl, hb⟩ := aV hp; have H1 := LH (Bw w w1) (ah (aF (ai _ _) _) hb); have iY := Lh (HZ.out.below hb (by simp)); have nI := aS (bK.out.below hb (by simp; omega)); clear hp hb)
   |(refine wB rfl 25 (.tmp 2) (.tmp 6) rfl (w.heap.size + 1) 0 rfl zL rfl iY.out 3 au ?_; intro w9 ag; have aB := Lh (And.intro ag.1 (ag.below H1.out (by omega))); clear ag))
  exact cK rfl (w.heap.size + 1) rfl (C := zL) (T := 25) (by simpa using aB.out.1) _ Tryz.underlying25 rfl au rfl (by rw [HE.out]; exact lI (ak.flat _ w9 (by constructor <;> decide)) (fun b hb => .inl hb) aB.out.2)
theorem RY {w : World} (r : Rx) (hc : az r <= 1000000000000) (K : Int) (hK : K = r.kind) {A B : Option Addr} {n c m d : Nat} (h : aI w r A n c B m d) : Calls Tryz.prog 22 #[.agg #[.int .i64 K, .slice A n c, .slice B m d]] w (dB (fun b => b < w.heap.size) w (if aC r = true then normR true r else .mk 0 [] [])) := by
 have HX := LH (aI w r A n c B m d /\ K = r.kind /\ az r <= 1000000000000) ⟨h, hK, hc⟩;have bK := LH (ae ((w.alloc (zC K A n c B m d)).alloc zR) w.heap.size (zV K A n c B m d) 25) ((ae.at w (zV K A n c B m d) _ 25 _ rfl rfl).alloc _);have HZ := LH (ae ((w.alloc (zC K A n c B m d)).alloc zR) (w.heap.size + 1) zL 25) (ae.at (w.alloc (zC K A n c B m d)) zL _ 25 _ rfl (by simp));have bO := aS bK.out;obtain ⟨R, hR⟩ := eX (if aC r = true then normR true r else .mk 0 [] [])
 rw [<- hR]
 by_cases hv : aC r = true
 ·have HV := LH (true = aC r) hv.symm;have HE := LH (R = normR true r) (by rw [hR, if_pos hv]);clear h hK hc hv hR;go_enter Tryz.func22, Tryz.ntmps22
  go_wp2_with (first
   |(refine aG rfl (.tmp 1) rfl w.heap.size (0) rfl K A B n c m d bO ?_)
   |((with_reducible refine (xG HX.out.2.1 (HX.out.1.below (aF (ai _ _) _)) true HV.out).mono ?_); rintro e w1 hp; obtain ⟨rfl, hb⟩ := aV hp; have H1 := LH (Bw w w1) (ah (aF (ai _ _) _) hb); have iY := Lh (HZ.out.below hb (by simp)); have nI := aS (bK.out.below hb (by simp; omega)); clear hp hb)
   |(refine aG rfl (.tmp 1) rfl w.heap.size (0) rfl K A B n c m d nI ?_)
   |((with_reducible refine (Lm (p := fun b => b < w.heap.size) true r HV.out.symm HX.out.2.2 (fun b hb => by have := H1.out.size; omega) HX.out.2.1 (HX.out.1.toP.below H1.out)).mono ?_); rintro e w8 hp; rw [<- HE.out] at hp; obtain ⟨A8, n8, c8, B8, m8, d8, rfl, h8, aK⟩ := dV hp; obtain ⟨K8, aX⟩ := eX R.kind; rw [<- aX]; have H8 := LH (ak (fun b => b < w.heap.size \/ w1.heap.size <= b) w8 R A8 n8 c8 B8 m8 d8 /\ Bw w1 w8 /\ K8 = R.kind) ⟨h8, aK, aX⟩; clear hp h8 aK aX)
   |(refine wB rfl 25 (.tmp 2) (.tmp 8) rfl (w.heap.size + 1) 0 rfl (zV K8 A8 n8 c8 B8 m8 d8) rfl (iY.out.below H8.out.2.1 iY.out.lt) 3 au ?_; intro w9 ag; have aB := Lh (And.intro ag.1 (And.intro (ag.below (ah H1.out H8.out.2.1) (by omega)) (il H8.out.1 ag (fun b hb => by have h1 := iY.out.lt; omega)))); clear ag))
  exact cK rfl (w.heap.size + 1) rfl (C := (zV K8 A8 n8 c8 B8 m8 d8)) (T := 25) (by simpa using aB.out.1) _ Tryz.underlying25 rfl au rfl (by
   rw [H8.out.2.2];exact ⟨_, _, _, _, _, _, rfl, aB.out.2.2.mono (fun b hb => hb.imp id (fun h => by have h1 := H1.out.size; omega)), aB.out.2.1⟩)
 ·have HV := LH (false = aC r) (by simpa using hv);have HE := LH (R = .mk 0 [] []) (by rw [hR, if_neg hv]);clear h hK hc hv hR;go_enter Tryz.func22, Tryz.ntmps22
  go_wp2_with (first
   |(refine aG rfl (.tmp 1) rfl w.heap.size (0) rfl K A B n c m d bO ?_)
   |((with_reducible refine (xG HX.out.2.1 (HX.out.1.below (aF (ai _ _) _)) false HV.out).mono ?_); rintro e w1 hp; obtain ⟨rfl, hb⟩ := aV hp; have H1 := LH (Bw w w1) (ah (aF (ai _ _) _) hb); have iY := Lh (HZ.out.below hb (by simp)); have nI := aS (bK.out.below hb (by simp; omega)); clear hp hb)
   |(refine wB rfl 25 (.tmp 2) (.tmp 6) rfl (w.heap.size + 1) 0 rfl zL rfl iY.out 3 au ?_; intro w9 ag; have aB := Lh (And.intro ag.1 (ag.below H1.out (by omega))); clear ag))
  exact cK rfl (w.heap.size + 1) rfl (C := zL) (T := 25) (by simpa using aB.out.1) _ Tryz.underlying25 rfl au rfl (by rw [HE.out]; exact lI (ak.flat _ w9 (by constructor <;> decide)) (fun b hb => .inl hb) aB.out.2)
structure fF (w W : World) (g bx br : Nat) (Ax : Option Addr) (nx cx : Nat) (Bx : Option Addr) (mx dx b5 : Nat) : Prop where
 rx : W.rangeAt bx 0 (zV 3 Ax nx cx Bx mx dx)
 rr : W.rangeAt br 0 (zV 5 none 0 0 (pt b5) 1 1)
 ox : aI W iD Ax nx cx Bx mx dx
 orr : aI W j3 none 0 0 (pt b5) 1 1
 rd : Rd W (pt g) (lv ku)
 db : DB W
 bl : Bw w W
theorem fF.below {w W W2 : World} {g bx br : Nat} {Ax : Option Addr} {nx cx : Nat} {Bx : Option Addr} {mx dx b5 : Nat} (h : fF w W g bx br Ax nx cx Bx mx dx b5) (hb : Bw W W2) : fF w W2 g bx br Ax nx cx Bx mx dx b5 := ⟨fun j u hu => (hb.cell (p := ⟨bx, 0 + j, none⟩) (World.block_lt_of_cell? W _ (h.rx j u hu))).trans (h.rx j u hu), fun j u hu => (hb.cell (p := ⟨br, 0 + j, none⟩) (World.block_lt_of_cell? W _ (h.rr j u hu))).trans (h.rr j u hu), h.ox.below hb, h.orr.below hb, h.rd.below hb, h.db.below hb, ah h.bl hb⟩
theorem Fy {w : World} {b : Nat} {s : List Int} {T : TypeId} (h : ae w b (iv s) T) (hi : ∀ x ∈ s, fM x) (hl : s.length <= 1000000000) : ak (fun _ => True) w (.mk 2 s []) (pt b) s.length s.length none 0 0 :=
 ak.make (by constructor <;> decide) hi rfl (Nat.le_refl _) (by unfold maxLen; omega) (.inr ⟨b, 0, rfl, fun k v hv => by rw [Nat.zero_add]; exact h.cell hv⟩) (fun _ _ _ _ => trivial) rfl (Nat.le_refl _) (Nat.zero_le _) (fun i hi => absurd hi (by simp)) (fun h => absurd rfl h)
theorem QU {w : World} {b4 b5 : Nat} (h4 : ae w b4 [.int .i64 1, .int .i64 2] 3) (h5 : ae w b5 (zV 2 (pt b4) 2 2 none 0 0) 25) : aI w j3 none 0 0 (pt b5) 1 1 := by
 have h1 := Fy (s := [1, 2]) h4 (by intro x hx; constructor <;> simp at hx <;> omega) (by decide);exact (ut (q := fun _ => True) 5 (by constructor <;> decide) (aM.one h1.q) (by decide) h5 trivial).o
theorem Tz {w : World} {b9 DN b5 : Nat} (hr : aI w j3 none 0 0 (pt b5) 1 1) (h9 : ae w b9 [.int .i64 0] 3) (h10 : ae w DN [.int .i64 2, .slice (pt b9) 1 1, .slice none 0 0, .int .i64 5, .slice none 0 0, .slice (pt b5) 1 1] 25) : aI w iD none 0 0 (pt DN) 2 2 := by
 have h1 := Fy (s := [0]) h9 (by intro x hx; constructor <;> simp at hx <;> omega) (by decide);exact (ut (q := fun _ => True) 3 (by constructor <;> decide) (aM.app (aM.one h1.q) (aM.one (hr.toP.mono (q := fun _ => True) fun _ _ => trivial).q)) (by decide) h10 trivial).o
theorem VU {w : World} {DN b5 : Nat} (hr : aI w j3 none 0 0 (pt b5) 1 1) (h10 : ae w DN [.int .i64 1, .slice none 0 0, .slice none 0 0, .int .i64 5, .slice none 0 0, .slice (pt b5) 1 1] 25) : aI w CY none 0 0 (pt DN) 2 2 :=
 (ut (q := fun _ => True) 4 (by constructor <;> decide) (aM.app (aM.one (ak.flat _ w (K := 1) (by constructor <;> decide)).q) (aM.one (hr.toP.mono (q := fun _ => True) fun _ _ => trivial).q)) (by decide) h10 trivial).o
section
variable {w W : World} {g bx br : Nat} {Ax : Option Addr} {nx cx : Nat} {Bx : Option Addr} {mx dx b5 : Nat}
theorem Rb (h : fF w W g bx br Ax nx cx Bx mx dx b5) : Calls Tryz.prog 14 #[.agg #[.int .i64 3, .slice Ax nx cx, .slice Bx mx dx]] W (aU W true) := qQ (r := iD) rfl h.ox true FB.symm
theorem Ut (h : fF w W g bx br Ax nx cx Bx mx dx b5) : Calls Tryz.prog 16 #[.agg #[.int .i64 3, .slice Ax nx cx, .slice Bx mx dx]] W (aU W false) := Ir iD h.ox false Rf.symm
theorem UU (h : fF w W g bx br Ax nx cx Bx mx dx b5) : Calls Tryz.prog 16 #[.agg #[.int .i64 5, .slice none 0 0, .slice (pt b5) 1 1]] W (aU W true) := Ir j3 h.orr true Sg.symm
theorem R9 (h : fF w W g bx br Ax nx cx Bx mx dx b5) {A B : Option Addr} {n c m d : Nat} (h1 : aI W j3 A n c B m d) : Calls Tryz.prog 18 #[.agg #[.int .i64 5, .slice A n c, .slice B m d], .agg #[.int .i64 5, .slice none 0 0, .slice (pt b5) 1 1]] W (aU W true) := BN (r := j3) (t := j3) rfl rfl true (by kernel_rfl) h1 h.orr
theorem Rp (h : fF w W g bx br Ax nx cx Bx mx dx b5) {b : Nat} (h1 : aI W CY none 0 0 (pt b) 2 2) : Calls Tryz.prog 19 #[.agg #[.int .i64 4, .slice none 0 0, .slice (pt b) 2 2]] W (fun e w' => ∃ A n c B m d, e = .returned (.agg #[.int .i64 5, .slice A n c, .slice B m d]) /\ aI w' j3 A n c B m d /\ Bw W w') := (FJ h.db CY (by have := xD.2.2; omega) h1).mono fun e w' hp => by
 rw [VC] at hp;obtain ⟨A, n, c, B, m, d, rfl, hx, hb⟩ := dV hp;exact ⟨A, n, c, B, m, d, rfl, hx.o, hb⟩
theorem Ux (K : Int) (v1 v2 : Value) (w : World) : (Instr.field 25 (.agg #[.int .i64 K, v1, v2]) 0).run Tryz.prog w = .ok (.int .i64 K) w := by kernel_rfl
theorem UH (h : fF w W g bx br Ax nx cx Bx mx dx b5) : Calls Tryz.prog 24 #[.agg #[.int .i64 3, .slice Ax nx cx, .slice Bx mx dx], .int .i64 1] W (fun e w' => ∃ A n c B m d, e = .returned (.agg #[.int .i64 0, .slice A n c, .slice B m d]) /\ Bw W w') := (KN h.db 1 iD (by have := xD.1; omega) h.ox).mono fun e w' hp => by
 rw [Sz] at hp;obtain ⟨A, n, c, B, m, d, rfl, hx, hb⟩ := dV hp;exact ⟨A, n, c, B, m, d, rfl, hb⟩
theorem Wn (h : fF w W g bx br Ax nx cx Bx mx dx b5) : Calls Tryz.prog 21 #[.agg #[.int .i64 3, .slice Ax nx cx, .slice Bx mx dx]] W (fun e w' => ∃ A n c B d, e = .returned (.agg #[.int .i64 3, .slice A n c, .slice B 2 d]) /\ Bw W w') := (KZ h.db iD (by have := xD.1; omega) h.ox).mono fun e w' hp => by
 rw [Uw] at hp;obtain ⟨A, n, c, B, m, d, rfl, hx, hb⟩ := dV hp;obtain rfl : m = 2 := hx.o.mlen;exact ⟨A, n, c, B, d, rfl, hb⟩
end
theorem U5 (w : World) (hd : DB w) : Calls Tryz.prog 23 #[] w (aU w true) := by
 have gM := Lh hd;have HABC := Lh (RG w);have HP0 := LH (∀ g W, Rd W (pt g) (lv ku) -> DB W -> Cz 32 #[.string ⟨#[97, 40, 98, 124, 99, 41, 42]⟩, .slice (pt g) 3 3, .slice none 0 0] W (fun e w' => ∃ A n c B m d, e = .returned (.tuple #[.agg #[.int .i64 3, .slice A n c, .slice B m d], .int .i64 (-1)]) /\ aI w' iD A n c B m d /\ Bw W w')) fun g W hL hd => FC [97, 40, 98, 124, 99, 41, 42] (by decide) iD (-1) (fun X x v a b c d => RD Sd w a b c d) g W hL hd
 have l7 := LH (∀ g W, Rd W (pt g) (lv ku) -> DB W -> Cz 32 #[.string ⟨#[97, 41]⟩, .slice (pt g) 3 3, .slice none 0 0] W (fun e w' => ∃ A n c B m d, e = .returned (.tuple #[.agg #[.int .i64 0, .slice A n c, .slice B m d], .int .i64 1]) /\ aI w' (.mk 0 [] []) A n c B m d /\ Bw W w')) fun g W hL hd => FC [97, 41] (by decide) (.mk 0 [] []) 1 (fun X x v a b c d => Jn (by decide) Tw w a b c d) g W hL hd
 have oC := LH (∀ g W, Rd W (pt g) (lv ku) -> DB W -> Cz 32 #[.string ⟨#[40, 97]⟩, .slice (pt g) 3 3, .slice none 0 0] W (fun e w' => ∃ A n c B m d, e = .returned (.tuple #[.agg #[.int .i64 0, .slice A n c, .slice B m d], .int .i64 2]) /\ aI w' (.mk 0 [] []) A n c B m d /\ Bw W w')) fun g W hL hd => FC [40, 97] (by decide) (.mk 0 [] []) 2 (fun X x v a b c d => Jn (by decide) SC w a b c d) g W hL hd
 have HP3 := LH (∀ g W, Rd W (pt g) (lv ku) -> DB W -> Cz 32 #[.string ⟨#[97, 42, 98, 124, 42]⟩, .slice (pt g) 3 3, .slice none 0 0] W (fun e w' => ∃ A n c B m d, e = .returned (.tuple #[.agg #[.int .i64 0, .slice A n c, .slice B m d], .int .i64 4]) /\ aI w' (.mk 0 [] []) A n c B m d /\ Bw W w')) fun g W hL hd => FC [97, 42, 98, 124, 42] (by decide) (.mk 0 [] []) 4 (fun X x v a b c d => Jn (by decide) SV w a b c d) g W hL hd
 clear hd;go_enter Tryz.func23, Tryz.ntmps23
 go_upto_region 4 with (first
  |((with_reducible refine HABC.out.mono ?_); rintro e w1 ⟨g, rfl, hL1, hb1⟩; have H1 := LH (Rd w1 (pt g) (lv ku) /\ Bw w w1) ⟨hL1, hb1⟩; have yt := Lh (HP0.out g w1 hL1 (gM.out.below hb1)); clear hL1 hb1)
  |((with_reducible refine yt.out.mono ?_); rintro e w2 ⟨Ax, nx, cx, Bx, mx, dx, rfl, hx, hb2⟩; have H2 := LH (aI w2 iD Ax nx cx Bx mx dx /\ Bw w1 w2) ⟨hx, hb2⟩; clear hx hb2)
  |(refine wB rfl 25 (.tmp 2) (.tmp 17) rfl w2.heap.size 0 rfl (zV 3 Ax nx cx Bx mx dx) rfl (ae.new' w2 zL _ 25 rfl) 3 au ?_; intro w3 ag; have jm := LH (ae w3 w2.heap.size (zV 3 Ax nx cx Bx mx dx) 25 /\ Bw w2 w3) (dC ag); clear ag; skip)
  |((with_reducible refine (xN (pt w3.heap.size) 2 2 (w3.alloc (.cells #[.int .i64 1, .int .i64 2] 3))).mono ?_); rintro e w5 ⟨rfl, bq⟩; have H5 := LH (Below (w3.alloc (.cells #[.int .i64 1, .int .i64 2] 3)).heap.size (w3.alloc (.cells #[.int .i64 1, .int .i64 2] 3)) w5) bq; clear bq)
  |((with_reducible refine (p8 5 (pt w5.heap.size) 1 1 (w5.alloc (zC 2 (pt w3.heap.size) 2 2 none 0 0))).mono ?_); rintro e w7 ⟨rfl, jf⟩; have H7 := LH (Below (w5.alloc (zC 2 (pt w3.heap.size) 2 2 none 0 0)).heap.size (w5.alloc (zC 2 (pt w3.heap.size) 2 2 none 0 0)) w7) jf; clear jf)
  |(refine wB rfl 25 (.tmp 4) (.tmp 22) rfl w7.heap.size 0 rfl (zV 5 none 0 0 (pt w5.heap.size) 1 1) rfl (ae.new' w7 zL _ 25 rfl) 3 au ?_; intro w8 ag; have qM := LH (ae w8 w7.heap.size (zV 5 none 0 0 (pt w5.heap.size) 1 1) 25 /\ Bw w7 w8) (dC ag); clear ag; skip))
 obtain ⟨b5, bq⟩ := eX w5.heap.size;obtain ⟨bx, mq⟩ := eX w2.heap.size;obtain ⟨br, hbr⟩ := eX w7.heap.size;have HL8 := LH (fF w w8 g bx br Ax nx cx Bx mx dx b5) (by
  have a3 : Bw w2 w3 := jm.out.2;have a4 : Bw w3 (w3.alloc (.cells #[.int .i64 1, .int .i64 2] 3)) := ai _ _;have k4 : ae (w3.alloc (.cells #[.int .i64 1, .int .i64 2] 3)) w3.heap.size [.int .i64 1, .int .i64 2] 3 := ae.at w3 _ _ 3 _ rfl rfl;have a6 : Bw w5 (w5.alloc (zC 2 (pt w3.heap.size) 2 2 none 0 0)) := ai _ _;have k6 : ae (w5.alloc (zC 2 (pt w3.heap.size) 2 2 none 0 0)) w5.heap.size (zV 2 (pt w3.heap.size) 2 2 none 0 0) 25 := ae.at w5 _ _ 25 _ rfl rfl;have a8 : Bw w7 w8 := qM.out.2;have b58 : Below (w5.alloc (zC 2 (pt w3.heap.size) 2 2 none 0 0)).heap.size (w5.alloc (zC 2 (pt w3.heap.size) 2 2 none 0 0)) w8 := ah H7.out a8;have b48 : Below (w3.alloc (.cells #[.int .i64 1, .int .i64 2] 3)).heap.size (w3.alloc (.cells #[.int .i64 1, .int .i64 2] 3)) w8 := ah (ah H5.out a6) b58;have b38 : Bw w3 w8 := ah a4 b48;have b28 : Bw w2 w8 := ah a3 b38;have b18 : Bw w1 w8 := ah H2.out.2 b28;rw [bq, mq, hbr];exact ⟨aS (jm.out.1.below b38 jm.out.1.lt), aS qM.out.1, H2.out.1.below b28, QU (k4.below b48 k4.lt) (k6.below b58 k6.lt), H1.out.1.below b18, gM.out.below (ah H1.out.2 b18), ah H1.out.2 b18⟩)
 rw [<- bq, <- mq, <- hbr];clear bq mq hbr;clear H1 yt H2 jm H5 H7 qM;have HL9 := LH (fF w w8.drew g bx br Ax nx cx Bx mx dx b5) (HL8.out.below (below_drewN (Below.refl _ _) 1));refine wp_region_held_drew (S := fun w' => w'.rangeAt bx 0 (zV 3 Ax nx cx Bx mx dx) /\ w'.rangeAt br 0 (zV 5 none 0 0 (pt b5) 1 1)) (by kernel_rfl) (⟨HL9.out.rx, HL9.out.rr⟩) (fun cO => ?_);refine aL 0 ?_;refine aL 1 ?_;refine aL 2 ?_;refine wX 3 rfl (yieldsIf_load_mid (by rfl) _ _ rfl _ _ rfl _ _ (fun w h => h.1) Tryz.underlying25 rfl au) ?_;refine wX 6 rfl (yieldsIf_load_mid (by rfl) _ _ rfl _ _ rfl _ _ (fun w h => h.2) Tryz.underlying25 rfl au) ?_;refine wpAnyH_ready (rs := [4]) (by kernel_rfl) (by simp) ?_;refine wA rfl (fun KK hK => ?_) AllReadyH.nil
 go_simp;have GR := LH (fF w (w8.alloc (.cells #[.int .i64 0] 3)).drew g bx br Ax nx cx Bx mx dx b5 /\ ae (w8.alloc (.cells #[.int .i64 0] 3)).drew w8.heap.size [.int .i64 0] 3) ⟨HL8.out.below (ai _ _).drew, ae.at w8 _ _ 3 _ rfl rfl⟩;have Hd := Lh GR.out.1;refine hK.out _ _ ⟨Hd.out.rx, Hd.out.rr⟩ (fun hS1 => ?_);clear hK KK cO;(try simp only [Act.put, pP]);refine wpAnyH_ready (rs := [5]) (by kernel_rfl) (by simp) ?_;refine wA rfl (fun KK hK => ?_) AllReadyH.nil
 go_simp;go_at_call 55;refine (xN (pt w8.heap.size) 1 1 (w8.alloc (.cells #[.int .i64 0] 3)).drew).mono ?_;rintro e gL ⟨rfl, qE⟩;have GL := LH (fF w gL g bx br Ax nx cx Bx mx dx b5) (Hd.out.below qE);have JV := LH (ae gL w8.heap.size [.int .i64 0] 3) (GR.out.2.below qE GR.out.2.lt);clear qE;refine hK.out _ _ ⟨GL.out.rx, GL.out.rr⟩ (fun dh => ?_);clear hK KK hS1;(try simp only [Act.put, pP]);refine wpAnyH_ready (rs := [7]) (by kernel_rfl) (by simp) ?_;refine wA rfl (fun KK hK => ?_) AllReadyH.nil
 go_simp;have G7 := LH (fF w (gL.alloc (.cells #[.int .i64 2, .slice (pt w8.heap.size) 1 1, .slice none 0 0, .int .i64 5, .slice none 0 0, .slice (pt b5) 1 1] 25)) g bx br Ax nx cx Bx mx dx b5) (GL.out.below (ai _ _));have EZ := LH (ae (gL.alloc (.cells #[.int .i64 2, .slice (pt w8.heap.size) 1 1, .slice none 0 0, .int .i64 5, .slice none 0 0, .slice (pt b5) 1 1] 25)) w8.heap.size [.int .i64 0] 3 /\ ae (gL.alloc (.cells #[.int .i64 2, .slice (pt w8.heap.size) 1 1, .slice none 0 0, .int .i64 5, .slice none 0 0, .slice (pt b5) 1 1] 25)) gL.heap.size [.int .i64 2, .slice (pt w8.heap.size) 1 1, .slice none 0 0, .int .i64 5, .slice none 0 0, .slice (pt b5) 1 1] 25) ⟨JV.out.below (ai _ _) JV.out.lt, ae.at gL _ _ 25 _ rfl rfl⟩;refine hK.out _ _ ⟨G7.out.rx, G7.out.rr⟩ (fun kV => ?_);clear hK KK dh;(try simp only [Act.put, pP]);refine wpAnyH_ready (rs := [8]) (by kernel_rfl) (by simp) ?_;refine wA rfl (fun KK hK => ?_) AllReadyH.nil
 go_simp;go_at_call 40;refine (p8 3 (pt gL.heap.size) 2 2 (gL.alloc (.cells #[.int .i64 2, .slice (pt w8.heap.size) 1 1, .slice none 0 0, .int .i64 5, .slice none 0 0, .slice (pt b5) 1 1] 25))).mono ?_;rintro e jP ⟨rfl, GI⟩;have Bt := LH (fF w jP g bx br Ax nx cx Bx mx dx b5) (G7.out.below GI);have Pw := LH (aI jP iD none 0 0 (pt gL.heap.size) 2 2) (Tz Bt.out.orr (EZ.out.1.below GI EZ.out.1.lt) (EZ.out.2.below GI EZ.out.2.lt));clear GI;refine hK.out _ _ ⟨Bt.out.rx, Bt.out.rr⟩ (fun Dr => ?_);clear hK KK kV;(try simp only [Act.put, pP]);refine wpAnyH_ready (rs := [9]) (by kernel_rfl) (by simp) ?_;refine wA rfl (fun KK hK => ?_) AllReadyH.nil
 go_simp;go_at_call 18;refine (BN (r := iD) (t := iD) rfl rfl true (by kernel_rfl) Bt.out.ox Pw.out).mono ?_;rintro e Ao hp;obtain ⟨rfl, O5⟩ := aV hp;have Br := LH (fF w Ao g bx br Ax nx cx Bx mx dx b5) (Bt.out.below O5);clear hp O5;refine hK.out _ _ ⟨Br.out.rx, Br.out.rr⟩ (fun EN => ?_);clear hK KK Dr;(try simp only [Act.put, pP]);refine aL 10 ?_;refine aL 11 ?_;refine wpAnyH_done (by kernel_rfl) ?_ _;clear HL9 GR Hd GL JV G7 EZ Bt Pw EN HL8;have yt := Lh (l7.out g Ao Br.out.rd Br.out.db)
 go_upto_region 7 with (first
  |((with_reducible refine yt.out.mono ?_); rintro e mg ⟨Ai, ni, ci, Bi, mi, di, rfl, _, hb⟩; have PM := LH (fF w mg g bx br Ax nx cx Bx mx dx b5) (Br.out.below hb); clear hb)
  |(refine wB rfl 25 (.tmp 5) (.tmp 38) rfl mg.heap.size 0 rfl (zV 0 Ai ni ci Bi mi di) rfl (ae.new' mg zL _ 25 rfl) 3 au ?_; intro qo ag; have tK := LH (ae qo mg.heap.size (zV 0 Ai ni ci Bi mi di) 25 /\ Bw mg qo) (dC ag); clear ag; have GN := LH (fF w qo g bx br Ax nx cx Bx mx dx b5) (PM.out.below tK.out.2); clear tK))
 clear yt PM Br;have mh := Lh (oC.out g qo GN.out.rd GN.out.db)
 go_upto_region 8 with (first
  |((with_reducible refine mh.out.mono ?_); rintro e Dv ⟨Aj, nj, cj, Bj, mj, dj, rfl, _, hb⟩; have Pf := LH (fF w Dv g bx br Ax nx cx Bx mx dx b5) (GN.out.below hb); clear hb)
  |(refine wB rfl 25 (.tmp 7) (.tmp 43) rfl Dv.heap.size 0 rfl (zV 0 Aj nj cj Bj mj dj) rfl (ae.new' Dv zL _ 25 rfl) 3 au ?_; intro w17 ag; have Ps := LH (ae w17 Dv.heap.size (zV 0 Aj nj cj Bj mj dj) 25 /\ Bw Dv w17) (dC ag); clear ag; have GZ := LH (fF w w17 g bx br Ax nx cx Bx mx dx b5) (Pf.out.below Ps.out.2); clear Ps))
 clear mh Pf GN;have BG := Lh (HP3.out g w17 GZ.out.rd GZ.out.db)
 go_upto_region 9 with (first
  |((with_reducible refine BG.out.mono ?_); rintro e Eo ⟨Ak, nk, ck, Bk, mk, dk, rfl, _, hb⟩; have Pd := LH (fF w Eo g bx br Ax nx cx Bx mx dx b5) (GZ.out.below hb); clear hb)
  |(refine wB rfl 25 (.tmp 9) (.tmp 48) rfl Eo.heap.size 0 rfl (zV 0 Ak nk ck Bk mk dk) rfl (ae.new' Eo zL _ 25 rfl) 3 au ?_; intro w19 ag; have Ph := LH (ae w19 Eo.heap.size (zV 0 Ak nk ck Bk mk dk) 25 /\ Bw Eo w19) (dC ag); clear ag; have Bv := LH (fF w w19 g bx br Ax nx cx Bx mx dx b5) (Pd.out.below Ph.out.2); clear Ph))
 clear BG Pd GZ;have PN := Lh (Vo g Ax Bx nx cx mx dx w19 Bv.out.ox Bv.out.rd Bv.out.db)
 go_upto_region 11 with (first
  |(refine lY (by rfl) (.tmp 2) rfl bx 0 rfl 3 Ax Bx nx cx mx dx Bv.out.rx ?_)
  |((with_reducible refine PN.out.mono ?_); rintro e w20 ⟨rfl, hb⟩; have G9 := LH (fF w w20 g bx br Ax nx cx Bx mx dx b5) (Bv.out.below hb); clear hb)
  |(refine lY (by rfl) (.tmp 2) rfl bx 0 rfl 3 Ax Bx nx cx mx dx G9.out.rx ?_)
  |((with_reducible refine (Rb G9.out).mono ?_); rintro e w21 hp; obtain ⟨rfl, hb⟩ := aV hp; have He := LH (fF w w21 g bx br Ax nx cx Bx mx dx b5) (G9.out.below hb); clear hp hb)
  |(refine lY (by rfl) (.tmp 2) rfl bx 0 rfl 3 Ax Bx nx cx mx dx He.out.rx ?_)
  |((with_reducible refine (Ut He.out).mono ?_); rintro e w22 hp; obtain ⟨rfl, hb⟩ := aV hp; have GU := LH (fF w w22 g bx br Ax nx cx Bx mx dx b5) (He.out.below hb); clear hp hb)
  |(refine lY (by rfl) (.tmp 4) rfl br 0 rfl 5 none (pt b5) 0 0 1 1 GU.out.rr ?_)
  |((with_reducible refine (UU GU.out).mono ?_); rintro e w23 hp; obtain ⟨rfl, hb⟩ := aV hp; have OY := LH (fF w w23 g bx br Ax nx cx Bx mx dx b5) (GU.out.below hb); clear hp hb))
 clear PN Bv G9 He GU;have AV := LH (fF w w23.drew g bx br Ax nx cx Bx mx dx b5) (OY.out.below (below_drewN (Below.refl _ _) 1));refine wp_region_held_drew (S := fun w' => w'.rangeAt bx 0 (zV 3 Ax nx cx Bx mx dx) /\ w'.rangeAt br 0 (zV 5 none 0 0 (pt b5) 1 1)) (by kernel_rfl) (⟨AV.out.rx, AV.out.rr⟩) (fun cO => ?_);refine wX 0 rfl (yieldsIf_load_mid (by rfl) _ _ rfl _ _ rfl _ _ (fun w h => h.1) Tryz.underlying25 rfl au) ?_;refine wX 2 rfl (yieldsIf_load_mid (by rfl) _ _ rfl _ _ rfl _ _ (fun w h => h.2) Tryz.underlying25 rfl au) ?_;refine wpAnyH_ready (rs := [1]) (by kernel_rfl) (by simp) ?_;refine wA rfl (fun KK hK => ?_) AllReadyH.nil
 go_simp;go_at_call 24;refine (KN AV.out.db 0 iD (by have := xD.1; omega) AV.out.ox).mono ?_;rintro e w25 hp;obtain ⟨Ad, nd, cd, Bd, md, dd, rfl, hx, hb⟩ := dV hp;rw [WC] at hx ⊢;have Ew := LH (fF w w25 g bx br Ax nx cx Bx mx dx b5) (AV.out.below hb);have O0 := LH (aI w25 j3 Ad nd cd Bd md dd) hx.o;clear hp hx hb;refine hK.out _ _ ⟨Ew.out.rx, Ew.out.rr⟩ (fun hS1 => ?_);clear hK KK cO;(try simp only [Act.put, pP]);refine wpAnyH_ready (rs := [3]) (by kernel_rfl) (by simp) ?_;refine wA rfl (fun KK hK => ?_) AllReadyH.nil
 go_simp;go_at_call 18;refine (BN (r := j3) (t := j3) rfl rfl true (by kernel_rfl) O0.out Ew.out.orr).mono ?_;rintro e w26 hp;obtain ⟨rfl, hb⟩ := aV hp;have EQ := LH (fF w w26 g bx br Ax nx cx Bx mx dx b5) (Ew.out.below hb);clear hp hb;refine hK.out _ _ ⟨EQ.out.rx, EQ.out.rr⟩ (fun dh => ?_);clear hK KK hS1;(try simp only [Act.put, pP]);refine aL 4 ?_;refine aL 5 ?_;refine wX 6 rfl (yieldsIf_load_mid (by rfl) _ _ rfl _ _ rfl _ _ (fun w h => h.1) Tryz.underlying25 rfl au) ?_;refine wpAnyH_ready (rs := [7]) (by kernel_rfl) (by simp) ?_;refine wA rfl (fun KK hK => ?_) AllReadyH.nil
 go_simp;go_at_call 24;refine (UH EQ.out).mono ?_;rintro e yB ⟨Ae, ne, ce, Be, me, de, rfl, hb⟩;have Dp := LH (fF w yB g bx br Ax nx cx Bx mx dx b5) (EQ.out.below hb);have hk9 := fun W => Ux 0 (.slice Ae ne ce) (.slice Be me de) W
 clear hb;refine hK.out _ _ ⟨Dp.out.rx, Dp.out.rr⟩ (fun kV => ?_);clear hK KK dh;(try simp only [Act.put, pP]);refine aL 8 ?_;refine aL 9 ?_;refine aL 10 ?_;refine wpAnyH_done (by kernel_rfl) ?_ _;clear AV Ew O0 EQ OY;have PE := LH (fF w (yB.alloc (.cells #[.int .i64 1, .slice none 0 0, .slice none 0 0, .int .i64 5, .slice none 0 0, .slice (pt b5) 1 1] 25)) g bx br Ax nx cx Bx mx dx b5) (Dp.out.below (ai _ _));have Kr := LH (ae (yB.alloc (.cells #[.int .i64 1, .slice none 0 0, .slice none 0 0, .int .i64 5, .slice none 0 0, .slice (pt b5) 1 1] 25)) yB.heap.size [.int .i64 1, .slice none 0 0, .slice none 0 0, .int .i64 5, .slice none 0 0, .slice (pt b5) 1 1] 25) (ae.at yB _ _ 25 _ rfl rfl)
 go_upto_region 15 with (first
  |(refine aG rfl (.tmp 4) rfl br 0 rfl 5 none (pt b5) 0 0 1 1 Dp.out.rr ?_)
  |((with_reducible refine (p8 4 (pt yB.heap.size) 2 2 (yB.alloc (.cells #[.int .i64 1, .slice none 0 0, .slice none 0 0, .int .i64 5, .slice none 0 0, .slice (pt b5) 1 1] 25))).mono ?_); rintro e w29 ⟨rfl, hb⟩; have Hm := LH (fF w w29 g bx br Ax nx cx Bx mx dx b5) (PE.out.below hb); have PK := Lh (Rp Hm.out (VU Hm.out.orr (Kr.out.below hb Kr.out.lt))); clear hb)
  |((with_reducible refine PK.out.mono ?_); rintro e tH ⟨Ay, ny, cy, By, my, dy, rfl, hx, hb⟩; have JQ := LH (fF w tH g bx br Ax nx cx Bx mx dx b5 /\ aI tH j3 Ay ny cy By my dy) ⟨Hm.out.below hb, hx⟩; clear hx hb)
  |(refine wB rfl 25 (.tmp 11) (.tmp 95) rfl tH.heap.size 0 rfl (zV 5 Ay ny cy By my dy) rfl (ae.new' tH zL _ 25 rfl) 3 au ?_; intro DZ ag; have G6 := LH (ae DZ tH.heap.size (zV 5 Ay ny cy By my dy) 25 /\ Bw tH DZ) (dC ag); clear ag; have yz := LH (fF w DZ g bx br Ax nx cx Bx mx dx b5 /\ aI DZ j3 Ay ny cy By my dy /\ ae DZ tH.heap.size (zV 5 Ay ny cy By my dy) 25) ⟨JQ.out.1.below G6.out.2, JQ.out.2.below G6.out.2, G6.out.1⟩; have PO := Lh (Wn yz.out.1); clear G6)
  |(refine aG rfl (.tmp 2) rfl bx 0 rfl 3 Ax Bx nx cx mx dx yz.out.1.rx ?_)
  |((with_reducible refine PO.out.mono ?_); rintro e uQ ⟨Az, nz, cz, Bz, dz, rfl, hb⟩; have Fa := LH (fF w uQ g bx br Ax nx cx Bx mx dx b5 /\ aI uQ j3 Ay ny cy By my dy /\ ae uQ tH.heap.size (zV 5 Ay ny cy By my dy) 25) ⟨yz.out.1.below hb, yz.out.2.1.below hb, yz.out.2.2.below hb yz.out.2.2.lt⟩; clear hb)
  |(refine wB rfl 25 (.tmp 12) (.tmp 97) rfl uQ.heap.size 0 rfl (zV 3 Az nz cz Bz 2 dz) rfl (ae.new' uQ zL _ 25 rfl) 3 au ?_; intro qy ag; have Ex := LH (ae qy uQ.heap.size (zV 3 Az nz cz Bz 2 dz) 25 /\ Bw uQ qy) (dC ag); clear ag; have vK := LH (fF w qy g bx br Ax nx cx Bx mx dx b5 /\ aI qy j3 Ay ny cy By my dy /\ ae qy tH.heap.size (zV 5 Ay ny cy By my dy) 25 /\ ae qy uQ.heap.size (zV 3 Az nz cz Bz 2 dz) 25) ⟨Fa.out.1.below Ex.out.2, Fa.out.2.1.below Ex.out.2, Fa.out.2.2.below Ex.out.2 Fa.out.2.2.lt, Ex.out.1⟩; clear Ex))
 clear Dp PE Kr Hm PK JQ yz PO Fa;have hy33 := aS vK.out.2.2.1;have EK := LH (∀ W, Bw qy W -> fF w W g bx br Ax nx cx Bx mx dx b5 /\ ae W uQ.heap.size (zV 3 Az nz cz Bz 2 dz) 25) fun W hb => ⟨vK.out.1.below hb, vK.out.2.2.2.below hb vK.out.2.2.2.lt⟩
 have HMT4 := LH (∀ W, Bw qy W -> Cz 28 #[.agg #[.int .i64 3, .slice Ax nx cx, .slice Bx mx dx], .slice (pt W.heap.size) 4 4] (W.alloc (.cells #[.int .i64 0, .int .i64 1, .int .i64 2, .int .i64 1] 3)) (aU (W.alloc (.cells #[.int .i64 0, .int .i64 1, .int .i64 2, .int .i64 1] 3)) true)) fun W hb => Mr (r := iD) ((vK.out.1.below hb).below (ai W (.cells #[.int .i64 0, .int .i64 1, .int .i64 2, .int .i64 1] 3))).ox (by have := xD.1; omega) [0, 1, 2, 1] (pt W.heap.size) 4 4 rfl (Nat.le_refl _) (by decide) (by decide) (.inr ⟨W.heap.size, 0, rfl, fun k v hv => by rw [Nat.zero_add]; exact (ae.at W _ _ 3 _ rfl rfl).cell (j := k) hv⟩) true Wt
 have HMT1 := LH (∀ W, Bw qy W -> Cz 28 #[.agg #[.int .i64 3, .slice Ax nx cx, .slice Bx mx dx], .slice (pt W.heap.size) 1 1] (W.alloc (.cells #[.int .i64 1] 3)) (aU (W.alloc (.cells #[.int .i64 1] 3)) false)) fun W hb => Mr (r := iD) ((vK.out.1.below hb).below (ai W (.cells #[.int .i64 1] 3))).ox (by have := xD.1; omega) [1] (pt W.heap.size) 1 1 rfl (Nat.le_refl _) (by decide) (by decide) (.inr ⟨W.heap.size, 0, rfl, fun k v hv => by rw [Nat.zero_add]; exact (ae.at W _ _ 3 _ rfl rfl).cell (j := k) hv⟩) false RV
 go_wp2_with (first
  |(refine aG rfl (.tmp 11) rfl tH.heap.size 0 rfl 5 Ay By ny cy my dy hy33 ?_)
  |(refine aG rfl (.tmp 4) rfl br 0 rfl 5 none (pt b5) 0 0 1 1 vK.out.1.rr ?_)
  |((with_reducible refine (R9 vK.out.1 vK.out.2.1).mono ?_); rintro e w34 hp; obtain ⟨rfl, hb⟩ := aV hp; have H34 := LH (Bw qy w34) hb; have hx34 := (EK.out _ hb).1.rx; clear hp hb)
  |(refine lY (by rfl) (.tmp 2) rfl bx 0 rfl 3 Ax Bx nx cx mx dx hx34 ?_)
  |((with_reducible refine (HMT4.out w34 H34.out).mono ?_); rintro e w35 hp; obtain ⟨rfl, hb⟩ := aV hp; have H35 := LH (Bw qy w35) (ah (aF H34.out _) hb); have hx35 := (EK.out _ H35.out).1.rx; clear hp hb)
  |(refine lY (by rfl) (.tmp 2) rfl bx 0 rfl 3 Ax Bx nx cx mx dx hx35 ?_)
  |((with_reducible refine (HMT1.out w35 H35.out).mono ?_); rintro e w36 hp; obtain ⟨rfl, hb⟩ := aV hp; have H36 := LH (Bw qy w36) (ah (aF H35.out _) hb); have hz0 := (EK.out _ H36.out).2.cell (j := 0) rfl; have hz2 := (EK.out _ H36.out).2.cell (j := 2) rfl; clear hp hb))
 go_ret;exact ⟨rfl, (EK.out _ H36.out).1.bl⟩
section
open Go.ChangeShapes Go.WideShapes Go.ChangeAt Go.RowKit Go.ChangeMaps
open Alp
open Rgx
theorem Tryz.own : ownKnob Tryz.prog.godebug = none := by kernel_rfl
theorem WU : laidOutB Tryz.prog = true := by kernel_rfl
theorem KD : Tryz.prog.cellsOf 3 = 1 := by kernel_rfl
section
variable {H : Type} {enc : TypeId × Value -> H}
theorem Un {W W' : World} (hb : Bw W W') : ∀ (ts : List TypeId) (vs : List Value) (ds : List (DataW H)) (ps : List MemPlace), (ts.all fun t => Tryz.prog.readableRec t && decide (t < Tryz.prog.types.size)) = true ->
  DataW.TrodAll enc Tryz.prog W 0 (fun _ => true) true ts vs ds ps -> (∀ x ∈ ps, x.block < W.heap.size) -> DataW.TrodAll enc Tryz.prog W' 0 (fun b => decide (b < W.heap.size)) true ts vs ds ps := by
 intro ts
 induction ts with
 |nil =>
  intro vs ds ps _ h _;obtain ⟨rfl, rfl, rfl⟩ := trodAll_nil h;exact trodAll_mk0
 |cons t ts ih =>
  intro vs ds ps hr h hlt;obtain ⟨v, vs', d, ds', p, q, rfl, rfl, rfl, h0, hs⟩ := trodAll_cons h;simp only [List.all_cons, Bool.and_eq_true, decide_eq_true_eq] at hr;exact trodAll_cons_mk (Below.trod WU hr.1.1 hr.1.2 h0 hb (fun x hx => hlt x (by simp [hx]))) (ih vs' ds' q hr.2 hs (fun x hx => hlt x (by simp [hx])))
theorem R5 {W W' : World} {args : Array Value} {ds gs : List (DataW H)} {before : List MemPlace} {f : Func} {s : ChangeSpec} (hv : s.vars = []) (hr : f.resultTypes = #[4])
  (hp : (f.params.toList.all fun t => Tryz.prog.readableRec t && decide (t < Tryz.prog.types.size)) = true) (hW : DataW.Whole enc Tryz.prog f.params.toList s.vars false W args.toList ds gs before)
  (hfn : s.fn H (ds ++ gs) = { results := [.lit (.bool true)], args := ds }) (hb : Bw W W') : s.post enc Tryz.prog f false true false false W args (.bool true) W' := by
 have hW' := hW;obtain ⟨p, q, hA, hV, rfl, _, _⟩ := hW;rw [hv] at hV;obtain ⟨rfl, rfl⟩ := trodVars_none hV;refine ⟨ds, [], p ++ [], [] ++ [], p, [], hW', ?_, ?_, ?_, hb.frame _, fun h => by cases h⟩
 ·rw [hfn, hr];exact trodAll_cons_mk (shut_bool Tryz.underlying4 true) trodAll_mk0
 ·rw [hfn];exact Un hb _ _ _ _ hp hA (fun x hx => by have := hW'.lt x (by simp [hx]); simpa using this)
 ·rw [hfn, hv]
  rfl
theorem BV {n : Int} (h : (Lit.int .i64 n).wf = true) : fM n := by
 have h1 : IntKind.i64.min = -9223372036854775808 := rfl;have h2 : IntKind.i64.max = 9223372036854775807 := rfl;simp only [Lit.wf, Bool.and_eq_true, decide_eq_true_eq, h1, h2] at h;exact h
theorem Mm {W : World} {a : Addr} {xs : List Value} (hn : xs ≠ []) (h : ∀ i v, xs[i]? = some v -> W.cell? (a.add i) = some v) : Rd W (some a) xs := by
 obtain ⟨b, o, spot⟩ := a;obtain ⟨x, t, rfl⟩ : ∃ x t, xs = x :: t := by cases xs with | nil => exact absurd rfl hn | cons x t => exact ⟨x, t, rfl⟩
 have hs : spot = none := by simpa [Addr.add] using World.cell?_spot (h 0 x rfl)
 subst hs;refine .inr ⟨b, o, rfl, fun k v hv => ?_⟩;have := h k v hv;have ha : (⟨b, o, none⟩ : Addr).add k = ⟨b, o + k, none⟩ := by unfold Addr.add; split <;> simp_all
 rwa [ha] at this
theorem QY {W : World} {v : Value} {d : DataW H} {ps : List MemPlace} {b0 : Nat} (hval : Value.okWide Tryz.prog W .any b0 22 v) (h : DataW.Trod enc Tryz.prog W 0 (fun _ => true) true 22 v d ps) :
  ∃ (A : Option Addr) (l : List Int) (c : Nat), v = .slice A l.length c /\ Rd W A (iv l) /\ (∀ n ∈ l, fM n) /\ l.length <= c /\ c <= maxLen := by
 obtain ⟨a0, len, cap, rfl⟩ := okWide_slice Tryz.underlying22 hval;obtain ⟨fuel, hf⟩ := h
 rcases open_ints Tryz.underlying22 Tryz.underlying3 KD hf with ⟨hcs, hx⟩ | ⟨a, len', cap', zs, hcs, _, hl, hm, hz, hx, hcell, hwz⟩
 ·simp [Value.cells] at hcs;obtain ⟨rfl, rfl, rfl⟩ := hcs;exact ⟨none, [], 0, rfl, .inl rfl, by simp, Nat.le_refl _, Nat.zero_le _⟩
 ·simp [Value.cells] at hcs;obtain ⟨rfl, rfl, rfl⟩ := hcs;simp only [if_true] at hz;have hlen : (zs.take len).length = len := by simp; omega
  refine ⟨some a, zs.take len, cap, by rw [hlen], ?_, fun n hn => BV (hwz n (List.mem_of_mem_take hn)), by rw [hlen]; exact hl, hm⟩
  by_cases h0 : zs.take len = []
  ·exact .inl (by rw [h0]; rfl)
  ·refine Mm (by simpa [iv] using h0) (fun i v hv => ?_);have hi : i < len := by have := (List.getElem?_eq_some_iff.1 hv).1; rw [FN, hlen] at this; exact this
   rw [hcell i (by omega)];have DD : i < zs.length := by omega
   simp [iv, hi, DD] at hv;rw [<- hv];simp [List.getD, DD]
end
theorem P6 : Tryz.prog.globalNamed "math/bits.deBruijn64tab" = some 0 := by kernel_rfl
theorem Xg : (Tryz.prog.globals[0]?).map (·.type) = some 166 := by kernel_rfl
theorem WX : Tryz.prog.cellsOf 166 = 64 := by kernel_rfl
theorem Xa : Tryz.prog.cellsOf 5 = 1 := by kernel_rfl
theorem Qc : (Rows.laid_math_bits_deBruijn64tab : DataW Unit) = Lib.tabData .u8 (Lib.deBruijn64tab.map Int.ofNat) := by kernel_rfl
def zH : List (String × DataW Unit) := [("math/bits.deBruijn64tab", Rows.laid_math_bits_deBruijn64tab)]
theorem Vw {W : World} (h : laidMetH Tryz.prog zH W) : DB W := by
 rw [MakeChecks.laidMetH_plain _ _ _ (by kernel_rfl)] at h;obtain ⟨ps, ⟨g0, t0, cs0, f0, p0, q0, hg0, yI, hv0, uP, _⟩, _, _⟩ := h;obtain rfl := Option.some.inj (P6.symm.trans hg0);obtain rfl := Option.some.inj (Xg.symm.trans yI);rw [Qc] at uP;have hT : Lib.TabIs Tryz.prog W "math/bits.deBruijn64tab" .u8 (Lib.deBruijn64tab.map Int.ofNat) := by
  unfold Lib.TabIs;rw [hv0, <- Lib.cells_of_tab Tryz.underlying166 Tryz.underlying5 Xa WX uP]
 intro j hj;rw [hT.cell P6 j (by rw [List.length_map]; exact hj)];simp [List.getD, hj]
theorem metG (os : Os) (args : Array Value) : laidMetH Tryz.prog zH ((World.laidAll Tryz.prog os zH).forCall (fun _ _ => 0) ⟨#[], args, []⟩).memory := by
 rw [MakeChecks.laidMetH_plain _ _ _ (by kernel_rfl)];exact laidMet_laidAll _ (by kernel_rfl) (by kernel_rfl)
end
def qa (n m : Int) : Int := if n < 0 then (-(n + 1)) % m else n % m
theorem Ip (n : Int) {m : Int} (hm : 1 <= m) : 0 <= qa n m /\ qa n m < m := by
 unfold qa
 split
 ·exact ⟨Int.emod_nonneg _ (by omega), Int.emod_lt_of_pos _ (by omega)⟩
 ·exact ⟨Int.emod_nonneg _ (by omega), Int.emod_lt_of_pos _ (by omega)⟩
theorem Td (n m : Int) (yX : -9223372036854775808 <= n) (tY : n <= 9223372036854775807) (hm : 1 <= m) (lF : m <= 9223372036854775807) (w : World) : Calls Tryz.prog 58 #[.int .i64 n, .int .i64 m] w fun e w' => e = .returned (.int .i64 (qa n m)) /\ w = w' := by
 have ja : ¬ m = 0 := by omega
 by_cases h : n < 0
 ·have h0 : 0 <= -(n + 1) := by omega
  have hq : -((n + 1).tmod m) = qa n m := by unfold qa; rw [if_pos h, <- Int.neg_tmod, Int.tmod_eq_emod_of_nonneg h0]
  have HQ := Lh hq;clear hq;go_enter Tryz.func58, Tryz.ntmps58
  go_wp2
  go_ret;exact ⟨Nt HQ.out, rfl⟩
 ·have h0 : 0 <= n := by omega
  have hq : n % m = qa n m := by unfold qa; rw [if_neg h]
  have HQ := Lh hq;clear hq;go_enter Tryz.func58, Tryz.ntmps58
  go_wp2
  go_ret;exact ⟨Nt HQ.out, rfl⟩
namespace Rgx
def dn (M : Int) (S : List Rx) (N : Int) : List Rx :=
 if N % 8 <= 1 then S ++ [.mk 2 [N / 8 % M] []]
 else if N % 8 = 2 then S ++ [.mk 2 (if N / 8 % M = N / 8 / M % M then [N / 8 % M] else [min (N / 8 % M) (N / 8 / M % M), max (N / 8 % M) (N / 8 / M % M)]) []]
 else if N % 8 = 3 /\ 0 < S.length then S.set (S.length - 1) (.mk 5 [] [av S (S.length - 1)])
 else if N % 8 = 4 /\ 1 < S.length then (S.set (S.length - 2) (.mk 3 [] [av S (S.length - 2), av S (S.length - 1)])).take (S.length - 1)
 else if N % 8 = 5 /\ 1 < S.length then (S.set (S.length - 2) (.mk 4 [] [av S (S.length - 2), av S (S.length - 1)])).take (S.length - 1)
 else if N % 8 = 6 /\ 0 < S.length then S.set (S.length - 1) (.mk 4 [] [.mk 1 [] [], av S (S.length - 1)])
 else if N % 8 = 7 then S ++ [.mk (min 1 (N / 8 % 8)) [] []]
 else S
def lL (M : Int) (l : List Int) : List Rx := l.foldl (fun S x => dn M S (qa x 1048576)) []
def kK (M : Int) (l : List Int) : Rx := if (lL M (l.take 16)).length = 1 then av (lL M (l.take 16)) 0 else .mk 3 [] (lL M (l.take 16))
theorem NG (M : Int) (l : List Int) (x : Int) : lL M (l ++ [x]) = dn M (lL M l) (qa x 1048576) := by unfold lL; rw [List.foldl_append]; rfl
theorem FV {S : List Rx} (h : 0 < S.length) : ∃ P a, S = P ++ [a] := by
 rcases List.eq_nil_or_concat S with e | ⟨P, a, e⟩
 ·rw [e] at h; simp at h
 ·exact ⟨P, a, by simpa using e⟩
theorem NP {S : List Rx} (h : 1 < S.length) : ∃ P a b, S = P ++ [a, b] := by
 obtain ⟨Q, b, rfl⟩ := FV (S := S) (by omega);obtain ⟨P, a, rfl⟩ := FV (S := Q) (by simp at h; omega);exact ⟨P, a, b, by simp⟩
theorem M4 (P : List Rx) (a : Rx) : av (P ++ [a]) ((P ++ [a]).length - 1) = a := by unfold av; simp [List.getD]
theorem Lp (P : List Rx) (a y : Rx) : (P ++ [a]).set ((P ++ [a]).length - 1) y = P ++ [y] := by simp
theorem OH (P : List Rx) (a b : Rx) : av (P ++ [a, b]) ((P ++ [a, b]).length - 2) = a := by unfold av; simp [List.getD]
theorem K7 (P : List Rx) (a b : Rx) : av (P ++ [a, b]) ((P ++ [a, b]).length - 1) = b := by unfold av; simp [List.getD]
theorem N8 (P : List Rx) (a b y : Rx) : ((P ++ [a, b]).set ((P ++ [a, b]).length - 2) y).take ((P ++ [a, b]).length - 1) = P ++ [y] := by
 simp [List.take_append];exact List.take_of_length_le (by omega)
theorem VS {M : Int} (hM : 1 <= M) (BH : M <= 64) {S : List Rx} {N : Int} (hN : 0 <= N) (hv : ∀ x ∈ S, aC x = true) : (∀ x ∈ dn M S N, aC x = true) /\ (dn M S N).length <= S.length + 1 /\ aj (dn M S N) <= aj S + 2 := by
 have a1 := Int.emod_nonneg (N / 8) (b := M) (by omega);have a2 := Int.emod_lt_of_pos (N / 8) (b := M) (by omega);have a3 := Int.emod_nonneg (N / 8 / M) (b := M) (by omega);have a4 := Int.emod_lt_of_pos (N / 8 / M) (b := M) (by omega);have set1 : ∀ x : Int, 0 <= x -> x < 64 -> aC (.mk 2 [x] []) = true := fun x h1 h2 => by
  rw [mF]; simp [Rx.kind, Rx.syms, Rx.kids, fO, jI, h1, h2]
 have set2 : ∀ x y : Int, 0 <= x -> x < y -> y < 64 -> aC (.mk 2 [x, y] []) = true := fun x y h1 h2 h3 => by
  rw [mF]; simp [Rx.kind, Rx.syms, Rx.kids, fO, jI, h1, h2, h3]; omega
 have app : ∀ r : Rx, aC r = true -> az r = 1 -> (∀ x ∈ S ++ [r], aC x = true) /\ (S ++ [r]).length <= S.length + 1 /\ aj (S ++ [r]) <= aj S + 2 := fun r h1 h2 => ⟨fun x hx => by
  rcases List.mem_append.1 hx with h | h
  ·exact hv x h
  ·rw [List.mem_singleton.1 h]; exact h1, by simp, by rw [lJ]; simp [aj]; omega⟩
 unfold dn
 split
 ·exact app _ (set1 _ a1 (by omega)) (ui _ _)
 split
 ·refine app _ ?_ (ui _ _)
  split
  ·exact set1 _ a1 (by omega)
  ·rename_i hne
   refine set2 _ _ (by omega) ?_ (by omega);omega
 split
 ·rename_i h
  obtain ⟨P, a, rfl⟩ := FV h.2;rw [M4, Lp];have ha := hv a (by simp);refine ⟨fun x hx => ?_, by simp, by rw [lJ, lJ]; simp [aj, az]; omega⟩
  rcases List.mem_append.1 hx with h | h
  ·exact hv x (by simp [h])
  ·rw [List.mem_singleton.1 h, mF]; simp [Rx.kind, Rx.syms, Rx.kids, ha]
 split
 ·rename_i h
  obtain ⟨P, a, b, rfl⟩ := NP h.2;rw [OH, K7, N8];have ha := hv a (by simp);have hb := hv b (by simp);refine ⟨fun x hx => ?_, by simp, by rw [lJ, lJ]; simp [aj, az]; omega⟩
  rcases List.mem_append.1 hx with h | h
  ·exact hv x (by simp [h])
  ·rw [List.mem_singleton.1 h, mF]; simp [Rx.kind, Rx.syms, Rx.kids, ha, hb]
 split
 ·rename_i h
  obtain ⟨P, a, b, rfl⟩ := NP h.2;rw [OH, K7, N8];have ha := hv a (by simp);have hb := hv b (by simp);refine ⟨fun x hx => ?_, by simp, by rw [lJ, lJ]; simp [aj, az]; omega⟩
  rcases List.mem_append.1 hx with h | h
  ·exact hv x (by simp [h])
  ·rw [List.mem_singleton.1 h, mF]; simp [Rx.kind, Rx.syms, Rx.kids, ha, hb]
 split
 ·rename_i h
  obtain ⟨P, a, rfl⟩ := FV h.2;rw [M4, Lp];have ha := hv a (by simp);have h1 : aC (.mk 1 [] []) = true := by decide
  refine ⟨fun x hx => ?_, by simp, by rw [lJ, lJ]; simp [aj, az]; omega⟩
  rcases List.mem_append.1 hx with h | h
  ·exact hv x (by simp [h])
  ·rw [List.mem_singleton.1 h, mF]; simp [Rx.kind, Rx.syms, Rx.kids, ha, h1]
 split
 ·refine app _ ?_ (ui _ _);have h1 := Int.emod_nonneg (N / 8) (b := 8) (by omega)
  rcases (by omega : min 1 (N / 8 % 8) = 0 \/ min 1 (N / 8 % 8) = 1) with e | e <;> (rw [e]; decide)
 ·exact ⟨hv, by omega, by omega⟩
theorem MJ {M : Int} (hM : 1 <= M) (BH : M <= 64) (l : List Int) : ∀ i, i <= l.length -> (∀ x ∈ lL M (l.take i), aC x = true) /\ (lL M (l.take i)).length <= i /\ aj (lL M (l.take i)) <= 2 * i := by
 intro i
 induction i with
 |zero => intro _; exact ⟨fun x hx => (by simp [lL] at hx), (by simp [lL]), (by simp [lL, aj])⟩
 |succ i ih =>
  intro hi;obtain ⟨h1, h2, h3⟩ := ih (by omega);rw [List.take_succ_eq_append_getElem (by omega), NG];obtain ⟨g1, g2, g3⟩ := VS hM BH (N := qa l[i] 1048576) (Ip _ (by omega)).1 h1;exact ⟨g1, by omega, by omega⟩
theorem Vh {M : Int} (hM : 1 <= M) (BH : M <= 64) (l : List Int) : aC (kK M l) = true /\ az (kK M l) <= 33 := by
 have h := MJ hM BH (l.take 16) (l.take 16).length (Nat.le_refl _);rw [List.take_length] at h;have hl : (l.take 16).length <= 16 := by simp; omega
 unfold kK
 split
 ·rename_i h1
  have hm : av (lL M (l.take 16)) 0 ∈ lL M (l.take 16) := gU (by omega);exact ⟨h.1 _ hm, by have := xI hm; omega⟩
 ·refine ⟨IB h.1, ?_⟩;rw [CO];omega
end Rgx
theorem ib {N : Int} (h : 0 <= N) (M : Int) : N.tmod M = N % M /\ N.tdiv M = N / M := ⟨Int.tmod_eq_emod_of_nonneg h, Int.tdiv_eq_ediv_of_nonneg h⟩
theorem wrap_small {n : Nat} (h : n <= 9223372036854775807) : IntKind.i64.wrap (n : Int) = (n : Int) := IntWalk.i64_in _ (by omega)
theorem vQ {P : Program} {w : World} {ops : Array Oper} {o : Oper} {a : Act} {K : Act -> World -> Prop} {Q : Exit -> Act -> World -> Prop} {E : Prop} (hgd : o.guard = none) (ty : TypeId) (x : Operand) (ho : o.op = .load ty x) (g j : Nat) (hx : a.eval x = .pointer (some ⟨g, j, none⟩)) (C : List Value) (hc : w.rangeAt g j C) (d : TypeDesc) (hu : P.underlying ty = some d) (hd : d.isRow = true) (hi : (P.info? ty).map (·.size) = some C.length)
  (h : K (a.put o.dst (.agg C.toArray)) w) :
  if Region.wanted o (yielded ops a.tmps) = true then Oper.wp P o a w K Q else E := by
 rw [if_pos (by simp [Region.wanted, hgd])];exact wp_load_mid ty x ho g j hx _ d hc hu hd hi h
theorem CR {q : Nat -> Prop} {base N5 d5 : Nat} {B5 : Option Addr} {S : List Rx} {xs : List Value} {wr W w9 : World} (hC : aM (fun b => q b /\ some b ≠ Value.ownBlock (.slice B5 N5 d5)) wr xs S) (hO : wr.ownsRow base 25 3 (.slice B5 N5 d5) N5 xs) (hN : N5 = S.length) (hq : ∀ b, wr.heap.size <= b -> q b) (hb : Bw wr W) {r : Rx} {K : Int} (hK : K = r.kind) {A B : Option Addr} {n c m d : Nat} (hr : ak (fun b => wr.heap.size <= b) W r A n c B m d) {v9 : Value} (hown : w9.ownsRow base 25 3 v9 (N5 + 1) (xs ++ (zV K A n c B m d))) (hg : (W.alloc (zC K A n c B m d)).grownBy w9 (Value.ownBlock (.slice B5 N5 d5))) (hat : v9.ownBlock = Value.ownBlock (.slice B5 N5 d5) \/ v9.ownBlock = some (W.alloc (zC K A n c B m d)).heap.size) : aD q base v9 (S ++ [r]) w9 := by
 subst hK hN;exact aD.app hC (aF hb _) (aM.one ((hr.mono fun b hb => ⟨hq b hb, fun e => by have := (hO.lt b e.symm).2; omega⟩).below (ai W _)).q) rfl hg hat hown
theorem Ri (l : List Int) (M : Int) (hM : 1 <= M) (BH : M <= 64) (A : Option Addr) (n c : Nat) (hn : n = l.length) (jd : n <= c) (hcm : c <= 9223372036854775807) (hl : ∀ x ∈ l, fM x) (w : World) (hr : Rd w A (iv l)) : Calls Tryz.prog 37 #[.slice A n c, .int .i64 M] w (dB (fun _ => False) w (kK M l)) := by
 obtain ⟨i0, aZ, hz0, hz1, hz2⟩ := info_parts lG;obtain ⟨T, hT⟩ := eX (min n 16);have HX := LH (n = l.length /\ (∀ x ∈ l, fM x) /\ Rd w A (iv l) /\ T = (l.take 16).length) ⟨hn, hl, hr, by simp; omega⟩;have hTn : T <= n := by omega
 have hTN : T <= 16 := by omega
 have Ff : T < n -> T = 16 := by omega
 have hM0 : ¬ M = 0 := by omega
 have hb1 : Bw w (w.alloc zR) := ai w _;have bK := LH (ae (w.alloc zR) w.heap.size zL 25 /\ Bw w (w.alloc zR) /\ (w.alloc zR).heap.size = w.heap.size + 1) ⟨ae.at w _ _ 25 _ rfl rfl, hb1, by simp⟩;clear hn hl hr hT hb1;go_enter Tryz.func37, Tryz.ntmps37;go_wp2_with fail
 go_loopg [5, 6] T (fun gq s5 s6 wr => ∃ (i : Nat) (S : List Rx), i + gq = T /\ s6 = .int .i64 (i : Int) /\ Hid (aD (fun b => w.heap.size + 1 <= b) (w.heap.size + 1) s5 S wr /\ S = lL M (l.take i) /\ Below (w.alloc zR).heap.size (w.alloc zR) wr))
 case atStart => exact ⟨0, [], by omega, rfl, Lh ⟨aD.nil _ _ _, by simp [lL], Below.refl _ _⟩⟩
 case round =>
  obtain ⟨i, S, hi, rfl, HI⟩ := hrel;obtain ⟨B5, d5, hv, AO, fG, _⟩ := HI.out.1.e;obtain ⟨N5, bD⟩ := eX S.length;rw [<- bD] at hv AO;subst hv;have bB := Lh bD;have hSl : N5 <= 16 := by
   have h1 := (MJ hM BH l i (by have := HX.out.1; omega)).2.1;rw [<- HI.out.2.1] at h1;omega
  clear bD fG
  by_cases hlt : i < T
  ·obtain ⟨gg, rfl⟩ : ∃ g, gk = g + 1 := ⟨gk - 1, by omega⟩;have h1 : i < n := by omega
   have h2 : i < 16 := by omega
   have aH : i < l.length := by rw [<- HX.out.1]; exact h1
   obtain ⟨b, o, hAe, hcs⟩ := HX.out.2.2.1.open (by intro e; have := congrArg List.length e; simp [iv] at this; rw [this] at aH; exact absurd aH (by simp));subst hAe;obtain ⟨x, hx⟩ := eX (l[i]);have hc : wr.cell? ⟨b, o + i, none⟩ = some (.int .i64 x) := by
    have h3 := hcs i (.int .i64 x) (by simp [iv, aH, hx]);have h4 := (bK.out.2.1.cell (p := ⟨b, o + i, none⟩) (World.block_lt_of_cell? w _ h3)).trans h3;exact (HI.out.2.2.cell (p := ⟨b, o + i, none⟩) (World.block_lt_of_cell? _ _ h4)).trans h4
   have HXI := LH (fM x) (HX.out.2.1 x (by rw [hx]; exact List.getElem_mem aH));obtain ⟨Nn, lS⟩ := eX (qa x 1048576);have pI := LH (dn M S Nn = lL M (l.take (i + 1))) (by rw [List.take_succ_eq_append_getElem aH, NG, <- hx, <- lS, HI.out.2.1]);have HA := LH (∀ W, Cz 58 #[.int .i64 x, .int .i64 1048576] W fun e w' => e = .returned (.int .i64 Nn) /\ W = w') fun W => by rw [lS]; exact Td x 1048576 (by have := HXI.out.1; omega) (by have := HXI.out.2; omega) (by omega) (by omega) W
   have eY : 0 <= Nn := by rw [lS]; exact (Ip _ (by omega)).1
   have mU : Nn < 1048576 := by rw [lS]; exact (Ip _ (by omega)).2
   obtain ⟨Aq, iH⟩ := eX (Nn / 8);have wG : 0 <= Aq := by omega
   have hA1 : Aq <= 131072 := by omega
   obtain ⟨xs, hC, hO⟩ := HI.out.1;rw [<- bB.out] at hO;have HC := Lh hC;have HO := Lh hO;have fJ := LH (w.heap.size + 1 <= wr.heap.size) (by have h1 := HI.out.2.2.size; have h2 := bK.out.2.2; omega);have hs1 : N5 + 1 <= maxLen := by unfold maxLen; omega
   have hs2 : (N5 + 1) * 56 <= 140737488355328 := by omega
   have kD : decide ((i : Int) < 16) = true := dT (by omega);have wV : decide (i < 16) = true := dT h2;clear hcs hx lS hC hO
   rcases (by omega : (Nn % 8 = 0 \/ Nn % 8 = 1) \/ Nn % 8 = 2 \/ Nn % 8 = 3 \/ Nn % 8 = 4 \/ Nn % 8 = 5 \/ Nn % 8 = 6 \/ Nn % 8 = 7) with y5 | eu | eu | eu | eu | eu | eu
   ·rcases y5 with eu | eu
    focus
     have hr1 : Nn.tmod 8 = 0 := by rw [(ib eY 8).1]; exact eu
    rotate_left
    have hr1 : Nn.tmod 8 = 1 := by rw [(ib eY 8).1]; exact eu
    all_goals
     as_aux_lemma =>
      have oJ : Nn.tdiv 8 = Aq := by rw [(ib eY 8).2, iH]
      obtain ⟨X, hX⟩ := eX (Aq % M);have hx1 : Aq.tmod M = X := by rw [(ib wG M).1, hX]
      have hXb : 0 <= X /\ X < M := by rw [hX]; exact ⟨Int.emod_nonneg _ (by omega), Int.emod_lt_of_pos _ (by omega)⟩
      have vB := LH (∀ x ∈ ([X] : List Int), fM x) (by intro x hx; simp at hx; constructor <;> omega);have fT := LH (dn M S Nn = S ++ [.mk 2 [X] []]) (by unfold dn; rw [eu, if_pos (by omega), <- iH, <- hX]);have mO := LH (∀ w3, Below (wr.alloc (.cells #[.int .i64 X] 3)).heap.size (wr.alloc (.cells #[.int .i64 X] 3)) w3 -> ∀ v9 w9, w9.ownsRow (w.heap.size + 1) 25 3 v9 (N5 + 1) (xs ++ (zV 2 (pt wr.heap.size) 1 1 none 0 0)) -> (w3.alloc (zC 2 (pt wr.heap.size) 1 1 none 0 0)).grownBy w9 (Value.ownBlock (.slice B5 N5 d5)) -> (v9.ownBlock = Value.ownBlock (.slice B5 N5 d5) \/ v9.ownBlock = some (w3.alloc (zC 2 (pt wr.heap.size) 1 1 none 0 0)).heap.size) -> aD (fun b => w.heap.size + 1 <= b) (w.heap.size + 1) v9 (dn M S Nn) w9 /\ Below (w.alloc zR).heap.size (w.alloc zR) w9) fun w3 hb3 v9 w9 h1 h2 h3 => by
       have hk : ae (wr.alloc (.cells #[.int .i64 X] 3)) wr.heap.size [.int .i64 X] 3 := ae.at wr _ _ 3 _ rfl rfl;have hb : Bw wr w3 := ah (ai wr _) hb3;have aab : ak (fun b => wr.heap.size <= b) w3 (.mk 2 [X] []) (pt wr.heap.size) 1 1 none 0 0 := ak.make (by constructor <;> decide) vB.out rfl (Nat.le_refl _) (by unfold maxLen; omega) (.inr ⟨wr.heap.size, 0, rfl, fun k v hv => by rw [Nat.zero_add]; exact (hk.below hb3 hk.lt).cell (j := k) hv⟩) (fun _ b o e => by obtain ⟨rfl, _⟩ : wr.heap.size = b /\ 0 = o := (by simpa using e); exact Nat.le_refl _) rfl (Nat.le_refl _) (Nat.zero_le _) (fun i hi => absurd hi (by simp)) (fun h => absurd rfl h);rw [fT.out];exact ⟨CR HC.out HO.out bB.out (fun b hb => by have := fJ.out; omega) hb rfl aab h1 h2 h3, eH (aF (ah HI.out.2.2 hb) _) h2 (fun g hg => by have := (HO.out.lt _ hg).1; simp; omega)⟩
      clear hX;clear eu eY mU iH aH
      go_wp2_with (first
       | ((with_reducible refine (HA.out _).mono ?_); rintro e w2 ⟨rfl, rfl⟩)
       | ((with_reducible refine (xN (pt wr.heap.size) 1 1 (wr.alloc (.cells #[.int .i64 X] 3))).mono ?_); rintro e w3 ⟨rfl, hb3⟩; have H3 := Lh hb3; clear hb3)
       | (at_builtin; refine gW rfl (.tmp 34) (.tmp 40) 23 23 rfl (w.heap.size + 1) 25 i0 _ 3 56 Tryz.underlying23 aZ hz0 hz1 hz2 rfl _ _ _ rfl (gu HO.out (aF (ah (ai wr _) H3.out) _)) _ 1 (zV 2 (pt wr.heap.size) 1 1 none 0 0) rfl (jR hz1 w3 _ _ _ _ _ _ _) hs1 hs2 (by have h1 := fJ.out; have h2 := (ah (ai wr (.cells #[.int .i64 X] 3)) H3.out).size; simp; omega) ?_; intro v9 w9 dJ dN fe; have aR := Lh (mO.out w3 H3.out v9 w9 dJ dN fe); clear dJ dN fe))
      go_roundg gg
      case rel => exact ⟨i + 1, dn M S Nn, by omega, by go_num, Lh ⟨aR.out.1, pI.out, aR.out.2⟩⟩
      case measure => omega
   ·as_aux_lemma =>
     obtain ⟨X, hX⟩ := eX (Aq % M);have hx1 : Aq.tmod M = X := by rw [(ib wG M).1, hX]
     have hXb : 0 <= X /\ X < M := by rw [hX]; exact ⟨Int.emod_nonneg _ (by omega), Int.emod_lt_of_pos _ (by omega)⟩
     obtain ⟨Dq, vw⟩ := eX (Aq / M);have hD0 : 0 <= Dq := by rw [vw]; exact Int.ediv_nonneg wG (by omega)
     have hD1 : Dq <= Aq := by rw [vw]; exact Int.ediv_le_self _ wG
     have kD : Aq.tdiv M = Dq := by rw [(ib wG M).2, vw]
     have wV : Aq / M = Dq := vw.symm;obtain ⟨Y, hY⟩ := eX (Dq % M);have iG : Dq.tmod M = Y := by rw [(ib hD0 M).1, hY]
     have gY : Dq % M = Y := hY.symm;have hYb : 0 <= Y /\ Y < M := by rw [hY]; exact ⟨Int.emod_nonneg _ (by omega), Int.emod_lt_of_pos _ (by omega)⟩
     by_cases kY : X = Y
     ·have u1 : (X == Y) = true := bT kY;have fT := LH (dn M S Nn = S ++ [.mk 2 [X] []]) (by unfold dn; rw [eu, if_neg (by omega), if_pos rfl, <- iH, <- hX, <- vw, <- hY, if_pos kY]);have vB := LH (∀ x ∈ ([X] : List Int), fM x) (by intro x hx; simp at hx; constructor <;> omega);clear kY hX vw hY;have hr1 : Nn.tmod 8 = 2 := by rw [(ib eY 8).1]; exact eu
      have oJ : Nn.tdiv 8 = Aq := by rw [(ib eY 8).2, iH]
      have mO := LH (∀ w3, Below (wr.alloc (.cells #[.int .i64 X] 3)).heap.size (wr.alloc (.cells #[.int .i64 X] 3)) w3 -> ∀ v9 w9, w9.ownsRow (w.heap.size + 1) 25 3 v9 (N5 + 1) (xs ++ (zV 2 (pt wr.heap.size) 1 1 none 0 0)) -> (w3.alloc (zC 2 (pt wr.heap.size) 1 1 none 0 0)).grownBy w9 (Value.ownBlock (.slice B5 N5 d5)) -> (v9.ownBlock = Value.ownBlock (.slice B5 N5 d5) \/ v9.ownBlock = some (w3.alloc (zC 2 (pt wr.heap.size) 1 1 none 0 0)).heap.size) -> aD (fun b => w.heap.size + 1 <= b) (w.heap.size + 1) v9 (dn M S Nn) w9 /\ Below (w.alloc zR).heap.size (w.alloc zR) w9) fun w3 hb3 v9 w9 h1 h2 h3 => by
       have hk : ae (wr.alloc (.cells #[.int .i64 X] 3)) wr.heap.size [.int .i64 X] 3 := ae.at wr _ _ 3 _ rfl rfl;have hb : Bw wr w3 := ah (ai wr _) hb3;have aab : ak (fun b => wr.heap.size <= b) w3 (.mk 2 [X] []) (pt wr.heap.size) 1 1 none 0 0 := ak.make (by constructor <;> decide) vB.out rfl (Nat.le_refl _) (by unfold maxLen; omega) (.inr ⟨wr.heap.size, 0, rfl, fun k v hv => by rw [Nat.zero_add]; exact (hk.below hb3 hk.lt).cell (j := k) hv⟩) (fun _ b o e => by obtain ⟨rfl, _⟩ : wr.heap.size = b /\ 0 = o := (by simpa using e); exact Nat.le_refl _) rfl (Nat.le_refl _) (Nat.zero_le _) (fun i hi => absurd hi (by simp)) (fun h => absurd rfl h);rw [fT.out];exact ⟨CR HC.out HO.out bB.out (fun b hb => by have := fJ.out; omega) hb rfl aab h1 h2 h3, eH (aF (ah HI.out.2.2 hb) _) h2 (fun g hg => by have := (HO.out.lt _ hg).1; simp; omega)⟩
      clear eu eY mU iH aH
      go_wp2_with (first
       | ((with_reducible refine (HA.out _).mono ?_); rintro e w2 ⟨rfl, rfl⟩)
       | ((with_reducible refine (xN (pt wr.heap.size) 1 1 (wr.alloc (.cells #[.int .i64 X] 3))).mono ?_); rintro e w3 ⟨rfl, hb3⟩; have H3 := Lh hb3; clear hb3)
       | (at_builtin; refine gW rfl (.tmp 56) (.tmp 60) 23 23 rfl (w.heap.size + 1) 25 i0 _ 3 56 Tryz.underlying23 aZ hz0 hz1 hz2 rfl _ _ _ rfl (gu HO.out (aF (ah (ai wr _) H3.out) _)) _ 1 (zV 2 (pt wr.heap.size) 1 1 none 0 0) rfl (jR hz1 w3 _ _ _ _ _ _ _) hs1 hs2 (by have h1 := fJ.out; have h2 := (ah (ai wr (.cells #[.int .i64 X] 3)) H3.out).size; simp; omega) ?_; intro v9 w9 dJ dN fe; have aR := Lh (mO.out w3 H3.out v9 w9 dJ dN fe); clear dJ dN fe))
      go_roundg gg
      case rel => exact ⟨i + 1, dn M S Nn, by omega, by go_num, Lh ⟨aR.out.1, pI.out, aR.out.2⟩⟩
      case measure => omega
     ·have u1 : (X == Y) = false := bF kY;have O3 := LH (dn M S Nn = S ++ [.mk 2 [min X Y, max X Y] []]) (by unfold dn; rw [eu, if_neg (by omega), if_pos rfl, <- iH, <- hX, <- vw, <- hY, if_neg kY])
      rcases Int.lt_or_gt_of_ne kY with lh | lh
      ·have fT := LH (dn M S Nn = S ++ [.mk 2 [X, Y] []]) (by rw [O3.out, show min X Y = X by omega, show max X Y = Y by omega]);have hmn : min X Y = X := by omega
       have hmx : max X Y = Y := by omega
       have vB := LH (∀ x ∈ ([X, Y] : List Int), fM x) (by intro x hx; simp at hx; constructor <;> omega);clear kY hX vw hY;have hr1 : Nn.tmod 8 = 2 := by rw [(ib eY 8).1]; exact eu
       have oJ : Nn.tdiv 8 = Aq := by rw [(ib eY 8).2, iH]
       have mO := LH (∀ w3, Below (wr.alloc (.cells #[.int .i64 X, .int .i64 Y] 3)).heap.size (wr.alloc (.cells #[.int .i64 X, .int .i64 Y] 3)) w3 -> ∀ v9 w9, w9.ownsRow (w.heap.size + 1) 25 3 v9 (N5 + 1) (xs ++ (zV 2 (pt wr.heap.size) 2 2 none 0 0)) -> (w3.alloc (zC 2 (pt wr.heap.size) 2 2 none 0 0)).grownBy w9 (Value.ownBlock (.slice B5 N5 d5)) -> (v9.ownBlock = Value.ownBlock (.slice B5 N5 d5) \/ v9.ownBlock = some (w3.alloc (zC 2 (pt wr.heap.size) 2 2 none 0 0)).heap.size) -> aD (fun b => w.heap.size + 1 <= b) (w.heap.size + 1) v9 (dn M S Nn) w9 /\ Below (w.alloc zR).heap.size (w.alloc zR) w9) fun w3 hb3 v9 w9 h1 h2 h3 => by
         have hk : ae (wr.alloc (.cells #[.int .i64 X, .int .i64 Y] 3)) wr.heap.size [.int .i64 X, .int .i64 Y] 3 := ae.at wr _ _ 3 _ rfl rfl;have hb : Bw wr w3 := ah (ai wr _) hb3;have aab : ak (fun b => wr.heap.size <= b) w3 (.mk 2 [X, Y] []) (pt wr.heap.size) 2 2 none 0 0 := ak.make (by constructor <;> decide) vB.out rfl (Nat.le_refl _) (by unfold maxLen; omega) (.inr ⟨wr.heap.size, 0, rfl, fun k v hv => by rw [Nat.zero_add]; exact (hk.below hb3 hk.lt).cell (j := k) hv⟩) (fun _ b o e => by obtain ⟨rfl, _⟩ : wr.heap.size = b /\ 0 = o := (by simpa using e); exact Nat.le_refl _) rfl (Nat.le_refl _) (Nat.zero_le _) (fun i hi => absurd hi (by simp)) (fun h => absurd rfl h);rw [fT.out];exact ⟨CR HC.out HO.out bB.out (fun b hb => by have := fJ.out; omega) hb rfl aab h1 h2 h3, eH (aF (ah HI.out.2.2 hb) _) h2 (fun g hg => by have := (HO.out.lt _ hg).1; simp; omega)⟩
       clear eu eY mU iH aH
       go_wp2_with (first
         | ((with_reducible refine (HA.out _).mono ?_); rintro e w2 ⟨rfl, rfl⟩)
         | ((with_reducible refine (xN (pt wr.heap.size) 2 2 (wr.alloc (.cells #[.int .i64 X, .int .i64 Y] 3))).mono ?_); rintro e w3 ⟨rfl, hb3⟩; have H3 := Lh hb3; clear hb3)
         | (at_builtin; refine gW rfl (.tmp 62) (.tmp 71) 23 23 rfl (w.heap.size + 1) 25 i0 _ 3 56 Tryz.underlying23 aZ hz0 hz1 hz2 rfl _ _ _ rfl (gu HO.out (aF (ah (ai wr _) H3.out) _)) _ 1 (zV 2 (pt wr.heap.size) 2 2 none 0 0) rfl (jR hz1 w3 _ _ _ _ _ _ _) hs1 hs2 (by have h1 := fJ.out; have h2 := (ah (ai wr (.cells #[.int .i64 X, .int .i64 Y] 3)) H3.out).size; simp; omega) ?_; intro v9 w9 dJ dN fe; have aR := Lh (mO.out w3 H3.out v9 w9 dJ dN fe); clear dJ dN fe))
       go_roundg gg
       case rel => exact ⟨i + 1, dn M S Nn, by omega, by go_num, Lh ⟨aR.out.1, pI.out, aR.out.2⟩⟩
       case measure => omega
      ·have fT := LH (dn M S Nn = S ++ [.mk 2 [Y, X] []]) (by rw [O3.out, show min X Y = Y by omega, show max X Y = X by omega]);have hmn : min X Y = Y := by omega
       have hmx : max X Y = X := by omega
       have vB := LH (∀ x ∈ ([Y, X] : List Int), fM x) (by intro x hx; simp at hx; constructor <;> omega);clear kY hX vw hY;have hr1 : Nn.tmod 8 = 2 := by rw [(ib eY 8).1]; exact eu
       have oJ : Nn.tdiv 8 = Aq := by rw [(ib eY 8).2, iH]
       have mO := LH (∀ w3, Below (wr.alloc (.cells #[.int .i64 Y, .int .i64 X] 3)).heap.size (wr.alloc (.cells #[.int .i64 Y, .int .i64 X] 3)) w3 -> ∀ v9 w9, w9.ownsRow (w.heap.size + 1) 25 3 v9 (N5 + 1) (xs ++ (zV 2 (pt wr.heap.size) 2 2 none 0 0)) -> (w3.alloc (zC 2 (pt wr.heap.size) 2 2 none 0 0)).grownBy w9 (Value.ownBlock (.slice B5 N5 d5)) -> (v9.ownBlock = Value.ownBlock (.slice B5 N5 d5) \/ v9.ownBlock = some (w3.alloc (zC 2 (pt wr.heap.size) 2 2 none 0 0)).heap.size) -> aD (fun b => w.heap.size + 1 <= b) (w.heap.size + 1) v9 (dn M S Nn) w9 /\ Below (w.alloc zR).heap.size (w.alloc zR) w9) fun w3 hb3 v9 w9 h1 h2 h3 => by
         have hk : ae (wr.alloc (.cells #[.int .i64 Y, .int .i64 X] 3)) wr.heap.size [.int .i64 Y, .int .i64 X] 3 := ae.at wr _ _ 3 _ rfl rfl;have hb : Bw wr w3 := ah (ai wr _) hb3;have aab : ak (fun b => wr.heap.size <= b) w3 (.mk 2 [Y, X] []) (pt wr.heap.size) 2 2 none 0 0 := ak.make (by constructor <;> decide) vB.out rfl (Nat.le_refl _) (by unfold maxLen; omega) (.inr ⟨wr.heap.size, 0, rfl, fun k v hv => by rw [Nat.zero_add]; exact (hk.below hb3 hk.lt).cell (j := k) hv⟩) (fun _ b o e => by obtain ⟨rfl, _⟩ : wr.heap.size = b /\ 0 = o := (by simpa using e); exact Nat.le_refl _) rfl (Nat.le_refl _) (Nat.zero_le _) (fun i hi => absurd hi (by simp)) (fun h => absurd rfl h);rw [fT.out];exact ⟨CR HC.out HO.out bB.out (fun b hb => by have := fJ.out; omega) hb rfl aab h1 h2 h3, eH (aF (ah HI.out.2.2 hb) _) h2 (fun g hg => by have := (HO.out.lt _ hg).1; simp; omega)⟩
       clear eu eY mU iH aH
       go_wp2_with (first
         | ((with_reducible refine (HA.out _).mono ?_); rintro e w2 ⟨rfl, rfl⟩)
         | ((with_reducible refine (xN (pt wr.heap.size) 2 2 (wr.alloc (.cells #[.int .i64 Y, .int .i64 X] 3))).mono ?_); rintro e w3 ⟨rfl, hb3⟩; have H3 := Lh hb3; clear hb3)
         | (at_builtin; refine gW rfl (.tmp 62) (.tmp 71) 23 23 rfl (w.heap.size + 1) 25 i0 _ 3 56 Tryz.underlying23 aZ hz0 hz1 hz2 rfl _ _ _ rfl (gu HO.out (aF (ah (ai wr _) H3.out) _)) _ 1 (zV 2 (pt wr.heap.size) 2 2 none 0 0) rfl (jR hz1 w3 _ _ _ _ _ _ _) hs1 hs2 (by have h1 := fJ.out; have h2 := (ah (ai wr (.cells #[.int .i64 Y, .int .i64 X] 3)) H3.out).size; simp; omega) ?_; intro v9 w9 dJ dN fe; have aR := Lh (mO.out w3 H3.out v9 w9 dJ dN fe); clear dJ dN fe))
       go_roundg gg
       case rel => exact ⟨i + 1, dn M S Nn, by omega, by go_num, Lh ⟨aR.out.1, pI.out, aR.out.2⟩⟩
       case measure => omega
   ·as_aux_lemma =>
     by_cases hk : 0 < N5
     ·skip
      have t2 : decide ((0 : Int) < (N5 : Int)) = true := dT (by omega);have hr1 : Nn.tmod 8 = 3 := by rw [(ib eY 8).1]; exact eu
      have oJ : Nn.tdiv 8 = Aq := by rw [(ib eY 8).2, iH]
      obtain ⟨j, hj⟩ : ∃ j, N5 = j + 1 := ⟨N5 - 1, by omega⟩;have e4 : (N5 : Int) - 1 = (j : Int) := by omega
      have yT : j < N5 := by omega
      obtain ⟨g, vI⟩ : ∃ g, B5 = some ⟨g, 0, none⟩ := by
       obtain ⟨B', d', hv', _, _, _, uX⟩ := HI.out.1.e;simp only [Value.slice.injEq] at hv';obtain ⟨rfl, _⟩ := hv';obtain ⟨g, e, _⟩ := uX (fun e => by have := bB.out; rw [e] at this; simp at this; omega);exact ⟨g, e⟩
      subst vI;obtain ⟨A3, n3, c3, B3, m3, d3, hrg3, eF⟩ := HI.out.1.kid (k := j) (by rw [<- bB.out]; omega);obtain ⟨y, hy⟩ := eX (av S j);rw [<- hy] at hrg3 eF;obtain ⟨Ky, bi⟩ := eX y.kind;rw [<- bi] at hrg3;have HY := LH (ak (fun b => (fun b => w.heap.size + 1 <= b) b /\ some b ≠ some g) wr y A3 n3 c3 B3 m3 d3 /\ Ky = y.kind) ⟨eF, bi⟩;have sj : S.length - 1 = j := by have := bB.out; omega
      have jQ : 0 < S.length := by have := bB.out; omega
      have fT := LH (dn M S Nn = S.set j (.mk 5 [] [y])) (by unfold dn; rw [eu]; simp [sj, jQ, hy]);clear sj jQ;have nD := LH (∀ w3, Below (wr.alloc (zC Ky A3 n3 c3 B3 m3 d3)).heap.size (wr.alloc (zC Ky A3 n3 c3 B3 m3 d3)) w3 -> aD (fun b => w.heap.size + 1 <= b) (w.heap.size + 1) (.slice (pt g) N5 d5) S w3 /\ aY (fun b => (fun b => w.heap.size + 1 <= b) b /\ some b ≠ some g) w3 (.mk 5 [] [y]) (.slice none 0 0) (.slice (pt wr.heap.size) 1 1)) fun w3 hb3 => by
       have hk : ae (wr.alloc (zC Ky A3 n3 c3 B3 m3 d3)) wr.heap.size (zV Ky A3 n3 c3 B3 m3 d3) 25 := ae.at wr _ _ 25 _ rfl rfl;have hb : Bw wr w3 := ah (ai wr _) hb3;have yn := HY.out.1.below hb;have dN := HO.out.lt g rfl;refine ⟨HI.out.1.below hb, (ut 5 (by constructor <;> decide) (aM.one yn.q) (by simp) (by have h1 := hk.below hb3 hk.lt; rw [HY.out.2] at h1; exact h1) ⟨by have := fJ.out; omega, fun e => by have := Option.some.inj e; omega⟩).q⟩
      have iq := LH (∀ w3 w9, Below (wr.alloc (zC Ky A3 n3 c3 B3 m3 d3)).heap.size (wr.alloc (zC Ky A3 n3 c3 B3 m3 d3)) w3 -> aD (fun b => w.heap.size + 1 <= b) (w.heap.size + 1) (.slice (pt g) N5 d5) (S.set j (.mk 5 [] [y])) w9 /\ w3.grownBy w9 (some g) -> aD (fun b => w.heap.size + 1 <= b) (w.heap.size + 1) (.slice (pt g) N5 d5) (dn M S Nn) w9 /\ Below (w.alloc zR).heap.size (w.alloc zR) w9) fun w3 w9 hb3 h => by
       rw [fT.out];exact ⟨h.1, eH (ah HI.out.2.2 (ah (ai wr _) hb3)) h.2 (fun g' hg' => by obtain rfl := Option.some.inj hg'; have := (HO.out.lt g rfl).1; simp; omega)⟩
      clear eu eY mU iH aH hj hy bi eF
      go_wp2_with (first
       | ((with_reducible refine (HA.out _).mono ?_); rintro e w2 ⟨rfl, rfl⟩)
       | (refine aG rfl (.tmp 86) rfl g (j * 3) rfl Ky A3 B3 n3 c3 m3 d3 hrg3 ?_)
       | ((with_reducible refine (p8 5 (pt wr.heap.size) 1 1 (wr.alloc (zC Ky A3 n3 c3 B3 m3 d3))).mono ?_); rintro e w3 ⟨rfl, hb3⟩; have H3 := Lh hb3; have sD := Lh (nD.out w3 hb3); clear hb3)
       | (refine xx rfl (.tmp 90) (.tmp 89) rfl sD.out.1 bB.out yT rfl (.mk 5 [] [y]) 5 rfl none (pt wr.heap.size) 0 0 1 1 rfl sD.out.2 ?_; intro w9 iR; have aR := Lh (iq.out w3 w9 H3.out iR); clear iR))
      go_roundg gg
      case rel => exact ⟨i + 1, dn M S Nn, by omega, by go_num, Lh ⟨aR.out.1, pI.out, aR.out.2⟩⟩
      case measure => omega
     ·skip
      have t2 : decide ((0 : Int) < (N5 : Int)) = false := dF (by omega);have hr1 : Nn.tmod 8 = 3 := by rw [(ib eY 8).1]; exact eu
      have oJ : Nn.tdiv 8 = Aq := by rw [(ib eY 8).2, iH]
      have jQ : ¬ 0 < S.length := by have := bB.out; omega
      have fT := LH (dn M S Nn = S) (by unfold dn; rw [eu]; simp [jQ]; try omega);clear jQ;have aR := LH (aD (fun b => w.heap.size + 1 <= b) (w.heap.size + 1) (.slice B5 N5 d5) (dn M S Nn) wr) (by rw [fT.out]; exact HI.out.1);clear eu eY mU iH aH
      go_wp2_with ((with_reducible refine (HA.out _).mono ?_); rintro e w2 ⟨rfl, rfl⟩)
      go_roundg gg
      case rel => exact ⟨i + 1, dn M S Nn, by omega, by go_num, Lh ⟨aR.out, pI.out, HI.out.2.2⟩⟩
      case measure => omega
   ·skip
    by_cases hk : 1 < N5
    ·skip
     have t2 : decide ((1 : Int) < (N5 : Int)) = true := dT (by omega);have hr1 : Nn.tmod 8 = 4 := by rw [(ib eY 8).1]; exact eu
     have oJ : Nn.tdiv 8 = Aq := by rw [(ib eY 8).2, iH]
     obtain ⟨j, hj⟩ : ∃ j, N5 = j + 2 := ⟨N5 - 2, by omega⟩;have e4 : (N5 : Int) - 2 = (j : Int) := by omega
     obtain ⟨j1, hj1⟩ := eX (j + 1);have e5 : (N5 : Int) - 1 = (j1 : Int) := by omega
     have hj1N : j1 < N5 := by omega
     have wj : IntKind.i64.wrap (j : Int) = (j : Int) := wrap_small (by omega);have wj1 : IntKind.i64.wrap (j1 : Int) = (j1 : Int) := wrap_small (by omega);have yT : j < N5 := by omega
     obtain ⟨g, vI⟩ : ∃ g, B5 = some ⟨g, 0, none⟩ := by
      obtain ⟨B', d', hv', _, _, _, uX⟩ := HI.out.1.e;simp only [Value.slice.injEq] at hv';obtain ⟨rfl, _⟩ := hv';obtain ⟨g, e, _⟩ := uX (fun e => by have := bB.out; rw [e] at this; simp at this; omega);exact ⟨g, e⟩
     subst vI;obtain ⟨A3, n3, c3, B3, m3, d3, hrg3, eF⟩ := HI.out.1.kid (k := j) (by rw [<- bB.out]; omega);obtain ⟨y, hy⟩ := eX (av S j);rw [<- hy] at hrg3 eF;obtain ⟨Ky, bi⟩ := eX y.kind;rw [<- bi] at hrg3;have HY := LH (ak (fun b => (fun b => w.heap.size + 1 <= b) b /\ some b ≠ some g) wr y A3 n3 c3 B3 m3 d3 /\ Ky = y.kind) ⟨eF, bi⟩;obtain ⟨A4, n4, c4, B4, m4, d4, nG, rG⟩ := HI.out.1.kid (k := j1) (by rw [<- bB.out]; omega);obtain ⟨y2, gY⟩ := eX (av S j1);rw [<- gY] at nG rG;obtain ⟨Kx, hKx⟩ := eX y2.kind;rw [<- hKx] at nG;have wR := LH (ak (fun b => (fun b => w.heap.size + 1 <= b) b /\ some b ≠ some g) wr y2 A4 n4 c4 B4 m4 d4 /\ Kx = y2.kind) ⟨rG, hKx⟩;have sj : S.length - 1 = j1 := by have := bB.out; omega
     have Dx : S.length - 2 = j := by have := bB.out; omega
     have jQ : 1 < S.length := by have := bB.out; omega
     have fT := LH (dn M S Nn = (S.set j (.mk 3 [] [y, y2])).take j1) (by unfold dn; rw [eu]; simp [sj, Dx, jQ, hy, gY]);clear sj Dx jQ;have nD := LH (∀ w3, Below (wr.alloc (.cells #[.int .i64 Ky, .slice A3 n3 c3, .slice B3 m3 d3, .int .i64 Kx, .slice A4 n4 c4, .slice B4 m4 d4] 25)).drew.heap.size (wr.alloc (.cells #[.int .i64 Ky, .slice A3 n3 c3, .slice B3 m3 d3, .int .i64 Kx, .slice A4 n4 c4, .slice B4 m4 d4] 25)).drew w3 -> aD (fun b => w.heap.size + 1 <= b) (w.heap.size + 1) (.slice (pt g) N5 d5) S w3 /\ aY (fun b => (fun b => w.heap.size + 1 <= b) b /\ some b ≠ some g) w3 (.mk 3 [] [y, y2]) (.slice none 0 0) (.slice (pt wr.heap.size) 2 2)) fun w3 hb3 => by
      have hk : ae (wr.alloc (.cells #[.int .i64 Ky, .slice A3 n3 c3, .slice B3 m3 d3, .int .i64 Kx, .slice A4 n4 c4, .slice B4 m4 d4] 25)).drew wr.heap.size [.int .i64 Ky, .slice A3 n3 c3, .slice B3 m3 d3, .int .i64 Kx, .slice A4 n4 c4, .slice B4 m4 d4] 25 := ae.at wr _ _ 25 _ rfl rfl;have hb : Bw wr w3 := ah (ai _ _).drew hb3;have yn := HY.out.1.below hb;have hx3 := wR.out.1.below hb;have dN := HO.out.lt g rfl;refine ⟨HI.out.1.below hb, (ut 3 (by constructor <;> decide) (aM.app (aM.one yn.q) (aM.one hx3.q)) (by simp) (by have h1 := hk.below hb3 hk.lt; rw [HY.out.2, wR.out.2] at h1; exact h1) ⟨by have := fJ.out; omega, fun e => by have := Option.some.inj e; omega⟩).q⟩
     have iq := LH (∀ w3 w9, Below (wr.alloc (.cells #[.int .i64 Ky, .slice A3 n3 c3, .slice B3 m3 d3, .int .i64 Kx, .slice A4 n4 c4, .slice B4 m4 d4] 25)).drew.heap.size (wr.alloc (.cells #[.int .i64 Ky, .slice A3 n3 c3, .slice B3 m3 d3, .int .i64 Kx, .slice A4 n4 c4, .slice B4 m4 d4] 25)).drew w3 -> aD (fun b => w.heap.size + 1 <= b) (w.heap.size + 1) (.slice (pt g) N5 d5) (S.set j (.mk 3 [] [y, y2])) w9 /\ w3.grownBy w9 (some g) -> aD (fun b => w.heap.size + 1 <= b) (w.heap.size + 1) (.slice (pt g) j1 d5) (dn M S Nn) w9 /\ Below (w.alloc zR).heap.size (w.alloc zR) w9) fun w3 w9 hb3 h => by
      rw [fT.out];exact ⟨h.1.cut (by rw [List.length_set]; exact bB.out) (by omega), eH (ah HI.out.2.2 (ah (ai _ _).drew hb3)) h.2 (fun g' hg' => by obtain rfl := Option.some.inj hg'; have := (HO.out.lt g rfl).1; simp; omega)⟩
     have kL := LH (wr.rangeAt g (j * 3) (zV Ky A3 n3 c3 B3 m3 d3) /\ wr.rangeAt g (j1 * 3) (zV Kx A4 n4 c4 B4 m4 d4)) ⟨hrg3, nG⟩;have rU := LH (wr.drew.rangeAt g (j * 3) (zV Ky A3 n3 c3 B3 m3 d3) /\ wr.drew.rangeAt g (j1 * 3) (zV Kx A4 n4 c4 B4 m4 d4)) kL.out;have hcut := fun W => Iw (P := Tryz.prog) Tryz.underlying23 aZ (pt g) N5 j1 d5 (by omega) W
     clear eu eY mU iH aH hj hy bi eF gY hKx rG hrg3 nG hj1
     go_upto_region 19 with ((with_reducible refine (HA.out _).mono ?_); rintro e w2 ⟨rfl, rfl⟩)
     refine wp_region_held_drew (S := fun _ => True) (by kernel_rfl) (trivial) (fun cO => ?_);refine dP 0 ?_;refine dP 1 ?_;refine dP 2 ?_;refine dP 3 ?_;refine dP 4 ?_;refine dP 5 ?_;refine dP 6 ?_;refine dP 8 ?_;refine dP 9 ?_;refine dP 10 ?_;refine wpAnyH_take (i := 11) (oi := { dst := some 109, op := Op.indexAddr 23 (Operand.tmp 106) (Operand.tmp 108), type := 0, pos := "ref.go:601", after := #[{ on := 8, ground := Ground.data }, { on := 10, ground := Ground.data }], guard := none }) (v := ?_) rfl (by kernel_rfl) (by kernel_rfl) (by kernel_rfl) (fun _ _ _ h => h) (Or.inl ⟨by rfl, ?_⟩) (by assumption) ?_
     rotate_left
     ·(intro w' hSw; (try dsimp only at hSw); go_simp; try with_reducible rfl)
     (try simp only [Act.put, pP]);refine wpAnyH_ready (rs := [7, 12]) (by kernel_rfl) (by simp) ?_;refine AllReadyH.cons (o := ⟨some 105, .load 25 (.tmp 104), 25, _, _, none⟩) rfl (fun KK hK => ?_) (AllReadyH.cons (o := ⟨some 110, .load 25 (.tmp 109), 25, _, _, none⟩) rfl (fun KK hK => ?_) AllReadyH.nil)
     refine vQ rfl 25 (.tmp 104) rfl g (j * 3) rfl (zV Ky A3 n3 c3 B3 m3 d3) rU.out.1 _ Tryz.underlying25 rfl au ?_;refine hK.out _ _ trivial (fun hS1 => ?_);clear hK KK hS1;(try simp only [Act.put, pP]);refine wpAnyH_ready (rs := [12]) (by kernel_rfl) (by simp) ?_;refine AllReadyH.cons (o := ⟨some 110, .load 25 (.tmp 109), 25, _, _, none⟩) rfl (fun KK hK => ?_) AllReadyH.nil
     refine vQ rfl 25 (.tmp 109) rfl g (j1 * 3) rfl (zV Kx A4 n4 c4 B4 m4 d4) rU.out.2 _ Tryz.underlying25 rfl au ?_;refine hK.out _ _ trivial (fun hS1 => ?_);clear hK KK hS1;try simp only [Act.put, pP]
     rotate_left
     refine vQ rfl 25 (.tmp 109) rfl g (j1 * 3) rfl (zV Kx A4 n4 c4 B4 m4 d4) rU.out.2 _ Tryz.underlying25 rfl au ?_;refine hK.out _ _ trivial (fun hS1 => ?_);clear hK KK hS1;(try simp only [Act.put, pP]);refine wpAnyH_ready (rs := [7]) (by kernel_rfl) (by simp) ?_;refine AllReadyH.cons (o := ⟨some 105, .load 25 (.tmp 104), 25, _, _, none⟩) rfl (fun KK hK => ?_) AllReadyH.nil
     refine vQ rfl 25 (.tmp 104) rfl g (j * 3) rfl (zV Ky A3 n3 c3 B3 m3 d3) rU.out.1 _ Tryz.underlying25 rfl au ?_;refine hK.out _ _ trivial (fun hS1 => ?_);clear hK KK hS1;try simp only [Act.put, pP]
     all_goals
      refine wpAnyH_ready (rs := [13]) (by kernel_rfl) (by simp) ?_;refine wA rfl (fun KK hK => ?_) AllReadyH.nil
      go_simp;refine hK.out _ _ trivial (fun hS1 => ?_);clear hK KK hS1;(try simp only [Act.put, pP]);refine wpAnyH_ready (rs := [14]) (by kernel_rfl) (by simp) ?_;refine wA rfl (fun KK hK => ?_) AllReadyH.nil
      go_simp;go_at_call 40;refine (p8 3 (pt wr.heap.size) 2 2 (wr.alloc (.cells #[.int .i64 Ky, .slice A3 n3 c3, .slice B3 m3 d3, .int .i64 Kx, .slice A4 n4 c4, .slice B4 m4 d4] 25)).drew).mono ?_;rintro e w3 ⟨rfl, hb3⟩;have H3 := Lh hb3;have sD := Lh (nD.out w3 hb3);clear hb3;refine hK.out _ _ trivial (fun dh => ?_);clear hK KK dh;(try simp only [Act.put, pP]);refine wpAnyH_take (i := 15) (oi := { dst := some 113, op := Op.indexAddr 23 (Operand.tmp 98) (Operand.tmp 100), type := 0, pos := "ref.go:601", after := #[{ on := 0, ground := Ground.data }, { on := 2, ground := Ground.data }, { on := 0, ground := Ground.phase }, { on := 1, ground := Ground.phase }, { on := 2, ground := Ground.phase }, { on := 3, ground := Ground.phase }, { on := 4, ground := Ground.phase }, { on := 5, ground := Ground.phase }, { on := 6, ground := Ground.phase }, { on := 7, ground := Ground.phase }, { on := 8, ground := Ground.phase }, { on := 9, ground := Ground.phase }, { on := 10, ground := Ground.phase }, { on := 11, ground := Ground.phase }, { on := 12, ground := Ground.phase }, { on := 13, ground := Ground.phase }, { on := 14, ground := Ground.phase }], guard := none }) (v := ?_) rfl (by kernel_rfl) (by kernel_rfl) (by kernel_rfl) (fun _ _ _ h => h) (Or.inl ⟨by rfl, ?_⟩) (by assumption) ?_
      rotate_left
      ·(intro w' hSw; (try dsimp only at hSw); go_simp; try with_reducible rfl)
      (try simp only [Act.put, pP]);refine wpAnyH_ready (rs := [16]) (by kernel_rfl) (by simp) ?_;refine AllReadyH.cons (o := ⟨none, .store 25 (.tmp 113) (.tmp 112), 0, _, _, none⟩) rfl (fun KK hK => ?_) AllReadyH.nil
      refine IR rfl (.tmp 113) (.tmp 112) rfl sD.out.1 bB.out yT rfl (.mk 3 [] [y, y2]) 3 rfl none (pt wr.heap.size) 0 0 2 2 rfl sD.out.2 ?_;intro w9 iR;have aR := Lh (iq.out w3 w9 H3.out iR);clear iR;refine hK.out _ _ trivial (fun kV => ?_);clear hK KK kV;(try simp only [Act.put, pP]);refine wpAnyH_done (by kernel_rfl) ?_ _;go_wp2_with fail
      go_roundg gg
      case rel => exact ⟨i + 1, dn M S Nn, by omega, by go_num, Lh ⟨aR.out.1, pI.out, aR.out.2⟩⟩
      case measure => omega
    ·skip
     have t2 : decide ((1 : Int) < (N5 : Int)) = false := dF (by omega);have hr1 : Nn.tmod 8 = 4 := by rw [(ib eY 8).1]; exact eu
     have oJ : Nn.tdiv 8 = Aq := by rw [(ib eY 8).2, iH]
     have jQ : ¬ 1 < S.length := by have := bB.out; omega
     have fT := LH (dn M S Nn = S) (by unfold dn; rw [eu]; simp [jQ]; try omega);clear jQ;have aR := LH (aD (fun b => w.heap.size + 1 <= b) (w.heap.size + 1) (.slice B5 N5 d5) (dn M S Nn) wr) (by rw [fT.out]; exact HI.out.1);clear eu eY mU iH aH
     go_wp2_with ((with_reducible refine (HA.out _).mono ?_); rintro e w2 ⟨rfl, rfl⟩)
     go_roundg gg
     case rel => exact ⟨i + 1, dn M S Nn, by omega, by go_num, Lh ⟨aR.out, pI.out, HI.out.2.2⟩⟩
     case measure => omega
   ·skip
    by_cases hk : 1 < N5
    ·skip
     have t2 : decide ((1 : Int) < (N5 : Int)) = true := dT (by omega);have hr1 : Nn.tmod 8 = 5 := by rw [(ib eY 8).1]; exact eu
     have oJ : Nn.tdiv 8 = Aq := by rw [(ib eY 8).2, iH]
     obtain ⟨j, hj⟩ : ∃ j, N5 = j + 2 := ⟨N5 - 2, by omega⟩;have e4 : (N5 : Int) - 2 = (j : Int) := by omega
     obtain ⟨j1, hj1⟩ := eX (j + 1);have e5 : (N5 : Int) - 1 = (j1 : Int) := by omega
     have hj1N : j1 < N5 := by omega
     have wj : IntKind.i64.wrap (j : Int) = (j : Int) := wrap_small (by omega);have wj1 : IntKind.i64.wrap (j1 : Int) = (j1 : Int) := wrap_small (by omega);have yT : j < N5 := by omega
     obtain ⟨g, vI⟩ : ∃ g, B5 = some ⟨g, 0, none⟩ := by
      obtain ⟨B', d', hv', _, _, _, uX⟩ := HI.out.1.e;simp only [Value.slice.injEq] at hv';obtain ⟨rfl, _⟩ := hv';obtain ⟨g, e, _⟩ := uX (fun e => by have := bB.out; rw [e] at this; simp at this; omega);exact ⟨g, e⟩
     subst vI;obtain ⟨A3, n3, c3, B3, m3, d3, hrg3, eF⟩ := HI.out.1.kid (k := j) (by rw [<- bB.out]; omega);obtain ⟨y, hy⟩ := eX (av S j);rw [<- hy] at hrg3 eF;obtain ⟨Ky, bi⟩ := eX y.kind;rw [<- bi] at hrg3;have HY := LH (ak (fun b => (fun b => w.heap.size + 1 <= b) b /\ some b ≠ some g) wr y A3 n3 c3 B3 m3 d3 /\ Ky = y.kind) ⟨eF, bi⟩;obtain ⟨A4, n4, c4, B4, m4, d4, nG, rG⟩ := HI.out.1.kid (k := j1) (by rw [<- bB.out]; omega);obtain ⟨y2, gY⟩ := eX (av S j1);rw [<- gY] at nG rG;obtain ⟨Kx, hKx⟩ := eX y2.kind;rw [<- hKx] at nG;have wR := LH (ak (fun b => (fun b => w.heap.size + 1 <= b) b /\ some b ≠ some g) wr y2 A4 n4 c4 B4 m4 d4 /\ Kx = y2.kind) ⟨rG, hKx⟩;have sj : S.length - 1 = j1 := by have := bB.out; omega
     have Dx : S.length - 2 = j := by have := bB.out; omega
     have jQ : 1 < S.length := by have := bB.out; omega
     have fT := LH (dn M S Nn = (S.set j (.mk 4 [] [y, y2])).take j1) (by unfold dn; rw [eu]; simp [sj, Dx, jQ, hy, gY]);clear sj Dx jQ;have nD := LH (∀ w3, Below (wr.alloc (.cells #[.int .i64 Ky, .slice A3 n3 c3, .slice B3 m3 d3, .int .i64 Kx, .slice A4 n4 c4, .slice B4 m4 d4] 25)).drew.heap.size (wr.alloc (.cells #[.int .i64 Ky, .slice A3 n3 c3, .slice B3 m3 d3, .int .i64 Kx, .slice A4 n4 c4, .slice B4 m4 d4] 25)).drew w3 -> aD (fun b => w.heap.size + 1 <= b) (w.heap.size + 1) (.slice (pt g) N5 d5) S w3 /\ aY (fun b => (fun b => w.heap.size + 1 <= b) b /\ some b ≠ some g) w3 (.mk 4 [] [y, y2]) (.slice none 0 0) (.slice (pt wr.heap.size) 2 2)) fun w3 hb3 => by
      have hk : ae (wr.alloc (.cells #[.int .i64 Ky, .slice A3 n3 c3, .slice B3 m3 d3, .int .i64 Kx, .slice A4 n4 c4, .slice B4 m4 d4] 25)).drew wr.heap.size [.int .i64 Ky, .slice A3 n3 c3, .slice B3 m3 d3, .int .i64 Kx, .slice A4 n4 c4, .slice B4 m4 d4] 25 := ae.at wr _ _ 25 _ rfl rfl;have hb : Bw wr w3 := ah (ai _ _).drew hb3;have yn := HY.out.1.below hb;have hx3 := wR.out.1.below hb;have dN := HO.out.lt g rfl;refine ⟨HI.out.1.below hb, (ut 4 (by constructor <;> decide) (aM.app (aM.one yn.q) (aM.one hx3.q)) (by simp) (by have h1 := hk.below hb3 hk.lt; rw [HY.out.2, wR.out.2] at h1; exact h1) ⟨by have := fJ.out; omega, fun e => by have := Option.some.inj e; omega⟩).q⟩
     have iq := LH (∀ w3 w9, Below (wr.alloc (.cells #[.int .i64 Ky, .slice A3 n3 c3, .slice B3 m3 d3, .int .i64 Kx, .slice A4 n4 c4, .slice B4 m4 d4] 25)).drew.heap.size (wr.alloc (.cells #[.int .i64 Ky, .slice A3 n3 c3, .slice B3 m3 d3, .int .i64 Kx, .slice A4 n4 c4, .slice B4 m4 d4] 25)).drew w3 -> aD (fun b => w.heap.size + 1 <= b) (w.heap.size + 1) (.slice (pt g) N5 d5) (S.set j (.mk 4 [] [y, y2])) w9 /\ w3.grownBy w9 (some g) -> aD (fun b => w.heap.size + 1 <= b) (w.heap.size + 1) (.slice (pt g) j1 d5) (dn M S Nn) w9 /\ Below (w.alloc zR).heap.size (w.alloc zR) w9) fun w3 w9 hb3 h => by
      rw [fT.out];exact ⟨h.1.cut (by rw [List.length_set]; exact bB.out) (by omega), eH (ah HI.out.2.2 (ah (ai _ _).drew hb3)) h.2 (fun g' hg' => by obtain rfl := Option.some.inj hg'; have := (HO.out.lt g rfl).1; simp; omega)⟩
     have kL := LH (wr.rangeAt g (j * 3) (zV Ky A3 n3 c3 B3 m3 d3) /\ wr.rangeAt g (j1 * 3) (zV Kx A4 n4 c4 B4 m4 d4)) ⟨hrg3, nG⟩;have rU := LH (wr.drew.rangeAt g (j * 3) (zV Ky A3 n3 c3 B3 m3 d3) /\ wr.drew.rangeAt g (j1 * 3) (zV Kx A4 n4 c4 B4 m4 d4)) kL.out;have hcut := fun W => Iw (P := Tryz.prog) Tryz.underlying23 aZ (pt g) N5 j1 d5 (by omega) W
     clear eu eY mU iH aH hj hy bi eF gY hKx rG hrg3 nG hj1
     go_upto_region 22 with ((with_reducible refine (HA.out _).mono ?_); rintro e w2 ⟨rfl, rfl⟩)
     refine wp_region_held_drew (S := fun _ => True) (by kernel_rfl) (trivial) (fun cO => ?_);refine dP 0 ?_;refine dP 1 ?_;refine dP 2 ?_;refine dP 3 ?_;refine dP 4 ?_;refine dP 5 ?_;refine dP 6 ?_;refine dP 8 ?_;refine dP 9 ?_;refine dP 10 ?_;refine wpAnyH_take (i := 11) (oi := { dst := some 136, op := Op.indexAddr 23 (Operand.tmp 133) (Operand.tmp 135), type := 0, pos := "ref.go:604", after := #[{ on := 8, ground := Ground.data }, { on := 10, ground := Ground.data }], guard := none }) (v := ?_) rfl (by kernel_rfl) (by kernel_rfl) (by kernel_rfl) (fun _ _ _ h => h) (Or.inl ⟨by rfl, ?_⟩) (by assumption) ?_
     rotate_left
     ·(intro w' hSw; (try dsimp only at hSw); go_simp; try with_reducible rfl)
     (try simp only [Act.put, pP]);refine wpAnyH_ready (rs := [7, 12]) (by kernel_rfl) (by simp) ?_;refine AllReadyH.cons (o := ⟨some 132, .load 25 (.tmp 131), 25, _, _, none⟩) rfl (fun KK hK => ?_) (AllReadyH.cons (o := ⟨some 137, .load 25 (.tmp 136), 25, _, _, none⟩) rfl (fun KK hK => ?_) AllReadyH.nil)
     refine vQ rfl 25 (.tmp 131) rfl g (j * 3) rfl (zV Ky A3 n3 c3 B3 m3 d3) rU.out.1 _ Tryz.underlying25 rfl au ?_;refine hK.out _ _ trivial (fun hS1 => ?_);clear hK KK hS1;(try simp only [Act.put, pP]);refine wpAnyH_ready (rs := [12]) (by kernel_rfl) (by simp) ?_;refine AllReadyH.cons (o := ⟨some 137, .load 25 (.tmp 136), 25, _, _, none⟩) rfl (fun KK hK => ?_) AllReadyH.nil
     refine vQ rfl 25 (.tmp 136) rfl g (j1 * 3) rfl (zV Kx A4 n4 c4 B4 m4 d4) rU.out.2 _ Tryz.underlying25 rfl au ?_;refine hK.out _ _ trivial (fun hS1 => ?_);clear hK KK hS1;try simp only [Act.put, pP]
     rotate_left
     refine vQ rfl 25 (.tmp 136) rfl g (j1 * 3) rfl (zV Kx A4 n4 c4 B4 m4 d4) rU.out.2 _ Tryz.underlying25 rfl au ?_;refine hK.out _ _ trivial (fun hS1 => ?_);clear hK KK hS1;(try simp only [Act.put, pP]);refine wpAnyH_ready (rs := [7]) (by kernel_rfl) (by simp) ?_;refine AllReadyH.cons (o := ⟨some 132, .load 25 (.tmp 131), 25, _, _, none⟩) rfl (fun KK hK => ?_) AllReadyH.nil
     refine vQ rfl 25 (.tmp 131) rfl g (j * 3) rfl (zV Ky A3 n3 c3 B3 m3 d3) rU.out.1 _ Tryz.underlying25 rfl au ?_;refine hK.out _ _ trivial (fun hS1 => ?_);clear hK KK hS1;try simp only [Act.put, pP]
     all_goals
      refine wpAnyH_ready (rs := [13]) (by kernel_rfl) (by simp) ?_;refine wA rfl (fun KK hK => ?_) AllReadyH.nil
      go_simp;refine hK.out _ _ trivial (fun hS1 => ?_);clear hK KK hS1;(try simp only [Act.put, pP]);refine wpAnyH_ready (rs := [14]) (by kernel_rfl) (by simp) ?_;refine wA rfl (fun KK hK => ?_) AllReadyH.nil
      go_simp;go_at_call 40;refine (p8 4 (pt wr.heap.size) 2 2 (wr.alloc (.cells #[.int .i64 Ky, .slice A3 n3 c3, .slice B3 m3 d3, .int .i64 Kx, .slice A4 n4 c4, .slice B4 m4 d4] 25)).drew).mono ?_;rintro e w3 ⟨rfl, hb3⟩;have H3 := Lh hb3;have sD := Lh (nD.out w3 hb3);clear hb3;refine hK.out _ _ trivial (fun dh => ?_);clear hK KK dh;(try simp only [Act.put, pP]);refine wpAnyH_take (i := 15) (oi := { dst := some 140, op := Op.indexAddr 23 (Operand.tmp 125) (Operand.tmp 127), type := 0, pos := "ref.go:604", after := #[{ on := 0, ground := Ground.data }, { on := 2, ground := Ground.data }, { on := 0, ground := Ground.phase }, { on := 1, ground := Ground.phase }, { on := 2, ground := Ground.phase }, { on := 3, ground := Ground.phase }, { on := 4, ground := Ground.phase }, { on := 5, ground := Ground.phase }, { on := 6, ground := Ground.phase }, { on := 7, ground := Ground.phase }, { on := 8, ground := Ground.phase }, { on := 9, ground := Ground.phase }, { on := 10, ground := Ground.phase }, { on := 11, ground := Ground.phase }, { on := 12, ground := Ground.phase }, { on := 13, ground := Ground.phase }, { on := 14, ground := Ground.phase }], guard := none }) (v := ?_) rfl (by kernel_rfl) (by kernel_rfl) (by kernel_rfl) (fun _ _ _ h => h) (Or.inl ⟨by rfl, ?_⟩) (by assumption) ?_
      rotate_left
      ·(intro w' hSw; (try dsimp only at hSw); go_simp; try with_reducible rfl)
      (try simp only [Act.put, pP]);refine wpAnyH_ready (rs := [16]) (by kernel_rfl) (by simp) ?_;refine AllReadyH.cons (o := ⟨none, .store 25 (.tmp 140) (.tmp 139), 0, _, _, none⟩) rfl (fun KK hK => ?_) AllReadyH.nil
      refine IR rfl (.tmp 140) (.tmp 139) rfl sD.out.1 bB.out yT rfl (.mk 4 [] [y, y2]) 4 rfl none (pt wr.heap.size) 0 0 2 2 rfl sD.out.2 ?_;intro w9 iR;have aR := Lh (iq.out w3 w9 H3.out iR);clear iR;refine hK.out _ _ trivial (fun kV => ?_);clear hK KK kV;(try simp only [Act.put, pP]);refine wpAnyH_done (by kernel_rfl) ?_ _;go_wp2_with fail
      go_roundg gg
      case rel => exact ⟨i + 1, dn M S Nn, by omega, by go_num, Lh ⟨aR.out.1, pI.out, aR.out.2⟩⟩
      case measure => omega
    ·skip
     have t2 : decide ((1 : Int) < (N5 : Int)) = false := dF (by omega);have hr1 : Nn.tmod 8 = 5 := by rw [(ib eY 8).1]; exact eu
     have oJ : Nn.tdiv 8 = Aq := by rw [(ib eY 8).2, iH]
     have jQ : ¬ 1 < S.length := by have := bB.out; omega
     have fT := LH (dn M S Nn = S) (by unfold dn; rw [eu]; simp [jQ]; try omega);clear jQ;have aR := LH (aD (fun b => w.heap.size + 1 <= b) (w.heap.size + 1) (.slice B5 N5 d5) (dn M S Nn) wr) (by rw [fT.out]; exact HI.out.1);clear eu eY mU iH aH
     go_wp2_with ((with_reducible refine (HA.out _).mono ?_); rintro e w2 ⟨rfl, rfl⟩)
     go_roundg gg
     case rel => exact ⟨i + 1, dn M S Nn, by omega, by go_num, Lh ⟨aR.out, pI.out, HI.out.2.2⟩⟩
     case measure => omega
   ·skip
    by_cases hk : 0 < N5
    ·skip
     have t2 : decide ((0 : Int) < (N5 : Int)) = true := dT (by omega);have hr1 : Nn.tmod 8 = 6 := by rw [(ib eY 8).1]; exact eu
     have oJ : Nn.tdiv 8 = Aq := by rw [(ib eY 8).2, iH]
     obtain ⟨j, hj⟩ : ∃ j, N5 = j + 1 := ⟨N5 - 1, by omega⟩;have e4 : (N5 : Int) - 1 = (j : Int) := by omega
     have yT : j < N5 := by omega
     obtain ⟨g, vI⟩ : ∃ g, B5 = some ⟨g, 0, none⟩ := by
      obtain ⟨B', d', hv', _, _, _, uX⟩ := HI.out.1.e;simp only [Value.slice.injEq] at hv';obtain ⟨rfl, _⟩ := hv';obtain ⟨g, e, _⟩ := uX (fun e => by have := bB.out; rw [e] at this; simp at this; omega);exact ⟨g, e⟩
     subst vI;obtain ⟨A3, n3, c3, B3, m3, d3, hrg3, eF⟩ := HI.out.1.kid (k := j) (by rw [<- bB.out]; omega);obtain ⟨y, hy⟩ := eX (av S j);rw [<- hy] at hrg3 eF;obtain ⟨Ky, bi⟩ := eX y.kind;rw [<- bi] at hrg3;have HY := LH (ak (fun b => (fun b => w.heap.size + 1 <= b) b /\ some b ≠ some g) wr y A3 n3 c3 B3 m3 d3 /\ Ky = y.kind) ⟨eF, bi⟩;have sj : S.length - 1 = j := by have := bB.out; omega
     have jQ : 0 < S.length := by have := bB.out; omega
     have fT := LH (dn M S Nn = S.set j (.mk 4 [] [.mk 1 [] [], y])) (by unfold dn; rw [eu]; simp [sj, jQ, hy]);clear sj jQ;have nD := LH (∀ w3, Below (wr.alloc (.cells #[.int .i64 1, .slice none 0 0, .slice none 0 0, .int .i64 Ky, .slice A3 n3 c3, .slice B3 m3 d3] 25)).heap.size (wr.alloc (.cells #[.int .i64 1, .slice none 0 0, .slice none 0 0, .int .i64 Ky, .slice A3 n3 c3, .slice B3 m3 d3] 25)) w3 -> aD (fun b => w.heap.size + 1 <= b) (w.heap.size + 1) (.slice (pt g) N5 d5) S w3 /\ aY (fun b => (fun b => w.heap.size + 1 <= b) b /\ some b ≠ some g) w3 (.mk 4 [] [.mk 1 [] [], y]) (.slice none 0 0) (.slice (pt wr.heap.size) 2 2)) fun w3 hb3 => by
      have hk : ae (wr.alloc (.cells #[.int .i64 1, .slice none 0 0, .slice none 0 0, .int .i64 Ky, .slice A3 n3 c3, .slice B3 m3 d3] 25)) wr.heap.size [.int .i64 1, .slice none 0 0, .slice none 0 0, .int .i64 Ky, .slice A3 n3 c3, .slice B3 m3 d3] 25 := ae.at wr _ _ 25 _ rfl rfl;have hb : Bw wr w3 := ah (ai wr _) hb3;have yn := HY.out.1.below hb;have dN := HO.out.lt g rfl;refine ⟨HI.out.1.below hb, (ut 4 (by constructor <;> decide) (aM.app (aM.one (ak.flat _ w3 (K := 1) (by constructor <;> decide)).q) (aM.one yn.q)) (by simp) (by have h1 := hk.below hb3 hk.lt; rw [HY.out.2] at h1; exact h1) ⟨by have := fJ.out; omega, fun e => by have := Option.some.inj e; omega⟩).q⟩
     have iq := LH (∀ w3 w9, Below (wr.alloc (.cells #[.int .i64 1, .slice none 0 0, .slice none 0 0, .int .i64 Ky, .slice A3 n3 c3, .slice B3 m3 d3] 25)).heap.size (wr.alloc (.cells #[.int .i64 1, .slice none 0 0, .slice none 0 0, .int .i64 Ky, .slice A3 n3 c3, .slice B3 m3 d3] 25)) w3 -> aD (fun b => w.heap.size + 1 <= b) (w.heap.size + 1) (.slice (pt g) N5 d5) (S.set j (.mk 4 [] [.mk 1 [] [], y])) w9 /\ w3.grownBy w9 (some g) -> aD (fun b => w.heap.size + 1 <= b) (w.heap.size + 1) (.slice (pt g) N5 d5) (dn M S Nn) w9 /\ Below (w.alloc zR).heap.size (w.alloc zR) w9) fun w3 w9 hb3 h => by
      rw [fT.out];exact ⟨h.1, eH (ah HI.out.2.2 (ah (ai wr _) hb3)) h.2 (fun g' hg' => by obtain rfl := Option.some.inj hg'; have := (HO.out.lt g rfl).1; simp; omega)⟩
     clear eu eY mU iH aH hj hy bi eF
     go_wp2_with (first
      |((with_reducible refine (HA.out _).mono ?_); rintro e w2 ⟨rfl, rfl⟩)
      |(refine aG rfl (.tmp 159) rfl g (j * 3) rfl Ky A3 B3 n3 c3 m3 d3 hrg3 ?_)
      |((with_reducible refine (p8 4 (pt wr.heap.size) 2 2 (wr.alloc (.cells #[.int .i64 1, .slice none 0 0, .slice none 0 0, .int .i64 Ky, .slice A3 n3 c3, .slice B3 m3 d3] 25))).mono ?_); rintro e w3 ⟨rfl, hb3⟩; have H3 := Lh hb3; have sD := Lh (nD.out w3 hb3); clear hb3)
      |(refine xx rfl (.tmp 163) (.tmp 162) rfl sD.out.1 bB.out yT rfl (.mk 4 [] [.mk 1 [] [], y]) 4 rfl none (pt wr.heap.size) 0 0 2 2 rfl sD.out.2 ?_; intro w9 iR; have aR := Lh (iq.out w3 w9 H3.out iR); clear iR))
     go_roundg gg
     case rel => exact ⟨i + 1, dn M S Nn, by omega, by go_num, Lh ⟨aR.out.1, pI.out, aR.out.2⟩⟩
     case measure => omega
    ·skip
     have t2 : decide ((0 : Int) < (N5 : Int)) = false := dF (by omega);have hr1 : Nn.tmod 8 = 6 := by rw [(ib eY 8).1]; exact eu
     have oJ : Nn.tdiv 8 = Aq := by rw [(ib eY 8).2, iH]
     have jQ : ¬ 0 < S.length := by have := bB.out; omega
     have fT := LH (dn M S Nn = S) (by unfold dn; rw [eu]; simp [jQ]; try omega);clear jQ;have aR := LH (aD (fun b => w.heap.size + 1 <= b) (w.heap.size + 1) (.slice B5 N5 d5) (dn M S Nn) wr) (by rw [fT.out]; exact HI.out.1);clear eu eY mU iH aH
     go_wp2_with ((with_reducible refine (HA.out _).mono ?_); rintro e w2 ⟨rfl, rfl⟩)
     go_roundg gg
     case rel => exact ⟨i + 1, dn M S Nn, by omega, by go_num, Lh ⟨aR.out, pI.out, HI.out.2.2⟩⟩
     case measure => omega
   ·as_aux_lemma =>
     obtain ⟨Z, hZ⟩ := eX (Aq % 8);have hz81 : Aq.tmod 8 = Z := by rw [(ib wG 8).1, hZ]
     have hz82 : Aq % 8 = Z := hZ.symm;obtain ⟨Lf, hLf⟩ := eX (min 1 Z);have hlf1 : min 1 Z = Lf := hLf.symm;have oq := LH (0 <= Lf /\ Lf <= 1) (by omega);have fT := LH (dn M S Nn = S ++ [.mk Lf [] []]) (by unfold dn; rw [eu, hLf, hZ, iH]; simp);clear hLf hZ;have hr1 : Nn.tmod 8 = 7 := by rw [(ib eY 8).1]; exact eu
     have oJ : Nn.tdiv 8 = Aq := by rw [(ib eY 8).2, iH]
     have mO := LH (∀ v9 w9, w9.ownsRow (w.heap.size + 1) 25 3 v9 (N5 + 1) (xs ++ (zV Lf none 0 0 none 0 0)) -> (wr.alloc (zC Lf none 0 0 none 0 0)).grownBy w9 (Value.ownBlock (.slice B5 N5 d5)) -> (v9.ownBlock = Value.ownBlock (.slice B5 N5 d5) \/ v9.ownBlock = some (wr.alloc (zC Lf none 0 0 none 0 0)).heap.size) -> aD (fun b => w.heap.size + 1 <= b) (w.heap.size + 1) v9 (dn M S Nn) w9 /\ Below (w.alloc zR).heap.size (w.alloc zR) w9) fun v9 w9 h1 h2 h3 => by
      have aab : ak (fun b => wr.heap.size <= b) wr (.mk Lf [] []) none 0 0 none 0 0 := ak.flat _ wr (by have := oq.out; constructor <;> omega);rw [fT.out];exact ⟨CR HC.out HO.out bB.out (fun b hb => by have := fJ.out; omega) (Below.refl _ _) rfl aab h1 h2 h3, eH (aF HI.out.2.2 _) h2 (fun g hg => by have := (HO.out.lt _ hg).1; simp; omega)⟩
     clear eu eY mU iH aH
     go_wp2_with (first
      |((with_reducible refine (HA.out _).mono ?_); rintro e w2 ⟨rfl, rfl⟩)
      |(at_builtin; refine gW rfl (.tmp 167) (.tmp 172) 23 23 rfl (w.heap.size + 1) 25 i0 _ 3 56 Tryz.underlying23 aZ hz0 hz1 hz2 rfl _ _ _ rfl (gu HO.out (aF (Below.refl _ _) _)) _ 1 (zV Lf none 0 0 none 0 0) rfl (jR hz1 wr _ _ _ _ _ _ _) hs1 hs2 (by have h1 := fJ.out; simp; omega) ?_; intro v9 w9 dJ dN fe; have aR := Lh (mO.out v9 w9 dJ dN fe); clear dJ dN fe))
     go_roundg gg
     case rel => exact ⟨i + 1, dn M S Nn, by omega, by go_num, Lh ⟨aR.out.1, pI.out, aR.out.2⟩⟩
     case measure => omega
  ·obtain rfl : T = i := by omega
   have HE := LH (lL M (l.take 16) = S) (by
    rw [HI.out.2.1]
    congr 1
    by_cases h : T < n
    ·rw [Ff h]
    ·rw [List.take_of_length_le (by have := HX.out.1; omega), List.take_of_length_le (by have := HX.out.1; omega)])
   have dw := Lh (bK.out.1.below HI.out.2.2 bK.out.1.lt)
   by_cases h1 : N5 = 1
   ·obtain ⟨g, vI⟩ : ∃ g, B5 = some ⟨g, 0, none⟩ := by
     obtain ⟨B', d', hv', _, _, _, uX⟩ := HI.out.1.e;simp only [Value.slice.injEq] at hv';obtain ⟨rfl, _⟩ := hv';obtain ⟨g, e, _⟩ := uX (fun e => by have := bB.out; rw [e] at this; simp at this; omega);exact ⟨g, e⟩
    subst vI h1;obtain ⟨A3, n3, c3, B3, m3, d3, hrg3, eF⟩ := HI.out.1.kid (k := 0) (by rw [<- bB.out]; omega);obtain ⟨Ky, bi⟩ := eX ((av S 0).kind);rw [<- bi, Nat.zero_mul] at hrg3;have xe := LH (kK M l = av S 0 /\ Ky = (av S 0).kind) ⟨by unfold kK; rw [HE.out, if_pos bB.out.symm], bi⟩;have lC := Lh eF;have iq := LH (∀ w9, aT wr w9 w.heap.size (zV Ky A3 n3 c3 B3 m3 d3) 25 -> ae w9 w.heap.size (zV Ky A3 n3 c3 B3 m3 d3) 25 /\ dB (fun _ => False) w (kK M l) (.returned (.agg #[.int .i64 Ky, .slice A3 n3 c3, .slice B3 m3 d3])) w9) fun w9 hst => ⟨hst.1, by
     rw [xe.out.1, xe.out.2];exact ⟨A3, n3, c3, B3, m3, d3, rfl, (lC.out.grown (dG hst) (fun b hb e => by have := Option.some.inj e; have := hb.1; omega)).mono (fun b hb => .inr (by have := hb.1; omega)), hst.below (ah bK.out.2.1 HI.out.2.2) (Nat.le_refl _)⟩⟩
    clear bi eF
    by_cases h : T < n
    focus
     have Aw := Ff h;have kD : decide ((T : Int) < 16) = false := dF (by omega);have wV : decide (T < 16) = false := dF (by omega);clear Aw
    all_goals
     clear Ff
     go_wp2_with (first
      |(refine aG rfl (.tmp 178) rfl g (0) rfl Ky A3 B3 n3 c3 m3 d3 hrg3 ?_)
      |(refine wB rfl 25 (.tmp 4) (.tmp 179) rfl w.heap.size 0 rfl (zV Ky A3 n3 c3 B3 m3 d3) rfl dw.out 3 au ?_; intro w9 ag; have H9 := Lh (iq.out w9 ag); clear ag))
     exact cK rfl w.heap.size rfl (C := (zV Ky A3 n3 c3 B3 m3 d3)) (T := 25) H9.out.1 _ Tryz.underlying25 rfl au rfl H9.out.2
   ·have e1 : ((N5 : Int) == 1) = false := bF (by omega);have e2 : decide (N5 = 1) = false := dF h1;have xe := LH (kK M l = .mk 3 [] S) (by unfold kK; rw [HE.out, if_neg (by rw [<- bB.out]; exact h1)]);have kL := LH (ak (fun b => w.heap.size + 1 <= b) wr (.mk 3 [] S) none 0 0 B5 N5 d5) (by
     obtain ⟨B9, d9, wU, z1, z2, z3, z4⟩ := HI.out.1.e;simp only [Value.slice.injEq] at wU;obtain ⟨rfl, pM, rfl⟩ := wU;exact ak.make (by constructor <;> decide) (fun x hx => (by cases hx)) rfl (Nat.le_refl _) (Nat.zero_le _) (.inl rfl) (fun h => absurd rfl h) pM (by rw [pM]; exact z1) z2 (z3.mono fun b hb => hb.1) (fun hne b o e => by
      obtain ⟨g, e2, h1, h2⟩ := z4 hne;rw [e] at e2;obtain ⟨rfl, _⟩ : b = g /\ o = 0 := by simpa using e2
      exact h1))
    have iq := LH (∀ w3, Bw wr w3 -> ae w3 w.heap.size zL 25 /\ ∀ w9, aT w3 w9 w.heap.size (zV 3 none 0 0 B5 N5 d5) 25 -> ae w9 w.heap.size (zV 3 none 0 0 B5 N5 d5) 25 /\ dB (fun _ => False) w (kK M l) (.returned (.agg #[.int .i64 3, .slice none 0 0, .slice B5 N5 d5])) w9) fun w3 hb => ⟨dw.out.below hb dw.out.lt, fun w9 hst => ⟨hst.1, by
     rw [xe.out];exact ⟨none, 0, 0, B5, N5, d5, rfl, ((kL.out.below hb).grown (dG hst) (fun b hb e => by have := Option.some.inj e; omega)).mono (fun b hb => .inr (by omega)), hst.below (ah (ah bK.out.2.1 HI.out.2.2) hb) (Nat.le_refl _)⟩⟩⟩
    clear h1
    by_cases h : T < n
    focus
     have Aw := Ff h;have kD : decide ((T : Int) < 16) = false := dF (by omega);have wV : decide (T < 16) = false := dF (by omega);clear Aw
    all_goals
     clear Ff
     go_wp2_with (first
      |((with_reducible refine (p8 3 B5 N5 d5 wr).mono ?_); rintro e w3 ⟨rfl, hb3⟩; have H3 := Lh (iq.out w3 hb3); clear hb3)
      |(refine wB rfl 25 (.tmp 4) (.tmp 181) rfl w.heap.size 0 rfl (zV 3 none 0 0 B5 N5 d5) rfl H3.out.1 3 au ?_; intro w9 ag; have H9 := Lh (H3.out.2 w9 ag); clear ag))
     exact cK rfl w.heap.size rfl (C := (zV 3 none 0 0 B5 N5 d5)) (T := 25) H9.out.1 _ Tryz.underlying25 rfl au rfl H9.out.2
theorem UO (l : List Int) (A : Option Addr) (n c : Nat) (hn : n = l.length) (jd : n <= c) (hcm : c <= 9223372036854775807) (hl : ∀ x ∈ l, fM x) (w : World) (hr : Rd w A (iv l)) : Calls Tryz.prog 12 #[.slice A n c] w (dB (fun _ => False) w (kK 3 l)) := by
 have hb1 : Bw w (w.alloc zR) := ai w _;have HSH := LH (Cz 37 #[.slice A n c, .int .i64 3] (w.alloc zR) (dB (fun _ => False) (w.alloc zR) (kK 3 l))) (Ri l 3 (by decide) (by decide) A n c hn jd hcm hl (w.alloc zR) (hr.below hb1));have iq := LH (∀ w3 K9 A9 n9 c9 B9 m9 d9, K9 = (kK 3 l).kind -> ak (fun b => False \/ (w.alloc zR).heap.size <= b) w3 (kK 3 l) A9 n9 c9 B9 m9 d9 -> Below (w.alloc zR).heap.size (w.alloc zR) w3 -> ae w3 w.heap.size zL 25 /\ ∀ w9, aT w3 w9 w.heap.size (zV K9 A9 n9 c9 B9 m9 d9) 25 -> ae w9 w.heap.size (zV K9 A9 n9 c9 B9 m9 d9) 25 /\ dB (fun _ => False) w (kK 3 l) (.returned (.agg #[.int .i64 K9, .slice A9 n9 c9, .slice B9 m9 d9])) w9) fun w3 K9 A9 n9 c9 B9 m9 d9 hK h hb => by
  have hk : ae (w.alloc zR) w.heap.size zL 25 := ae.at w _ _ 25 _ rfl rfl;have hsz : (w.alloc zR).heap.size = w.heap.size + 1 := by simp
  refine ⟨hk.below hb hk.lt, fun w9 hst => ⟨hst.1, ?_⟩⟩;rw [hK];exact ⟨A9, n9, c9, B9, m9, d9, rfl, (h.grown (dG hst) (fun b hb e => by have := Option.some.inj e; rcases hb with hb | hb; exact hb; omega)).mono (fun b hb => .inr (by rcases hb with hb | hb; exact hb.elim; omega)), hst.below (ah hb1 hb) (Nat.le_refl _)⟩
 clear hn jd hcm hl hr hb1;go_enter Tryz.func12, Tryz.ntmps12
 go_wp2_with (first
  |((with_reducible refine HSH.out.mono ?_); rintro e w3 hp; obtain ⟨A9, n9, c9, B9, m9, d9, rfl, hx, hb⟩ := dV hp; obtain ⟨K9, hK9⟩ := eX ((kK 3 l).kind); rw [<- hK9]; have H3 := Lh (iq.out w3 K9 A9 n9 c9 B9 m9 d9 hK9 hx hb); clear hp hx hb hK9)
  |(refine wB rfl 25 (.tmp 2) (.tmp 4) rfl w.heap.size 0 rfl (zV K9 A9 n9 c9 B9 m9 d9) rfl H3.out.1 3 au ?_; intro w9 ag; have H9 := Lh (H3.out.2 w9 ag); clear ag))
 exact cK rfl w.heap.size rfl (C := (zV K9 A9 n9 c9 B9 m9 d9)) (T := 25) H9.out.1 _ Tryz.underlying25 rfl au rfl H9.out.2
structure bu (W : World) (b : Nat) (r : Rx) (K : Int) (A : Option Addr) (n c : Nat) (B : Option Addr) (m d : Nat) : Prop where
 rg : W.rangeAt b 0 (zV K A n c B m d)
 ox : aI W r A n c B m d
 hK : K = r.kind
def zU (W : World) (r : Rx) (e : Ending) (w' : World) : Prop := ∃ K A n c B m d, e = .returned (.agg #[.int .i64 K, .slice A n c, .slice B m d]) /\ K = r.kind /\ ak (fun b => W.heap.size <= b) w' r A n c B m d /\ Bw W w'
section
variable {W W2 : World} {b : Nat} {r : Rx} {K : Int} {A : Option Addr} {n c : Nat} {B : Option Addr} {m d : Nat}
theorem WN {e : Ending} (h : zU W r e W2) : ∃ K A n c B m d, e = .returned (.agg #[.int .i64 K, .slice A n c, .slice B m d]) /\ K = r.kind /\ ak (fun b => W.heap.size <= b) W2 r A n c B m d /\ Bw W W2 := h
theorem bu.below (h : bu W b r K A n c B m d) (hb : Bw W W2) : bu W2 b r K A n c B m d := ⟨fun j u hu => (hb.cell (p := ⟨b, 0 + j, none⟩) (World.block_lt_of_cell? W _ (h.rg j u hu))).trans (h.rg j u hu), h.ox.below hb, h.hK⟩
theorem bu.new (hb : ae W2 b (zV K A n c B m d) 25) (hbl : Bw W W2) (ho : aI W r A n c B m d) (hK : K = r.kind) : bu W2 b r K A n c B m d := ⟨aS hb, ho.below hbl, hK⟩
theorem I5 (h : aI W r A n c B m d) (hK : K = r.kind) (hd : DB W) (hc : az r <= 1000000) (s : Rx) (hs : s = bP r) : Calls Tryz.prog 19 #[.agg #[.int .i64 K, .slice A n c, .slice B m d]] W (zU W s) := by
 subst hK hs;exact (FJ hd r (by omega) h).mono fun e w' hp => by
  obtain ⟨A, n, c, B, m, d, rfl, hx, hb⟩ := dV hp;exact ⟨_, A, n, c, B, m, d, rfl, rfl, hx.mono (fun b hb => hb.elim (fun h => h.elim) id), hb⟩
theorem Ik (h : aI W r A n c B m d) (hK : K = r.kind) (hd : DB W) (hc : az r <= 1000000) (s : Rx) (hs : s = bP (bC r)) : Calls Tryz.prog 21 #[.agg #[.int .i64 K, .slice A n c, .slice B m d]] W (zU W s) := by
 subst hK hs;exact (KZ hd r (by omega) h).mono fun e w' hp => by
  obtain ⟨A, n, c, B, m, d, rfl, hx, hb⟩ := dV hp;exact ⟨_, A, n, c, B, m, d, rfl, rfl, hx.mono (fun b hb => hb.elim (fun h => h.elim) id), hb⟩
theorem zu {r2 : Rx} {K2 : Int} {A2 : Option Addr} {n2 c2 : Nat} {B2 : Option Addr} {m2 d2 : Nat} (h : aI W r A n c B m d) (hK : K = r.kind) (h2 : aI W r2 A2 n2 c2 B2 m2 d2) (hK2 : K2 = r2.kind) (he : r = r2) : Calls Tryz.prog 18 #[.agg #[.int .i64 K, .slice A n c, .slice B m d], .agg #[.int .i64 K2, .slice A2 n2 c2, .slice B2 m2 d2]] W (aU W true) := BN hK hK2 true (by rw [he, Ib]; rfl) h h2
theorem JD (h : aI W r A n c B m d) (hK : K = r.kind) (V : Bool) (hV : V = aC r) : Calls Tryz.prog 14 #[.agg #[.int .i64 K, .slice A n c, .slice B m d]] W (aU W V) := qQ hK h V hV
theorem I8 (h : aI W r A n c B m d) (hK : K = r.kind) (V : Bool) (hV : V = (aC r && aO r)) : Calls Tryz.prog 16 #[.agg #[.int .i64 K, .slice A n c, .slice B m d]] W (aU W V) := by
 subst hK;exact Ir r h V hV
theorem Sv (l : List Int) (A : Option Addr) (n c : Nat) (hn : n = l.length) (jd : n <= c) (hcm : c <= 9223372036854775807) (hl : ∀ x ∈ l, fM x) (w : World) (hr : Rd w A (iv l)) : Calls Tryz.prog 12 #[.slice A n c] w (zU w (kK 3 l)) := (UO l A n c hn jd hcm hl w hr).mono fun e w' hp => by
 obtain ⟨A, n, c, B, m, d, rfl, hx, hb⟩ := dV hp;exact ⟨_, A, n, c, B, m, d, rfl, rfl, hx.mono (fun b hb => hb.elim (fun h => h.elim) id), hb⟩
theorem Mw (hd : DB W) : Calls Tryz.prog 23 #[] W (aU W true) := U5 W hd
end
theorem La (l : List Int) : aC (kK 3 l) = true /\ az (kK 3 l) <= 33 := Vh (by decide) (by decide) l
theorem QV {r : Rx} (h : aC r = true) : bP r = normR false r := by unfold bP; rw [if_pos h]
theorem RU {r : Rx} (h : aC r = true) : bP (bC r) = normR true r := by rw [QV (by rw [MZ]; exact h), We h]
section
open Go.ChangeShapes Go.WideShapes Go.ChangeAt Go.RowKit Go.ChangeMaps
open Alp
open Rgx
set_option maxRecDepth 100000
section
variable {H : Type} {enc : TypeId × Value -> H}
theorem P5 : Tryz.prog.cellsOf 25 = 3 := by kernel_rfl
theorem WZ : Tryz.prog.cellsOf 22 = 1 := by kernel_rfl
theorem WY : Tryz.prog.cellsOf 23 = 1 := by kernel_rfl
theorem Rz {W : World} {n : Nat} {cs : List Value} {x : DataW H × List MemPlace} (h : DataW.trod enc Tryz.prog W 0 (fun _ => true) true n 22 cs = some x) :
  ∃ (A : Option Addr) (l : List Int) (c : Nat), cs = [.slice A l.length c] /\ Rd W A (iv l) /\ (∀ n ∈ l, fM n) /\ l.length <= c /\ c <= maxLen := by
 rcases open_ints Tryz.underlying22 Tryz.underlying3 KD h with ⟨hcs, hx⟩ | ⟨a, len, cap, zs, hcs, _, hl, hm, hz, hx, hcell, hwz⟩
 ·subst hcs;exact ⟨none, [], 0, rfl, .inl rfl, by simp, Nat.le_refl _, Nat.zero_le _⟩
 ·subst hcs;simp only [if_true] at hz;have hlen : (zs.take len).length = len := by simp; omega
  refine ⟨some a, zs.take len, cap, by rw [hlen], ?_, fun n hn => BV (hwz n (List.mem_of_mem_take hn)), by rw [hlen]; exact hl, hm⟩
  by_cases h0 : zs.take len = []
  ·exact .inl (by rw [h0]; rfl)
  ·refine Mm (by simpa [iv] using h0) (fun i v hv => ?_);have hi : i < len := by have := (List.getElem?_eq_some_iff.1 hv).1; rw [FN, hlen] at this; exact this
   rw [hcell i (by omega)];have DD : i < zs.length := by omega
   simp [iv, hi, DD] at hv;rw [<- hv];simp [List.getD, DD]
theorem Je (d : DataW H) : 1 <= Rows.uptoBulk d := by
 cases d with
 |lit l => cases l <;> simp [Rows.uptoBulk]
 |_ => simp [Rows.uptoBulk]
theorem LG : ∀ (ks : List Rx) (ds : List (DataW H)), ks.length = ds.length -> (∀ i (h : i < ks.length) (h2 : i < ds.length), 4 * az ks[i] <= (Rows.uptoBulk ds[i] : Int)) -> 4 * aj ks <= (Rows.uptoBulkAll ds : Int)
 |[], [], _, _ => by simp [aj, Rows.uptoBulkAll]
 |r :: rs, d :: ds, hl, h => by
  have h1 := h 0 (by simp) (by simp);have h2 := LG rs ds (by simpa using hl) fun i hi hj => by
   have h3 := h (i + 1) (by simpa using hi) (by simpa using hj);rw [List.getElem_cons_succ, List.getElem_cons_succ] at h3;exact h3
  simp only [List.getElem_cons_zero] at h1;simp only [aj, Rows.uptoBulkAll];omega
theorem LP {W : World} {b o : Nat} : ∀ (ks : List Rx) (j : Nat), (∀ i (hi : i < ks.length), ∃ v1 v2, W.cell? ⟨b, o + (j + i) * 3, none⟩ = some (.int .i64 ks[i].kind) /\ W.cell? ⟨b, o + (j + i) * 3 + 1, none⟩ = some v1 /\ W.cell? ⟨b, o + (j + i) * 3 + 2, none⟩ = some v2 /\ iE W ks[i] v1 v2) -> dU W ks (some ⟨b, o, none⟩) j
 |[], _, _ => by rw [dU]; trivial
 |r :: rs, j, h => by
  rw [dU];obtain ⟨v1, v2, h1, h2, h3, h4⟩ := h 0 (by simp);refine ⟨⟨b, o, v1, v2, rfl, by simpa using h1, by simpa using h2, by simpa using h3, by simpa using h4⟩, LP rs (j + 1) fun i hi => ?_⟩;have h5 := h (i + 1) (by simpa using hi);rw [show j + (i + 1) = j + 1 + i by omega] at h5
  simpa using h5
theorem Ot {P : Nat -> Rx -> Prop} : ∀ n, (∀ i, i < n -> ∃ r, P i r) -> ∃ ks : List Rx, ks.length = n /\ ∀ i (hi : i < ks.length), P i ks[i]
 |0, _ => ⟨[], rfl, fun i hi => absurd hi (by simp)⟩
 |n + 1, h => by
  obtain ⟨ks, hl, hk⟩ := Ot n fun i hi => h i (by omega)
  obtain ⟨r, hr⟩ := h n (by omega);refine ⟨ks ++ [r], by simp [hl], fun i hi => ?_⟩
  by_cases h1 : i < ks.length
  ·rw [List.getElem_append_left h1]; exact hk i h1
  ·have h2 : i = ks.length := by simp at hi; omega
   subst h2;rw [List.getElem_append_right (Nat.le_refl _)]
   simpa [hl] using hr
theorem Tu {W : World} : ∀ (n : Nat) (cs : List Value) (x : DataW H × List MemPlace), DataW.trod enc Tryz.prog W 0 (fun _ => true) true n 25 cs = some x -> ∃ (r : Rx) (v1 v2 : Value), cs = [.int .i64 r.kind, v1, v2] /\ iE W r v1 v2 /\ 4 * az r <= (Rows.uptoBulk x.1 : Int) := by
 intro n
 induction n using Nat.strongRecOn with
 |ind n ih =>
  intro cs x h;obtain ⟨xs, n1, hn, hxe, l8, Es, hf⟩ := DataW.trod_struct Tryz.underlying25 h;rw [P5] at l8;obtain ⟨c0, c1, c2, rfl⟩ : ∃ a b c, cs = [a, b, c] := by
   match cs, l8 with
   |[a, b, c], _ => exact ⟨a, b, c, rfl⟩
  obtain ⟨y0, y1, y2, rfl⟩ : ∃ a b c, xs = [a, b, c] := by
   match xs, Es with
   |[a, b, c], _ => exact ⟨a, b, c, rfl⟩
  have jq := Je y0.1;have oJ := Je y1.1;have hq2 := Je y2.1;have hxb : Rows.uptoBulk x.1 = Rows.uptoBulk y0.1 + (Rows.uptoBulk y1.1 + Rows.uptoBulk y2.1) + 1 := by rw [hxe]; simp [Rows.uptoBulk, Rows.uptoBulkAll]
  have h0 : DataW.trod enc Tryz.prog W 0 (fun _ => true) true n1 3 (([c0, c1, c2].drop 0).take (Tryz.prog.cellsOf 3)) = some y0 := hf 0 _ rfl;have h1 : DataW.trod enc Tryz.prog W 0 (fun _ => true) true n1 22 (([c0, c1, c2].drop 1).take (Tryz.prog.cellsOf 22)) = some y1 := hf 1 _ rfl;have h2 : DataW.trod enc Tryz.prog W 0 (fun _ => true) true n1 23 (([c0, c1, c2].drop 2).take (Tryz.prog.cellsOf 23)) = some y2 := hf 2 _ rfl;rw [KD] at h0;rw [WZ] at h1;rw [WY] at h2;obtain ⟨k, hk, _, hkw⟩ := DataW.trod_int Tryz.underlying3 h0;obtain ⟨A, l, c, hl, qC, hli, hlc, hcm⟩ := Rz h1;simp at hk hl;subst hk hl
  rcases DataW.trod_slice Tryz.underlying23 h2 with ⟨hcs, _⟩ | ⟨a, len, cap, elems, rest, n2, tY, hcs, hye, _, hlc2, J4, hel, Af, _, _⟩
  ·simp at hcs;subst hcs;exact ⟨.mk k l [], _, _, rfl, (iE.iff W _ _ _).2 ⟨⟨BV hkw, hli⟩, ⟨A, _, c, rfl, rfl, hlc, hcm, qC⟩, none, 0, 0, rfl, rfl, Nat.le_refl _, Nat.zero_le _, by show dU W [] _ _; rw [dU]; trivial⟩, by rw [hxb]; simp [az, aj]; omega⟩
  ·simp at hcs;subst hcs;rw [P5] at Af;obtain ⟨b, o, spot⟩ := a;have each : ∀ i, i < len -> ∃ r : Rx, (∃ d, elems[i]? = some d /\ 4 * az r <= (Rows.uptoBulk d.1 : Int)) /\ ∃ v1 v2, W.cell? (((⟨b, o, spot⟩ : Addr).add (i * 3)).add 0) = some (.int .i64 r.kind) /\ W.cell? (((⟨b, o, spot⟩ : Addr).add (i * 3)).add 1) = some v1 /\ W.cell? (((⟨b, o, spot⟩ : Addr).add (i * 3)).add 2) = some v2 /\ iE W r v1 v2 := by
    intro i hi;have h3 := Af i hi;have he : i < elems.length := by omega
    rw [List.getElem?_eq_getElem he, Option.bind_eq_some_iff] at h3;obtain ⟨ds, h4, h5⟩ := h3;obtain ⟨_, _, h6⟩ := World.cells?_some h4;obtain ⟨r, v1, v2, rfl, hr, gN⟩ := ih n2 (by omega) ds _ h5;exact ⟨r, ⟨_, List.getElem?_eq_getElem he, gN⟩, v1, v2, by simpa using h6 0 (by omega), by simpa using h6 1 (by omega), by simpa using h6 2 (by omega), hr⟩
   obtain ⟨ks, eU, gQ⟩ := Ot len each
   by_cases h0 : len = 0
   ·subst h0;obtain rfl : ks = [] := List.length_eq_zero_iff.1 eU;exact ⟨.mk k l [], _, _, rfl, (iE.iff W _ _ _).2 ⟨⟨BV hkw, hli⟩, ⟨A, _, c, rfl, rfl, hlc, hcm, qC⟩, some ⟨b, o, spot⟩, 0, cap, rfl, rfl, Nat.zero_le _, J4, by show dU W [] _ _; rw [dU]; trivial⟩, by rw [hxb]; simp [az, aj]; omega⟩
   ·have hs : spot = none := by
     obtain ⟨_, v1, v2, h1, _⟩ := gQ 0 (by omega)
     simpa [Addr.add] using World.cell?_spot h1
    subst hs;refine ⟨.mk k l ks, _, _, rfl, (iE.iff W _ _ _).2 ⟨⟨BV hkw, hli⟩, ⟨A, _, c, rfl, rfl, hlc, hcm, qC⟩, some ⟨b, o, none⟩, len, cap, rfl, eU.symm, hlc2, J4, ?_⟩, ?_⟩
    rotate_left
    ·have hkb := LG ks (elems.map (·.1)) (by simp; omega) fun i hi hj => by
      obtain ⟨⟨d, hd, hdb⟩, _⟩ := gQ i hi;have h9 : elems[i]'(by simpa using hj) = d := by rw [List.getElem?_eq_getElem (by simpa using hj)] at hd; exact Option.some.inj hd
      simpa [h9] using hdb
     have hyb : Rows.uptoBulkAll (elems.map (·.1)) + 1 <= Rows.uptoBulk y2.1 := by rw [hye]; simp [Rows.uptoBulk]
     rw [hxb];simp only [az];omega
    refine LP ks 0 fun i hi => ?_
    obtain ⟨_, v1, v2, g1, g2, g3, g4⟩ := gQ i hi;have ha : ∀ q : Nat, (⟨b, o, none⟩ : Addr).add q = ⟨b, o + q, none⟩ := fun q => by unfold Addr.add; split <;> simp_all
    have hb : ∀ p q : Nat, (⟨b, p, none⟩ : Addr).add q = ⟨b, p + q, none⟩ := fun p q => by unfold Addr.add; split <;> simp_all
    rw [ha, hb] at g1 g2 g3;rw [Nat.add_zero] at g1;rw [Nat.zero_add];exact ⟨v1, v2, g1, g2, g3, g4⟩
theorem V3 {W : World} {v : Value} {d : DataW H} {ps : List MemPlace} {b0 : Nat} (hval : Value.okWide Tryz.prog W .any b0 25 v) (h : DataW.Trod enc Tryz.prog W 0 (fun _ => true) true 25 v d ps) :
  ∃ (r : Rx) (A : Option Addr) (n c : Nat) (B : Option Addr) (m d' : Nat), v = .agg #[.int .i64 r.kind, .slice A n c, .slice B m d'] /\ aI W r A n c B m d' /\ 4 * az r <= (Rows.uptoBulk d : Int) := by
 obtain ⟨cs, rfl, hsz⟩ := okWide_struct Tryz.underlying25 hval;obtain ⟨fuel, hf⟩ := h;obtain ⟨r, v1, v2, hcs, hr, gN⟩ := Tu fuel _ _ hf;have hv : qi W (.agg cs) r := by
  refine ⟨v1, v2, ?_, hr⟩;have h1 : cs.toList = [.int .i64 r.kind, v1, v2] := by simpa [Value.cells] using hcs
  congr 1
  exact Array.toList_inj.1 h1
 obtain ⟨A, n, c, B, m, d, e, ho⟩ := hv.op;exact ⟨r, A, n, c, B, m, d, e, ho, gN⟩
end
end
end Go.Proofs.YtakcjlimbabbfaaGreatDoor
