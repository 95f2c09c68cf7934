/- Part of the proof of the laws of layer 7: what they share. -/
import Derived.Test.YtakcjlimbabbfaaGreatDoorQC3
set_option linter.unusedVariables false
set_option linter.unusedSimpArgs false
set_option maxRecDepth 1000000
set_option maxHeartbeats 8000000
namespace Go.Proofs.YtakcjlimbabbfaaGreatDoor
open Go.RowKit
open Alp
open Rgx
theorem MS {s : Int} : ∀ {ks : List Rx}, (∀ x ∈ ks, NF x) -> aj (ks.map (bN s)) <= aj ks * aj ks
 |[], _ => by simp [aj]
 |r :: rs, h => by
  have ih := MS (s := s) (ks := rs) fun x hx => h x (by simp [hx])
  rw [List.map_cons];simp only [aj];exact KY (fQ r) (iF rs) (BM (h r (by simp)).val) ih
theorem TT {s : Int} (ks : List Rx) (hN : ∀ x ∈ ks, NF x) (hcm : aj ks + 1 <= 1000000) (ih : ∀ x ∈ ks, uj s x) {p : Nat -> Prop} (w : World) (hp : ∀ b, p b -> b < w.heap.size) (hd : DB w) (B : Option Addr) (m d : Nat) (hm : m = ks.length) (iA : m <= d) (fG : d <= 9223372036854775807) (hk : bA p w ks B) : Calls Tryz.prog 90 #[.slice B m d, .int .i64 s] w (D2 p w (altP (ks.map (bN s))) (ks.any aO)) := by
 have HL := LH (m = ks.length /\ bA p w ks B /\ (∀ x ∈ ks, NF x) /\ aj ks + 1 <= 1000000) ⟨hm, hk, hN, hcm⟩;have dH := Lh ih;have gM := Lh hd;have HP := Lh hp;obtain ⟨R, hR⟩ := eX (altP (ks.map (bN s)));obtain ⟨VA, gK⟩ := eX (ks.any aO);rw [<- hR, <- gK];have HR := Lh hR;have HV := Lh gK;have HZ := LH (ae (w.alloc zR) w.heap.size zL 25) (ae.at w zL _ 25 _ rfl rfl);have ve : m <= 1000000 := by have := mW ks; omega
 have wE := Jj m (by omega);have H1 := LH (aD (fun b => p b \/ w.heap.size + 1 <= b) (w.heap.size + 1) (.slice (pt (w.heap.size + 1)) m m) (List.replicate m (.mk 0 [] [])) ((w.alloc zR).alloc (.cells (madeCells #[.int .i64 0, .slice none 0 0, .slice none 0 0] (m * 3)) 25)) /\ Below (w.alloc zR).heap.size (w.alloc zR) ((w.alloc zR).alloc (.cells (madeCells #[.int .i64 0, .slice none 0 0, .slice none 0 0] (m * 3)) 25)) /\ w.heap.size + 1 < ((w.alloc zR).alloc (.cells (madeCells #[.int .i64 0, .slice none 0 0, .slice none 0 0] (m * 3)) 25)).heap.size) ⟨MK (by simp) (by simp) (by unfold maxLen; omega), ai _ _, by simp⟩;clear hm hk hN hcm ih hp hd hR gK;go_enter Tryz.func90, Tryz.ntmps90;go_wp2_with fail
 go_loopg [7, 17] m (fun g s7 s17 wr => ∃ (i : Nat) (O : Bool) (cur : List Rx), i + g = m /\ s17 = .int .i64 (i : Int) /\ s7 = .bool O /\ Hid (cur.length = m /\ (∀ j, j < i -> av cur j = bN s (av ks j)) /\ O = (ks.take i).any aO /\ aD (fun b => p b \/ w.heap.size + 1 <= b) (w.heap.size + 1) (.slice (pt (w.heap.size + 1)) m m) cur wr /\ Below (w.alloc zR).heap.size (w.alloc zR) wr /\ w.heap.size + 1 < wr.heap.size))
 case atStart => exact ⟨0, false, List.replicate m (.mk 0 [] []), by omega, rfl, rfl, Lh ⟨by simp, fun j hj => by omega, by simp, H1.out.1, H1.out.2.1, H1.out.2.2⟩⟩
 case round =>
  obtain ⟨i, O, cur, hi, rfl, rfl, HI⟩ := hrel;have HO := LH (O = (ks.take i).any aO) HI.out.2.2.1;have HO := LH ((ks.take i).any aO = O) HO.out.symm
  by_cases hlt : i < m
  ·obtain ⟨gg, rfl⟩ : ∃ g, gk = g + 1 := ⟨gk - 1, by omega⟩;have bR := LH (i < ks.length) (by rw [<- HL.out.1]; exact hlt);have bg := LH (Bw w wr) (ah (ai _ _) HI.out.2.2.2.2.1);have wJ := LH (w.heap.size + 1 < wr.heap.size) HI.out.2.2.2.2.2;obtain ⟨b, o, rfl⟩ := HL.out.2.1.place (by have := bR.out; omega);obtain ⟨A2, n2, c2, B2, m2, d2, hrg, ax⟩ := HL.out.2.1.kid bR.out;have hrg2 := iW hrg bg.out;obtain ⟨Kk, iQ⟩ := eX ((av ks i).kind);rw [<- iQ] at hrg2;have aP := Lh hrg2;have bY := gU (ks := ks) bR.out;have HK := LH (uj s (av ks i) /\ Kk = (av ks i).kind /\ ak p w (av ks i) A2 n2 c2 B2 m2 d2) ⟨dH.out _ bY, iQ, ax⟩;obtain ⟨D, hD⟩ := eX (bN s (av ks i));obtain ⟨V, hV⟩ := eX (aO (av ks i));obtain ⟨K8, aX⟩ := eX D.kind;have fU := LH (K8 = D.kind) aX;have HD := LH (D = bN s (av ks i) /\ V = aO (av ks i)) ⟨hD, hV⟩;clear hrg ax hrg2 iQ bY hD hV aX
   cases O
   ·skip
    go_wp2_with (first
     | (refine aG rfl (.tmp 20) rfl b (o + i * 3) rfl Kk A2 B2 n2 c2 m2 d2 aP.out ?_)
     | (refine wB rfl 25 (.tmp 9) (.tmp 21) rfl wr.heap.size 0 rfl (zV Kk A2 n2 c2 B2 m2 d2) rfl (ae.new' wr zL _ 25 rfl) 3 au ?_; intro w4 ag; have aA := LH (ae w4 wr.heap.size (zV Kk A2 n2 c2 B2 m2 d2) 25 /\ Bw wr w4) (dC ag); clear ag; have jb := aS aA.out.1)
     | (refine aG rfl (.tmp 9) rfl wr.heap.size (0) rfl Kk A2 B2 n2 c2 m2 d2 jb ?_)
     | ((with_reducible refine (wh (p := p) HK.out.2.1 HK.out.1 (fun b hb => by have h1 := HP.out b hb; have h2 := bg.out.size; have h3 := aA.out.2.size; omega) (gM.out.below (ah bg.out aA.out.2)) (HK.out.2.2.below (ah bg.out aA.out.2)) D V HD.out.1 HD.out.2).mono ?_); rintro e w5 ⟨A8, n8, c8, B8, m8, d8, rfl, h8, aK⟩; rw [<- fU.out]; have H5 := LH (ak (fun b => (fun b => p b \/ w.heap.size + 1 <= b) b /\ some b ≠ some (w.heap.size + 1)) w5 D A8 n8 c8 B8 m8 d8 /\ Bw wr w5) ⟨h8.mono (fun b hb => by
         rcases hb with hb | hb
         ·have h1 := HP.out b hb;exact ⟨.inl hb, fun e => by simp at e; omega⟩
         ·have h1 := wJ.out;have h2 := aA.out.2.size;exact ⟨.inr (by omega), fun e => by simp at e; omega⟩), ah aA.out.2 aK⟩; clear h8 aK)
     | (refine wB rfl 25 (.tmp 10) (.tmp 26) rfl w5.heap.size 0 rfl (zV K8 A8 n8 c8 B8 m8 d8) rfl (ae.new' w5 zL _ 25 rfl) 3 au ?_; intro w6 ag; have aJ := LH (ae w6 w5.heap.size (zV K8 A8 n8 c8 B8 m8 d8) 25 /\ Bw w5 w6) (dC ag); clear ag; have pE := aS aJ.out.1; have eZ := LH (Bw wr w6) (ah H5.out.2 aJ.out.2))
     | (refine aG rfl (.tmp 10) rfl w5.heap.size (0) rfl K8 A8 B8 n8 c8 m8 d8 pE ?_)
     | (refine xx rfl (.tmp 31) (.tmp 30) rfl (HI.out.2.2.2.1.below eZ.out) HI.out.1.symm hlt rfl D K8 fU.out A8 B8 n8 c8 m8 d8 rfl (H5.out.1.below aJ.out.2).q ?_; intro w9 iR; have H9 := LH (aD (fun b => p b \/ w.heap.size + 1 <= b) (w.heap.size + 1) (.slice (pt (w.heap.size + 1)) m m) (cur.set i D) w9 /\ w6.grownBy w9 (some (w.heap.size + 1))) iR; clear iR))
    go_roundg gg
    case rel => exact ⟨i + 1, V, cur.set i D, by omega, by go_num, by first | rfl | go_num, Lh ⟨by rw [List.length_set]; exact HI.out.1, fun j hj => by
     by_cases e : j = i
     · subst e; rw [Cq (by rw [HI.out.1]; exact hlt)]; exact HD.out.1
     · rw [zA e]; exact HI.out.2.1 j (by omega), by
     rw [List.take_succ_eq_append_getElem bR.out, List.any_append, HO.out, <- gI bR.out]; simp [HD.out.2], H9.out.1, eH (ah HI.out.2.2.2.2.1 eZ.out) H9.out.2 (fun g hg => by simp at hg; simp; omega), Nat.lt_of_lt_of_le (Nat.lt_of_lt_of_le HI.out.2.2.2.2.2 eZ.out.size) H9.out.2.size⟩⟩
    case measure => omega
   ·skip
    go_wp2_with (first
     | (refine aG rfl (.tmp 20) rfl b (o + i * 3) rfl Kk A2 B2 n2 c2 m2 d2 aP.out ?_)
     | (refine wB rfl 25 (.tmp 9) (.tmp 21) rfl wr.heap.size 0 rfl (zV Kk A2 n2 c2 B2 m2 d2) rfl (ae.new' wr zL _ 25 rfl) 3 au ?_; intro w4 ag; have aA := LH (ae w4 wr.heap.size (zV Kk A2 n2 c2 B2 m2 d2) 25 /\ Bw wr w4) (dC ag); clear ag; have jb := aS aA.out.1)
     | (refine aG rfl (.tmp 9) rfl wr.heap.size (0) rfl Kk A2 B2 n2 c2 m2 d2 jb ?_)
     | ((with_reducible refine (wh (p := p) HK.out.2.1 HK.out.1 (fun b hb => by have h1 := HP.out b hb; have h2 := bg.out.size; have h3 := aA.out.2.size; omega) (gM.out.below (ah bg.out aA.out.2)) (HK.out.2.2.below (ah bg.out aA.out.2)) D V HD.out.1 HD.out.2).mono ?_); rintro e w5 ⟨A8, n8, c8, B8, m8, d8, rfl, h8, aK⟩; rw [<- fU.out]; have H5 := LH (ak (fun b => (fun b => p b \/ w.heap.size + 1 <= b) b /\ some b ≠ some (w.heap.size + 1)) w5 D A8 n8 c8 B8 m8 d8 /\ Bw wr w5) ⟨h8.mono (fun b hb => by
         rcases hb with hb | hb
         ·have h1 := HP.out b hb;exact ⟨.inl hb, fun e => by simp at e; omega⟩
         ·have h1 := wJ.out;have h2 := aA.out.2.size;exact ⟨.inr (by omega), fun e => by simp at e; omega⟩), ah aA.out.2 aK⟩; clear h8 aK)
     | (refine wB rfl 25 (.tmp 10) (.tmp 26) rfl w5.heap.size 0 rfl (zV K8 A8 n8 c8 B8 m8 d8) rfl (ae.new' w5 zL _ 25 rfl) 3 au ?_; intro w6 ag; have aJ := LH (ae w6 w5.heap.size (zV K8 A8 n8 c8 B8 m8 d8) 25 /\ Bw w5 w6) (dC ag); clear ag; have pE := aS aJ.out.1; have eZ := LH (Bw wr w6) (ah H5.out.2 aJ.out.2))
     | (refine aG rfl (.tmp 10) rfl w5.heap.size (0) rfl K8 A8 B8 n8 c8 m8 d8 pE ?_)
     | (refine xx rfl (.tmp 31) (.tmp 30) rfl (HI.out.2.2.2.1.below eZ.out) HI.out.1.symm hlt rfl D K8 fU.out A8 B8 n8 c8 m8 d8 rfl (H5.out.1.below aJ.out.2).q ?_; intro w9 iR; have H9 := LH (aD (fun b => p b \/ w.heap.size + 1 <= b) (w.heap.size + 1) (.slice (pt (w.heap.size + 1)) m m) (cur.set i D) w9 /\ w6.grownBy w9 (some (w.heap.size + 1))) iR; clear iR))
    go_roundg gg
    case rel => exact ⟨i + 1, true, cur.set i D, by omega, by go_num, by first | rfl | go_num, Lh ⟨by rw [List.length_set]; exact HI.out.1, fun j hj => by
     by_cases e : j = i
     · subst e; rw [Cq (by rw [HI.out.1]; exact hlt)]; exact HD.out.1
     · rw [zA e]; exact HI.out.2.1 j (by omega), by
     rw [List.take_succ_eq_append_getElem bR.out, List.any_append, HO.out, <- gI bR.out]; simp [HD.out.2], H9.out.1, eH (ah HI.out.2.2.2.2.1 eZ.out) H9.out.2 (fun g hg => by simp at hg; simp; omega), Nat.lt_of_lt_of_le (Nat.lt_of_lt_of_le HI.out.2.2.2.2.2 eZ.out.size) H9.out.2.size⟩⟩
    case measure => omega
  ·obtain rfl : m = i := by omega
   have xX := LH (O = ks.any aO) (by
    have h1 := HO.out;rw [List.take_of_length_le (by rw [HL.out.1]; exact Nat.le_refl _)] at h1;exact h1.symm)
   have wK := LH (cur = ks.map (bN s)) (CB (by rw [List.length_map]; exact HI.out.1.trans HL.out.1) fun j hj => by
    rw [List.length_map] at hj;rw [HI.out.2.1 j (by rw [HL.out.1]; exact hj), gI hj, gI (by simpa using hj), List.getElem_map])
   have fK := LH ((∀ y ∈ cur, NF y) /\ aj cur <= 1000000000000 /\ bA (fun b => (fun b => p b \/ w.heap.size + 1 <= b) b /\ b < wr.heap.size) wr cur (pt (w.heap.size + 1))) ⟨fun y hy => by
    rw [wK.out] at hy;obtain ⟨x, hx, rfl⟩ := List.mem_map.1 hy;exact NF.dp s (HL.out.2.2.1 x hx).val, by
    have h1 := MS (s := s) HL.out.2.2.1;have h2 := qZ (a := aj ks) (b := 1000000) (iF ks) (by have := HL.out.2.2.2; omega);rw [wK.out]; omega, by
    obtain ⟨Bz, dz, yF, _, _, zh, _⟩ := HI.out.2.2.2.1.e;rw [Value.slice.injEq] at yF;rw [yF.1];exact (zh.mono fun b hb => hb.1).lt⟩
   go_wp2_with (first
    |((with_reducible refine (CG (p := fun b => (fun b => p b \/ w.heap.size + 1 <= b) b /\ b < wr.heap.size) wr (fun b hb => hb.2) (gM.out.below (ah (ai _ _) HI.out.2.2.2.2.1)) cur _ m m HI.out.1.symm (Nat.le_refl _) (by omega) fK.out.1 fK.out.2.1 fK.out.2.2).mono ?_); rintro e kX hp; obtain ⟨A9, n9, c9, B9, m9, d9, rfl, h9, fo⟩ := dV hp; have lV := LH (ak (fun b => p b \/ w.heap.size + 1 <= b) kX (altP cur) A9 n9 c9 B9 m9 d9 /\ Below (w.alloc zR).heap.size (w.alloc zR) kX) ⟨h9.mono (fun b hb => by
       rcases hb with hb | hb
       · exact hb.1
       · exact .inr (by have h1 := HI.out.2.2.2.2.2; omega)), ah HI.out.2.2.2.2.1 fo⟩; clear hp h9 fo)
    |(refine wB rfl 25 (.tmp 4) (.tmp 38) rfl w.heap.size 0 rfl [.int .i64 (altP cur).kind, .slice A9 n9 c9, .slice B9 m9 d9] rfl (HZ.out.below lV.out.2 (by simp)) 3 au ?_; intro w9 ag; have aB := LH (ae w9 w.heap.size [.int .i64 (altP cur).kind, .slice A9 n9 c9, .slice B9 m9 d9] 25 /\ Bw w w9 /\ ak (fun b => p b \/ w.heap.size + 1 <= b) w9 (altP cur) A9 n9 c9 B9 m9 d9) ⟨ag.1, ag.below (ah (ai _ _) lV.out.2) (Nat.le_refl _), il lV.out.1 ag (fun b hb => by rcases hb with hb | hb; (have := HP.out b hb; omega); omega)⟩; clear ag))
   exact gX rfl w.heap.size rfl (C := [.int .i64 (altP cur).kind, .slice A9 n9 c9, .slice B9 m9 d9]) (T := 25) aB.out.1 _ Tryz.underlying25 rfl au rfl (.bool O) rfl (by
    rw [HR.out, HV.out, <- wK.out, <- xX.out];exact ⟨_, _, _, _, _, _, rfl, aB.out.2.2.mono (fun b hb => by rcases hb with h | h; exact .inl h; exact .inr (by omega)), aB.out.2.1⟩)
theorem KS : ∀ ks : List Rx, vP ks = ks.all aO
 |[] => by rw [vP]; rfl
 |r :: rs => by rw [vP, KS rs]; rfl
theorem NK : ∀ ks : List Rx, vW ks = ks.any aO
 |[] => by rw [vW]; rfl
 |r :: rs => by rw [vW, NK rs]; rfl
theorem zF (x : Rx) : aO x = if x.kind = 3 then x.kids.all aO else if x.kind = 4 then x.kids.any aO else decide (x.kind = 1 \/ x.kind = 5) := by
 cases x with
 |mk k s ks => rw [aO, KS, NK]; rfl
theorem QW {s : Int} (x : Rx) (nC : NF x) (hcm : az x <= 1000000) (ih : ∀ y ∈ x.kids, uj s y) : uj s x := by
 intro p w A B n c m d hpb hd hop;obtain ⟨K, hK⟩ := eX x.kind;have HX := LH (ak p w x A n c B m d /\ K = x.kind /\ NF x /\ az x <= 1000000) ⟨hop, hK, nC, hcm⟩;have dH := Lh ih;have gM := Lh hd;have HP := Lh hpb;have rT := LH (∀ b, (p b \/ w.heap.size + 2 <= b) -> b ≠ w.heap.size + 1) (fun b h => by rcases h with h | h; (have := hpb b h; omega); omega);have bK := LH (ae ((w.alloc (zC K A n c B m d)).alloc zR) w.heap.size (zV K A n c B m d) 25) ((ae.at w (zV K A n c B m d) _ 25 _ rfl rfl).alloc _);have HZ := LH (ae ((w.alloc (zC K A n c B m d)).alloc zR) (w.heap.size + 1) zL 25) (ae.at (w.alloc (zC K A n c B m d)) zL _ 25 _ rfl (by simp));have iA := hop.o.mcap;have fG := hop.o.dmax;have hr := nC.rng;rw [<- hK] at hr ⊢;have gQ : K = 0 \/ K = 1 \/ K = 2 \/ K = 3 \/ K = 4 \/ K = 5 := by omega
 clear hr
 rcases gQ with hk | hk | hk | hk | hk | hk
 ·skip
  have ab : (K == 1) = false := bF (by omega);have bb : (K == 2) = false := bF (by omega);have cb : (K == 3) = false := bF (by omega);have db : (K == 4) = false := bF (by omega);have eb : (K == 5) = false := bF (by omega);have qF := LH (aO x = false) (by
   rw [zF]; simp [<- hK, hk])
  have oL := LH (bN s x = .mk 0 [] []) (dp1 nC (by omega));clear hpb hd hop nC hcm ih hK hk;go_enter Tryz.func56, Tryz.ntmps56
  go_wp2_with (refine wB rfl 25 (.tmp 4) (.tmp 51) rfl (w.heap.size + 1) 0 rfl zL rfl HZ.out 3 au ?_; intro w9 ag; have aB := LH (ae w9 (w.heap.size + 1) zL 25 /\ Bw w w9) ⟨ag.1, ag.below (aF (ai _ _) _) (by omega)⟩; clear ag)
  exact gX rfl (w.heap.size + 1) rfl (C := zL) (T := 25) aB.out.1 _ Tryz.underlying25 rfl au rfl (.bool false) rfl (by
   rw [qF.out, oL.out]; exact ⟨_, _, _, _, _, _, rfl, ak.flat _ w9 (by constructor <;> decide), aB.out.2⟩)
 ·skip
  have ab : (K == 1) = true := bT (by omega);have qF := LH (aO x = true) (by
   rw [zF]; simp [<- hK, hk])
  have oL := LH (bN s x = .mk 0 [] []) (dp1 nC (by omega));clear hpb hd hop nC hcm ih hK hk;go_enter Tryz.func56, Tryz.ntmps56
  go_wp2_with (refine wB rfl 25 (.tmp 4) (.tmp 12) rfl (w.heap.size + 1) 0 rfl zL rfl HZ.out 3 au ?_; intro w9 ag; have aB := LH (ae w9 (w.heap.size + 1) zL 25 /\ Bw w w9) ⟨ag.1, ag.below (aF (ai _ _) _) (by omega)⟩; clear ag)
  exact gX rfl (w.heap.size + 1) rfl (C := zL) (T := 25) aB.out.1 _ Tryz.underlying25 rfl au rfl (.bool true) rfl (by
   rw [qF.out, oL.out]; exact ⟨_, _, _, _, _, _, rfl, ak.flat _ w9 (by constructor <;> decide), aB.out.2⟩)
 ·skip
  have ab : (K == 1) = false := bF (by omega);have bb : (K == 2) = true := bT (by omega);have qF := LH (aO x = false) (by
   rw [zF]; simp [<- hK, hk])
  have hne : iv x.syms ≠ [] := by
   have h2 := (nC.k2 (hK.symm.trans hk)).2;intro e;have e2 : x.syms = [] := by simpa [iv] using e
   rw [e2] at h2;simp [fO] at h2
  obtain ⟨sb, so, rfl, hsc⟩ := hop.o.syms.open hne;have hb1 := bK.out.cell (j := 1) rfl;clear hne
  cases hcs : x.syms.contains s with
  |true =>
   have oL := LH (bN s x = .mk 1 [] []) (by rw [dp2 (hK.symm.trans hk), hcs]; rfl);have lw := LH (∀ W0 : Unit, Cz 63 #[.slice (some ⟨sb, so, none⟩) n c, .int .i64 s] ((w.alloc (zC K (some ⟨sb, so, none⟩) n c B m d)).alloc zR) fun e w' => e = .returned (.bool true) /\ w' = ((w.alloc (zC K (some ⟨sb, so, none⟩) n c B m d)).alloc zR)) fun _ => by
    have h := Tryz.slices_Contains_int sb so n c x.syms s ((w.alloc (zC K (some ⟨sb, so, none⟩) n c B m d)).alloc zR) (by rw [hop.o.nlen]; exact Nat.le_refl _) (by have := hop.o.ncap; have := hop.o.cmax; omega) (fun j hj => (aF (ai w _) _).cell (p := ⟨sb, so + j, none⟩) (World.block_lt_of_cell? w _ (hsc j _ (Cy hj))) |>.trans (hsc j _ (Cy hj)));rw [List.take_of_length_le (by rw [hop.o.nlen]; exact Nat.le_refl _), hcs] at h;exact h
   clear hpb hd hop nC hcm ih hK hk hsc hcs;go_enter Tryz.func56, Tryz.ntmps56
   go_wp2_with (first
    | ((with_reducible refine (lw.out ()).mono ?_); rintro e w1 ⟨rfl, rfl⟩)
    | (refine wB rfl 25 (.tmp 4) (.tmp 19) rfl (w.heap.size + 1) 0 rfl (zV 1 none 0 0 none 0 0) rfl HZ.out 3 au ?_; intro w9 ag; have aB := LH (ae w9 (w.heap.size + 1) (zV 1 none 0 0 none 0 0) 25 /\ Bw w w9) ⟨ag.1, ag.below (aF (ai _ _) _) (by omega)⟩; clear ag))
   exact gX rfl (w.heap.size + 1) rfl (C := (zV 1 none 0 0 none 0 0)) (T := 25) aB.out.1 _ Tryz.underlying25 rfl au rfl (.bool false) rfl (by
    rw [qF.out, oL.out]; exact ⟨_, _, _, _, _, _, rfl, ak.flat _ w9 (by constructor <;> decide), aB.out.2⟩)
  |false =>
   have oL := LH (bN s x = .mk 0 [] []) (by rw [dp2 (hK.symm.trans hk), hcs]; rfl);have lw := LH (∀ W0 : Unit, Cz 63 #[.slice (some ⟨sb, so, none⟩) n c, .int .i64 s] ((w.alloc (zC K (some ⟨sb, so, none⟩) n c B m d)).alloc zR) fun e w' => e = .returned (.bool false) /\ w' = ((w.alloc (zC K (some ⟨sb, so, none⟩) n c B m d)).alloc zR)) fun _ => by
    have h := Tryz.slices_Contains_int sb so n c x.syms s ((w.alloc (zC K (some ⟨sb, so, none⟩) n c B m d)).alloc zR) (by rw [hop.o.nlen]; exact Nat.le_refl _) (by have := hop.o.ncap; have := hop.o.cmax; omega) (fun j hj => (aF (ai w _) _).cell (p := ⟨sb, so + j, none⟩) (World.block_lt_of_cell? w _ (hsc j _ (Cy hj))) |>.trans (hsc j _ (Cy hj)));rw [List.take_of_length_le (by rw [hop.o.nlen]; exact Nat.le_refl _), hcs] at h;exact h
   clear hpb hd hop nC hcm ih hK hk hsc hcs;go_enter Tryz.func56, Tryz.ntmps56
   go_wp2_with (first
    | ((with_reducible refine (lw.out ()).mono ?_); rintro e w1 ⟨rfl, rfl⟩)
    | (refine wB rfl 25 (.tmp 4) (.tmp 51) rfl (w.heap.size + 1) 0 rfl zL rfl HZ.out 3 au ?_; intro w9 ag; have aB := LH (ae w9 (w.heap.size + 1) zL 25 /\ Bw w w9) ⟨ag.1, ag.below (aF (ai _ _) _) (by omega)⟩; clear ag))
   exact gX rfl (w.heap.size + 1) rfl (C := zL) (T := 25) aB.out.1 _ Tryz.underlying25 rfl au rfl (.bool false) rfl (by
    rw [qF.out, oL.out]; exact ⟨_, _, _, _, _, _, rfl, ak.flat _ w9 (by constructor <;> decide), aB.out.2⟩)
 ·skip
  have ab : (K == 1) = false := bF (by omega);have bb : (K == 2) = false := bF (by omega);have cb : (K == 3) = true := bT (by omega);have oL := LH (bN s x = altP (jA s x.kids)) (dp3 nC (hK.symm.trans hk));have qF := LH (aO x = x.kids.all aO) (by rw [zF]; simp [<- hK, hk]);clear hpb hd hop nC hcm ih hK hk;go_enter Tryz.func56, Tryz.ntmps56
  go_wp2_with (first
   |((with_reducible refine (Qg (s := s) x.kids HX.out.2.2.1.kids (by have := fP x; have := HX.out.2.2.2; omega) dH.out (p := p) ((w.alloc (zC K A n c B m d)).alloc zR) (fun b hb => by have := HP.out b hb; simp; omega) (gM.out.below (aF (ai _ _) _)) B m d HX.out.1.o.mlen iA fG (HX.out.1.kids.1.below (aF (ai _ _) _))).mono ?_); rintro e w5 ⟨A8, n8, c8, B8, m8, d8, rfl, h8, aK⟩; rw [<- oL.out] at h8 ⊢; obtain ⟨K8, aX⟩ := eX ((bN s x).kind); rw [<- aX]; have H8 := LH (ak (fun b => p b \/ w.heap.size + 2 <= b) w5 (bN s x) A8 n8 c8 B8 m8 d8 /\ Below ((w.alloc (zC K A n c B m d)).alloc zR).heap.size ((w.alloc (zC K A n c B m d)).alloc zR) w5 /\ K8 = (bN s x).kind) ⟨h8.mono (fun b hb => by simpa using hb), aK, aX⟩; clear h8 aK aX)
   |(refine wB rfl 25 (.tmp 4) (.tmp 26) rfl (w.heap.size + 1) 0 rfl (zV K8 A8 n8 c8 B8 m8 d8) rfl (HZ.out.below H8.out.2.1 (by simp)) 3 au ?_; intro w9 ag; have aB := LH (ae w9 (w.heap.size + 1) (zV K8 A8 n8 c8 B8 m8 d8) 25 /\ Bw w w9 /\ ak (fun b => p b \/ w.heap.size + 2 <= b) w9 (bN s x) A8 n8 c8 B8 m8 d8) ⟨ag.1, ag.below (ah (aF (ai _ _) _) H8.out.2.1) (by omega), il H8.out.1 ag rT.out⟩; clear ag))
  exact gX rfl (w.heap.size + 1) rfl (C := (zV K8 A8 n8 c8 B8 m8 d8)) (T := 25) aB.out.1 _ Tryz.underlying25 rfl au rfl (.bool (x.kids.all aO)) rfl (by
   rw [qF.out, H8.out.2.2]; exact ⟨_, _, _, _, _, _, rfl, aB.out.2.2.mono (fun b hb => by rcases hb with h | h; exact .inl h; exact .inr (by omega)), aB.out.2.1⟩)
 ·skip
  have ab : (K == 1) = false := bF (by omega);have bb : (K == 2) = false := bF (by omega);have cb : (K == 3) = false := bF (by omega);have db : (K == 4) = true := bT (by omega);have oL := LH (bN s x = altP (x.kids.map (bN s))) (dp4 (hK.symm.trans hk));have qF := LH (aO x = x.kids.any aO) (by rw [zF]; simp [<- hK, hk]);clear hpb hd hop nC hcm ih hK hk;go_enter Tryz.func56, Tryz.ntmps56
  go_wp2_with (first
   |((with_reducible refine (TT (s := s) x.kids HX.out.2.2.1.kids (by have := fP x; have := HX.out.2.2.2; omega) dH.out (p := p) ((w.alloc (zC K A n c B m d)).alloc zR) (fun b hb => by have := HP.out b hb; simp; omega) (gM.out.below (aF (ai _ _) _)) B m d HX.out.1.o.mlen iA fG (HX.out.1.kids.1.below (aF (ai _ _) _))).mono ?_); rintro e w5 ⟨A8, n8, c8, B8, m8, d8, rfl, h8, aK⟩; rw [<- oL.out] at h8 ⊢; obtain ⟨K8, aX⟩ := eX ((bN s x).kind); rw [<- aX]; have H8 := LH (ak (fun b => p b \/ w.heap.size + 2 <= b) w5 (bN s x) A8 n8 c8 B8 m8 d8 /\ Below ((w.alloc (zC K A n c B m d)).alloc zR).heap.size ((w.alloc (zC K A n c B m d)).alloc zR) w5 /\ K8 = (bN s x).kind) ⟨h8.mono (fun b hb => by simpa using hb), aK, aX⟩; clear h8 aK aX)
   |(refine wB rfl 25 (.tmp 4) (.tmp 34) rfl (w.heap.size + 1) 0 rfl (zV K8 A8 n8 c8 B8 m8 d8) rfl (HZ.out.below H8.out.2.1 (by simp)) 3 au ?_; intro w9 ag; have aB := LH (ae w9 (w.heap.size + 1) (zV K8 A8 n8 c8 B8 m8 d8) 25 /\ Bw w w9 /\ ak (fun b => p b \/ w.heap.size + 2 <= b) w9 (bN s x) A8 n8 c8 B8 m8 d8) ⟨ag.1, ag.below (ah (aF (ai _ _) _) H8.out.2.1) (by omega), il H8.out.1 ag rT.out⟩; clear ag))
  exact gX rfl (w.heap.size + 1) rfl (C := (zV K8 A8 n8 c8 B8 m8 d8)) (T := 25) aB.out.1 _ Tryz.underlying25 rfl au rfl (.bool (x.kids.any aO)) rfl (by
   rw [qF.out, H8.out.2.2]; exact ⟨_, _, _, _, _, _, rfl, aB.out.2.2.mono (fun b hb => by rcases hb with h | h; exact .inl h; exact .inr (by omega)), aB.out.2.1⟩)
 ·skip
  have ab : (K == 1) = false := bF (by omega);have bb : (K == 2) = false := bF (by omega);have cb : (K == 3) = false := bF (by omega);have db : (K == 4) = false := bF (by omega);have eb : (K == 5) = true := bT (by omega);obtain ⟨y, hy, hNy, _⟩ := nC.k5 (hK.symm.trans hk);have oG : x.kids = [y] := by rw [hy]; rfl
  have l9 : m = 1 := by rw [hop.o.mlen, oG]; rfl
  have oL := LH (bN s x = seqP [bN s y, x]) (dp5 nC (hK.symm.trans hk) oG);have qF := LH (aO x = true) (by
   rw [zF]; simp [<- hK, hk])
  subst l9;obtain ⟨b, o, rfl⟩ := hop.kids.1.place (by rw [oG]; simp);obtain ⟨A2, n2, c2, B2, m2, d2, hrg, ax⟩ := hop.kids.1.kid (i := 0) (by rw [oG]; simp);have Ej : av x.kids 0 = y := by rw [oG]; rfl
  rw [Ej] at hrg ax;obtain ⟨Ky, bi⟩ := eX y.kind;rw [<- bi] at hrg;obtain ⟨D, hD⟩ := eX (bN s y);obtain ⟨VV, Dn⟩ := eX (aO y);obtain ⟨K8, aX⟩ := eX D.kind;rw [<- hD] at oL;have HY := LH (ak p w y A2 n2 c2 B2 m2 d2 /\ Ky = y.kind /\ uj s y /\ D = bN s y /\ VV = aO y) ⟨ax, bi, ih y (by rw [oG]; simp), hD, Dn⟩;have fU := LH (K8 = D.kind) aX;have yg := LH (NF D /\ az D + az x <= 1000000000000) ⟨by rw [hD]; exact NF.dp s hNy.val, by
   have h1 := BM (s := s) hNy.val;have h2 := fP x;rw [oG] at h2;simp only [aj] at h2;have h3 := qZ (a := az y) (b := 999999) (by have := fQ y; omega) (by omega);rw [hD]; omega⟩
  have aP := LH (((w.alloc (zC K A n c (some ⟨b, o, none⟩) 1 d)).alloc zR).rangeAt b (o + 0 * 3) (zV Ky A2 n2 c2 B2 m2 d2)) (iW hrg (aF (ai _ _) _));have hb2 := bK.out.cell (j := 2) rfl;clear hpb hd hop nC hcm ih hK hk hy hNy oG hrg ax Ej bi hD Dn aX;go_enter Tryz.func56, Tryz.ntmps56
  go_wp2_with (first
   |(refine aG rfl (.tmp 41) rfl b (o + 0 * 3) rfl Ky A2 B2 n2 c2 m2 d2 aP.out ?_)
   |((with_reducible refine (wh (p := p) HY.out.2.1 HY.out.2.2.1 (fun b hb => by have := HP.out b hb; simp; omega) (gM.out.below (aF (ai _ _) _)) (HY.out.1.below (aF (ai _ _) _)) D VV HY.out.2.2.2.1 HY.out.2.2.2.2).mono ?_); rintro e w5 ⟨A8, n8, c8, B8, m8, d8, rfl, h8, aK⟩; rw [<- fU.out]; have H5 := LH (ak (fun b => p b \/ w.heap.size + 2 <= b) w5 D A8 n8 c8 B8 m8 d8 /\ Below ((w.alloc (zC K A n c (some ⟨b, o, none⟩) 1 d)).alloc zR).heap.size ((w.alloc (zC K A n c (some ⟨b, o, none⟩) 1 d)).alloc zR) w5) ⟨h8.mono (fun b hb => by simpa using hb), aK⟩; clear h8 aK)
   |(refine wB rfl 25 (.tmp 6) (.tmp 45) rfl w5.heap.size 0 rfl (zV K8 A8 n8 c8 B8 m8 d8) rfl (ae.new' w5 zL _ 25 rfl) 3 au ?_; intro w6 ag; have aJ := LH (ae w6 w5.heap.size (zV K8 A8 n8 c8 B8 m8 d8) 25 /\ Bw w5 w6) (dC ag); clear ag; have pE := aS aJ.out.1; have H6 := LH (Below ((w.alloc (zC K A n c (some ⟨b, o, none⟩) 1 d)).alloc zR).heap.size ((w.alloc (zC K A n c (some ⟨b, o, none⟩) 1 d)).alloc zR) w6) (ah H5.out.2 aJ.out.2); have WT := aS (bK.out.below H6.out (by simp; omega)))
   |(refine aG rfl (.tmp 6) rfl w5.heap.size (0) rfl K8 A8 B8 n8 c8 m8 d8 pE ?_)
   |(refine aG rfl (.tmp 2) rfl w.heap.size (0) rfl K A (some ⟨b, o, none⟩) n c 1 d WT ?_)
   |((with_reducible refine (FL (p := fun z9 => (p z9 \/ w.heap.size + 2 <= z9) /\ z9 < (w6.alloc (.cells #[.int .i64 K8, .slice A8 n8 c8, .slice B8 m8 d8, .int .i64 K, .slice A n c, .slice (some ⟨b, o, none⟩) 1 d] 25)).heap.size) (w6.alloc (.cells #[.int .i64 K8, .slice A8 n8 c8, .slice B8 m8 d8, .int .i64 K, .slice A n c, .slice (some ⟨b, o, none⟩) 1 d] 25)) (fun b hb => hb.2) [D, x] (pt w6.heap.size) 2 2 rfl (Nat.le_refl _) (by omega) (fun z hz => by
        rcases List.mem_cons.1 hz with rfl | hz
        ·exact yg.out.1
        ·rw [show z = x by simpa using hz]; exact HX.out.2.2.1) (by have := yg.out.2; simp only [aj]; omega) (by
        have hB : ae (w6.alloc (.cells #[.int .i64 K8, .slice A8 n8 c8, .slice B8 m8 d8, .int .i64 K, .slice A n c, .slice (some ⟨b, o, none⟩) 1 d] 25)) w6.heap.size [.int .i64 D.kind, .slice A8 n8 c8, .slice B8 m8 d8, .int .i64 x.kind, .slice A n c, .slice (some ⟨b, o, none⟩) 1 d] 25 := by rw [<- fU.out, <- HX.out.2.1]; exact ae.at w6 [.int .i64 K8, .slice A8 n8 c8, .slice B8 m8 d8, .int .i64 K, .slice A n c, .slice (some ⟨b, o, none⟩) 1 d] _ 25 _ rfl rfl
        have h1 := H5.out.1.below (ah aJ.out.2 (ai w6 (.cells #[.int .i64 K8, .slice A8 n8 c8, .slice B8 m8 d8, .int .i64 K, .slice A n c, .slice (some ⟨b, o, none⟩) 1 d] 25)));have h2 := (HX.out.1.below (ah (ah (aF (ai _ _) _) H6.out) (ai w6 (.cells #[.int .i64 K8, .slice A8 n8 c8, .slice B8 m8 d8, .int .i64 K, .slice A n c, .slice (some ⟨b, o, none⟩) 1 d] 25)))).mono (q := fun b => p b \/ w.heap.size + 2 <= b) (fun b hb => .inl hb);exact aM.e ((aM.one (h1.and h1.o.toP).q).app (aM.one (h2.and h2.o.toP).q)) fun j v hv => by rw [Nat.zero_add]; rw [List.cons_append, List.cons_append, List.cons_append, List.nil_append] at hv; exact hB.cell hv)).mono ?_); rintro e w8 hp; obtain ⟨pq, n10, c10, pG, pK, pW, rfl, h10, qE⟩ := dV hp; rw [<- oL.out] at h10 ⊢; obtain ⟨K10, JX⟩ := eX ((bN s x).kind); rw [<- JX]; have H8 := LH (ak (fun b => p b \/ w.heap.size + 2 <= b) w8 (bN s x) pq n10 c10 pG pK pW /\ Below ((w.alloc (zC K A n c (some ⟨b, o, none⟩) 1 d)).alloc zR).heap.size ((w.alloc (zC K A n c (some ⟨b, o, none⟩) 1 d)).alloc zR) w8 /\ K10 = (bN s x).kind) ⟨h10.mono (fun b hb => by
        rcases hb with hb | hb
        ·exact hb.1
        ·exact .inr (by have h1 := H6.out.size; simp at hb h1; omega)), ah (aF H6.out _) qE, JX⟩; clear hp h10 qE JX)
   |(refine wB rfl 25 (.tmp 4) (.tmp 50) rfl (w.heap.size + 1) 0 rfl (zV K10 pq n10 c10 pG pK pW) rfl (HZ.out.below H8.out.2.1 (by simp)) 3 au ?_; intro w9 ag; have aB := LH (ae w9 (w.heap.size + 1) (zV K10 pq n10 c10 pG pK pW) 25 /\ Bw w w9 /\ ak (fun b => p b \/ w.heap.size + 2 <= b) w9 (bN s x) pq n10 c10 pG pK pW) ⟨ag.1, ag.below (ah (aF (ai _ _) _) H8.out.2.1) (by omega), il H8.out.1 ag rT.out⟩; clear ag))
  exact gX rfl (w.heap.size + 1) rfl (C := (zV K10 pq n10 c10 pG pK pW)) (T := 25) aB.out.1 _ Tryz.underlying25 rfl au rfl (.bool true) rfl (by
   rw [qF.out, H8.out.2.2]; exact ⟨_, _, _, _, _, _, rfl, aB.out.2.2.mono (fun b hb => by rcases hb with h | h; exact .inl h; exact .inr (by omega)), aB.out.2.1⟩)
theorem KW {s : Int} : ∀ (z : Nat) (x : Rx), SizeOf.sizeOf x <= z -> NF x -> az x <= 1000000 -> uj s x
 |0, x, hz, hv, hc => by cases x; simp at hz
 |z + 1, x, hz, hv, hc => QW x hv hc fun y hy => KW z y (by have := jZ hy; omega) (hv.kids y hy) (by have h1 := fP x; have h2 := xI hy; omega)
def qW (s : Int) (r : Rx) : Rx := if aC r = true then bN s (normR false r) else .mk 0 [] []
theorem VR (s : Int) (r : Rx) : NF (qW s r) := by
 unfold qW
 split
 ·rename_i h; exact NF.dp s (NF.normR false h).val
 ·exact NF.none
theorem Uc {p : Nat -> Prop} {s : Int} {w : World} {x : Rx} {K : Int} {A B : Option Addr} {n c m d : Nat} (hK : K = x.kind) (hN : NF x) (hc : az x <= 1000000) (hp : ∀ b, p b -> b < w.heap.size) (hd : DB w) (hx : ak p w x A n c B m d) (y : Rx) (V : Bool) (hy : y = bN s x) (hV : V = aO x) : Calls Tryz.prog 56 #[.agg #[.int .i64 K, .slice A n c, .slice B m d], .int .i64 s] w (D2 p w y V) := wh hK (KW _ x (Nat.le_refl _) hN hc) hp hd hx y V hy hV
theorem KN {w : World} (hd : DB w) (s : Int) (r : Rx) (hc : az r <= 1000000) {A B : Option Addr} {n c m d : Nat} (h : aI w r A n c B m d) : Calls Tryz.prog 24 #[.agg #[.int .i64 r.kind, .slice A n c, .slice B m d], .int .i64 s] w (dB (fun _ => False) w (qW s r)) := by
 obtain ⟨K, hK⟩ := eX r.kind;have HX := LH (aI w r A n c B m d /\ K = r.kind /\ az r <= 1000000) ⟨h, hK, hc⟩;have gM := Lh hd;have bK := LH (ae ((w.alloc (zC K A n c B m d)).alloc zR) w.heap.size (zV K A n c B m d) 25) ((ae.at w (zV K A n c B m d) _ 25 _ rfl rfl).alloc _);have HZ := LH (ae ((w.alloc (zC K A n c B m d)).alloc zR) (w.heap.size + 1) zL 25) (ae.at (w.alloc (zC K A n c B m d)) zL _ 25 _ rfl (by simp));have bO := aS bK.out;rw [<- hK]
 by_cases hv : aC r = true
 ·have HV := LH (true = aC r) hv.symm;have HR := LH (qW s r = bN s (normR false r)) (by unfold qW; rw [if_pos hv]);obtain ⟨X, hX⟩ := eX (normR false r);obtain ⟨VV, Dn⟩ := eX (aO X);obtain ⟨K2, hK2⟩ := eX X.kind;obtain ⟨D, hD⟩ := eX (qW s r);have hcX : az X <= 1000000 := by have h1 := zJ false hv; rw [hX]; omega
  have HN := LH (X = normR false r /\ NF X /\ az X <= 1000000 /\ VV = aO X /\ K2 = X.kind /\ D = bN s X) ⟨hX, by rw [hX]; exact NF.normR false hv, hcX, Dn, hK2, by rw [hD, HR.out, hX]⟩;obtain ⟨K8, aX⟩ := eX D.kind;have HD := LH (D = qW s r /\ NF D /\ az D <= 1000000000000 /\ K8 = D.kind) ⟨hD, by rw [hD]; exact VR s r, by
   have h1 := BM (s := s) HN.out.2.1.val;have h2 := qZ (a := az X) (b := 1000000) (by have := fQ X; omega) hcX;rw [HN.out.2.2.2.2.2]; omega, aX⟩
  rw [<- hD];clear h hK hc hd hv hX Dn hK2 hD hcX aX;go_enter Tryz.func24, Tryz.ntmps24
  go_wp2_with (first
   |(refine aG rfl (.tmp 2) rfl w.heap.size (0) rfl K A B n c m d bO ?_)
   |((with_reducible refine (qQ HX.out.2.1 (HX.out.1.below (aF (ai _ _) _)) true HV.out).mono ?_); rintro e w1 hp; obtain ⟨rfl, hb⟩ := aV hp; have H1 := LH (Bw w w1) (ah (aF (ai _ _) _) hb); have iY := Lh (HZ.out.below hb (by simp)); have nI := aS (bK.out.below hb (by simp; omega)); clear hp hb)
   |(refine aG rfl (.tmp 2) rfl w.heap.size (0) rfl K A B n c m d nI ?_)
   |((with_reducible refine (Jv (p := fun b => b < w.heap.size) (fun b hb => by have := H1.out.size; omega) (gM.out.below H1.out) r HX.out.2.1 HV.out.symm (by have := HX.out.2.2; omega) (HX.out.1.toP.below H1.out)).mono ?_); rintro e w2 hp; obtain ⟨A2, n2, c2, B2, m2, d2, rfl, h2, hb2⟩ := dV hp; rw [<- HN.out.1] at h2 ⊢; rw [<- HN.out.2.2.2.2.1]; have H2 := LH (aI w2 X A2 n2 c2 B2 m2 d2 /\ Bw w1 w2) ⟨h2.o, hb2⟩; clear hp h2 hb2)
   |((with_reducible refine (Uc (p := fun b => b < w2.heap.size) HN.out.2.2.2.2.1 HN.out.2.1 HN.out.2.2.1 (fun b hb => hb) (gM.out.below (ah H1.out H2.out.2)) H2.out.1.toP D VV HN.out.2.2.2.2.2 HN.out.2.2.2.1).mono ?_); rintro e w3 ⟨A8, n8, c8, B8, m8, d8, rfl, h8, aK⟩; rw [<- HD.out.2.2.2]; have H3 := LH (aI w3 D A8 n8 c8 B8 m8 d8 /\ Bw w1 w3) ⟨h8.o, ah H2.out.2 aK⟩; clear h8 aK)
   |(refine wB rfl 25 (.tmp 5) (.tmp 16) rfl w3.heap.size 0 rfl (zV K8 A8 n8 c8 B8 m8 d8) rfl (ae.new' w3 zL _ 25 rfl) 3 au ?_; intro w4 ag; have aA := LH (ae w4 w3.heap.size (zV K8 A8 n8 c8 B8 m8 d8) 25 /\ Bw w3 w4) (dC ag); clear ag; have jb := aS aA.out.1; have H4 := LH (Bw w1 w4) (ah H3.out.2 aA.out.2))
   |(refine aG rfl (.tmp 5) rfl w3.heap.size (0) rfl K8 A8 B8 n8 c8 m8 d8 jb ?_)
   |((with_reducible refine (SI HD.out.2.2.2 HD.out.2.1.val HD.out.2.2.1 (H3.out.1.below aA.out.2)).mono ?_); rintro e w8 hp; obtain ⟨A9, n9, c9, B9, m9, d9, rfl, h9, fo⟩ := dV hp; rw [<- HD.out.2.2.2]; have H8 := LH (ak (fun b => w4.heap.size <= b) w8 D A9 n9 c9 B9 m9 d9 /\ Bw w1 w8) ⟨h9.mono (fun b hb => hb.elim (fun h => h.elim) id), ah H4.out fo⟩; clear hp h9 fo)
   |(refine wB rfl 25 (.tmp 4) (.tmp 19) rfl (w.heap.size + 1) 0 rfl (zV K8 A9 n9 c9 B9 m9 d9) rfl (iY.out.below H8.out.2 iY.out.lt) 3 au ?_; intro w9 ag; have aB := LH (ae w9 (w.heap.size + 1) (zV K8 A9 n9 c9 B9 m9 d9) 25 /\ Bw w w9 /\ ak (fun b => w4.heap.size <= b) w9 D A9 n9 c9 B9 m9 d9) ⟨ag.1, ag.below (ah H1.out H8.out.2) (by omega), il H8.out.1 ag (fun b hb => by have h1 := iY.out.lt; have h2 := H4.out.size; omega)⟩; clear ag))
  exact cK rfl (w.heap.size + 1) rfl (C := (zV K8 A9 n9 c9 B9 m9 d9)) (T := 25) aB.out.1 _ Tryz.underlying25 rfl au rfl (by
   rw [HD.out.2.2.2];exact ⟨_, _, _, _, _, _, rfl, aB.out.2.2.mono (fun b hb => .inr (by have h1 := H1.out.size; have h2 := H4.out.size; omega)), aB.out.2.1⟩)
 ·have HV := LH (false = aC r) (by simpa using hv);have HR := LH (qW s r = .mk 0 [] []) (by unfold qW; rw [if_neg hv]);clear h hK hc hd hv;go_enter Tryz.func24, Tryz.ntmps24
  go_wp2_with (first
   |(refine aG rfl (.tmp 2) rfl w.heap.size (0) rfl K A B n c m d bO ?_)
   |((with_reducible refine (qQ HX.out.2.1 (HX.out.1.below (aF (ai _ _) _)) false HV.out).mono ?_); rintro e w1 hp; obtain ⟨rfl, hb⟩ := aV hp; have H1 := LH (Bw w w1) (ah (aF (ai _ _) _) hb); have iY := Lh (HZ.out.below hb (by simp)); have nI := aS (bK.out.below hb (by simp; omega)); clear hp hb)
   |(refine wB rfl 25 (.tmp 4) (.tmp 10) rfl (w.heap.size + 1) 0 rfl zL rfl iY.out 3 au ?_; intro w9 ag; have aB := LH (ae w9 (w.heap.size + 1) zL 25 /\ Bw w w9 ) ⟨ag.1, ag.below H1.out (by omega)⟩; clear ag))
  exact cK rfl (w.heap.size + 1) rfl (C := zL) (T := 25) aB.out.1 _ Tryz.underlying25 rfl au rfl (by rw [HR.out]; exact lI (ak.flat _ w9 (by constructor <;> decide)) (fun b hb => .inl hb) aB.out.2)
def bU (pb : Nat) (v : Value) (A : Option Addr) (n c : Nat) (w : World) (fl : Bool) (t : Alp.B) (v1 : Value) (w1 : World) : Prop := gH pb v1 A n c fl t w1 /\ Kp pb v w w1 /\ Nw w v v1
theorem bU.post {pb : Nat} {v v1 : Value} {A : Option Addr} {n c : Nat} {w w1 : World} {fl : Bool} {t : Alp.B} (h : bU pb v A n c w fl t v1 w1) : aW pb v A n c fl t w (.returned (.tuple #[])) w1 := ⟨rfl, v1, h.1, h.2.1, h.2.2⟩
theorem bU.step {pb : Nat} {v v1 : Value} {A : Option Addr} {n c : Nat} {w w1 w2 : World} {fl fl2 : Bool} {t t2 : Alp.B} {e : Ending} (h : bU pb v A n c w fl t v1 w1) (hp : aW pb v1 A n c fl2 t2 w1 e w2) : e = .returned (.tuple #[]) /\ ∃ v2, bU pb v A n c w fl2 t2 v2 w2 := by
 obtain ⟨he, v2, h1, h2, h3⟩ := hp;exact ⟨he, v2, h1, h.2.1.tr h.2.2 h2, h.2.2.tr h.2.1.size h3⟩
theorem bU.below {pb : Nat} {v v1 : Value} {A : Option Addr} {n c : Nat} {w w1 w2 : World} {fl : Bool} {t : Alp.B} (h : bU pb v A n c w fl t v1 w1) (hb : Bw w1 w2) : bU pb v A n c w fl t v1 w2 := ⟨h.1.below hb, h.2.1.tr h.2.2 (Kp.of_below hb), h.2.2⟩
theorem bU.refl {pb : Nat} {v : Value} {A : Option Addr} {n c : Nat} {w : World} {fl : Bool} {t : Alp.B} (h : gH pb v A n c fl t w) : bU pb v A n c w fl t v w := ⟨h, Kp.refl _ _ _, Nw.refl _ _⟩
theorem bU.lt {pb : Nat} {v v1 : Value} {A : Option Addr} {n c : Nat} {w w1 : World} {fl : Bool} {t : Alp.B} (h : bU pb v A n c w fl t v1 w1) : pb < w1.heap.size /\ ∀ g, v1.ownBlock = some g -> pb < g /\ g < w1.heap.size := h.1.lt
theorem Gp {l : List Int} {n : Nat} (h : n < l.length) : (iv l)[n]? = some (.int .i64 (l.getD n 0)) := by unfold iv; simp [List.getD, h]
theorem Gd {L : List Lt} {s : List Int} {i : Nat} (h : i < s.length) (f : Bool) : dY L f (s.drop i) = (if f then [] else [124]) ++ gp L (s.getD i 0) ++ dY L false (s.drop (i + 1)) := by
 rw [List.drop_eq_getElem_cons h, dY, List.getD_eq_getElem?_getD, List.getElem?_eq_getElem h]
 rfl
theorem Gx {L : List Lt} {s : List Int} {i : Nat} (h : i < s.length) : (s.drop i).any (dM L) = (dM L (s.getD i 0) || (s.drop (i + 1)).any (dM L)) := by
 rw [List.drop_eq_getElem_cons h, List.any_cons, List.getD_eq_getElem?_getD, List.getElem?_eq_getElem h]
 rfl
theorem Vm (w : World) {pb : Nat} {v : Value} {A : Option Addr} {n c : Nat} {fl : Bool} {t : Alp.B} (h : gH pb v A n c fl t w) (L : List Lt) (hL : jr w pb A n c L) (s : List Int) (b o ns cs : Nat) (kC : ns = s.length) (hc : ns <= cs) (hm : cs <= 9223372036854775807) (hcs : ∀ k v, (iv s)[k]? = some v -> w.cell? ⟨b, o + k, none⟩ = some v) (hb1 : b ≠ pb) (hb2 : some b ≠ v.ownBlock) (kN : ∀ x ∈ s, 0 <= x) (h1 : s.length = 1) (ht : t.length + (gp L (s.getD 0 0)).length <= 1000000000) : Calls Tryz.prog 103 #[.pointer (pt pb), .slice (some ⟨b, o, none⟩) ns cs] w (aW pb v A n c (fl || dM L (s.getD 0 0)) (t ++ gp L (s.getD 0 0)) w) := by
 obtain ⟨x, rfl⟩ : ∃ x, s = [x] := by
  match s, h1 with
  |[x], _ => exact ⟨x, rfl⟩
 have h3 := hcs 0 (.int .i64 x) rfl;rw [Nat.add_zero] at h3;have HS := LH (Cz 134 #[.pointer (pt pb), .int .i64 x] w (aW pb v A n c (fl || dM L (([x] : List Int).getD 0 0)) (t ++ gp L (([x] : List Int).getD 0 0)) w)) (BP w h L hL x (kN x (by simp)) (by omega));have yX : ns = 1 := by rw [kC]; rfl
 subst yX;clear h hL kC hcs kN h1 ht hb1 hb2;go_enter Tryz.func103, Tryz.ntmps103
 go_wp2_with ((with_reducible refine HS.out.mono ?_); rintro e x4 hp; have H4 := Lh hp; obtain ⟨rfl, _⟩ := oW hp; clear hp)
 go_end0;exact H4.out
theorem QC (w : World) {pb : Nat} {v : Value} {A : Option Addr} {n c : Nat} {fl : Bool} {t : Alp.B} (h : gH pb v A n c fl t w) (L : List Lt) (hL : jr w pb A n c L) (s : List Int) (b o ns cs : Nat) (kC : ns = s.length) (hc : ns <= cs) (hm : cs <= 9223372036854775807) (hcs : ∀ k v, (iv s)[k]? = some v -> w.cell? ⟨b, o + k, none⟩ = some v) (hb1 : b ≠ pb) (hb2 : some b ≠ v.ownBlock) (kN : ∀ x ∈ s, 0 <= x) (h1 : ns ≠ 1) (h2 : ns = n) (k : Nat) (hk : ns = k + 1) (h3 : s.getD k 0 = (k : Int)) (ht : t.length <= 1000000000) : Calls Tryz.prog 103 #[.pointer (pt pb), .slice (some ⟨b, o, none⟩) ns cs] w (aW pb v A n c fl (t ++ [46]) w) := by
 have hc3 := hcs k (.int .i64 (k : Int)) (by rw [<- h3]; exact Gp (by omega));have HS := LH (Cz 107 #[.pointer (pt pb), .int .u8 46] w (aW pb v A n c fl (t ++ [46]) w)) (mH w h 46 ht);have hb0 : w.cell? ⟨pb, 0, none⟩ = some (.slice A n c) := h.box.cell (j := 0) rfl;subst h2;obtain ⟨M, hM⟩ : ∃ M : Nat, M = ns := ⟨_, rfl⟩;have e1 : ((ns : Int) == 1) = false := bF (by omega);have e4 : (ns : Int) - 1 = (k : Int) := by omega
 have eU : k < ns := by omega
 have pM : ns <= 9223372036854775807 := by omega
 clear h hL kC hcs kN h1 ht hb1 hb2 hk h3 hM;go_enter Tryz.func103, Tryz.ntmps103
 go_wp2_with ((with_reducible refine HS.out.mono ?_); rintro e x4 hp; have H4 := Lh hp; obtain ⟨rfl, _⟩ := oW hp; clear hp)
 go_end0;exact H4.out
theorem VI (w : World) {pb : Nat} {v : Value} {A : Option Addr} {n c : Nat} {fl : Bool} {t : Alp.B} (h : gH pb v A n c fl t w) (L : List Lt) (hL : jr w pb A n c L) (s : List Int) (b o ns cs : Nat) (kC : ns = s.length) (hc : ns <= cs) (hm : cs <= 9223372036854775807) (hcs : ∀ k v, (iv s)[k]? = some v -> w.cell? ⟨b, o + k, none⟩ = some v) (hb1 : b ≠ pb) (hb2 : some b ≠ v.ownBlock) (kN : ∀ x ∈ s, 0 <= x) (h1 : ns ≠ 1) (h2 : ns ≠ n) (ht : t.length + (([40] ++ dY L true s ++ [41] : Alp.B)).length <= 1000000000) : Calls Tryz.prog 103 #[.pointer (pt pb), .slice (some ⟨b, o, none⟩) ns cs] w (aW pb v A n c (fl || s.any (dM L)) (t ++ ([40] ++ dY L true s ++ [41])) w) := by
 simp only [List.length_append, List.length_cons, List.length_nil] at ht;have iK := LH (∀ v1 w1, ∀ {f : Bool} {T : Alp.B}, bU pb v A n c w f T v1 w1 -> jr w1 pb A n c L) fun v1 w1 f T hp => hL.kp hp.2.1 h.lt
 have HS := LH (Cz 107 #[.pointer (pt pb), .int .u8 40] w (aW pb v A n c fl (t ++ [40]) w)) (mH w h 40 (by omega));have jo := LH (∀ e w2, aW pb v A n c fl (t ++ [40]) w e w2 -> e = .returned (.tuple #[]) /\ ∃ v2, bU pb v A n c w fl (t ++ [40]) v2 w2 /\ (t ++ [40]) ++ dY L (decide (0 = 0)) (s.drop 0) = t ++ [40] ++ dY L true s /\ (fl || (s.drop 0).any (dM L)) = (fl || s.any (dM L))) fun e w2 hp => by
  obtain ⟨he, v2, h2⟩ := (bU.refl h).step hp;exact ⟨he, v2, h2, by simp, by simp⟩
 have HCS := LH (∀ v1 w1, ∀ {f : Bool} {T : Alp.B}, bU pb v A n c w f T v1 w1 -> ∀ k v, (iv s)[k]? = some v -> w1.cell? ⟨b, o + k, none⟩ = some v) fun v1 w1 f T hp k u hu => (hp.2.1.cell (World.block_lt_of_cell? w _ (hcs k u hu)) hb1 hb2).trans (hcs k u hu)
 have HX := LH (ns = s.length /\ (∀ x ∈ s, 0 <= x) /\ t.length + (1 + (dY L true s).length + 1) <= 1000000000) ⟨kC, kN, by omega⟩;have hb0 : w.cell? ⟨pb, 0, none⟩ = some (.slice A n c) := h.box.cell (j := 0) rfl;have e1 : ((ns : Int) == 1) = false := bF (by omega);have pM : ns <= 9223372036854775807 := by omega
 have e4 : ((ns : Int) == (n : Int)) = false := bF (by omega);clear h hL kC hcs kN h1 ht hb1 hb2 h2;go_enter Tryz.func103, Tryz.ntmps103
 go_wp2_with ((with_reducible refine HS.out.mono ?_); rintro e w2 hp; obtain ⟨rfl, v2, h2⟩ := jo.out e w2 hp; have H2 := Lh h2; clear hp h2)
 go_loopg [13] ns (fun gq pX wr => ∃ (i : Nat) (f : Bool) (T : Alp.B) (v1 : Value), i + gq = ns /\ pX = .int .i64 (i : Int) /\ Hid (bU pb v A n c w f T v1 wr /\ T ++ dY L (decide (i = 0)) (s.drop i) = t ++ [40] ++ dY L true s /\ (f || (s.drop i).any (dM L)) = (fl || s.any (dM L))))
 case atStart => exact ⟨0, fl, t ++ [40], v2, by omega, rfl, H2⟩
 case round =>
  obtain ⟨i, f, T, v1, hi, rfl, HI⟩ := hrel;have hTl : T.length <= 999999999 := by have h1 := congrArg List.length HI.out.2.1; have h2 := HX.out.2.2; simp at h1; omega
  by_cases hlt : i < ns
  ·obtain ⟨gg, rfl⟩ : ∃ g, gk = g + 1 := ⟨gk - 1, by omega⟩;obtain ⟨x, hx⟩ := eX (s.getD i 0);have aH : i < s.length := by rw [<- HX.out.1]; exact hlt
   have bS : wr.cell? ⟨b, o + i, none⟩ = some (.int .i64 x) := HCS.out v1 wr HI.out.1 i _ (by rw [hx]; exact Gp aH);have hx0 : 0 <= x := HX.out.2.1 x (by rw [hx, List.getD_eq_getElem?_getD, List.getElem?_eq_getElem aH]; exact List.getElem_mem aH)
   by_cases aZ : i = 0
   ·have e1 : decide (0 < i) = false := dF (by omega);have bX := LH (dY L (decide (i = 0)) (s.drop i) = gp L x ++ dY L false (s.drop (i + 1)) /\ decide (i + 1 = 0) = false) ⟨by rw [Gd aH, dT (by omega), hx]; simp, by simp⟩;have oH := LH (Cz 134 #[.pointer (pt pb), .int .i64 x] wr (aW pb v1 A n c (f || dM L x) (T ++ gp L x) wr)) (BP wr HI.out.1.1 L (iK.out v1 wr HI.out.1) x hx0 (by omega));have kU := LH (∀ e w2, aW pb v1 A n c (f || dM L x) (T ++ gp L x) wr e w2 -> e = .returned (.tuple #[]) /\ ∃ v2, bU pb v A n c w (f || dM L x) (T ++ gp L x) v2 w2 /\ (T ++ gp L x) ++ dY L (decide ((i + 1) = 0)) (s.drop (i + 1)) = t ++ [40] ++ dY L true s /\ ((f || dM L x) || (s.drop (i + 1)).any (dM L)) = (fl || s.any (dM L))) fun e w2 hp => by
     obtain ⟨he, v2, h2⟩ := HI.out.1.step hp;refine ⟨he, v2, h2, ?_, ?_⟩
     ·rw [bX.out.2, <- HI.out.2.1, bX.out.1]; simp
     ·rw [<- HI.out.2.2, Gx aH, hx, Bool.or_assoc]
    clear aZ aH hx hx0
    go_wp2_with ((with_reducible refine oH.out.mono ?_); rintro e w2 hp; obtain ⟨rfl, v2, h2⟩ := kU.out e w2 hp; have H2 := Lh h2; clear hp h2)
    go_roundg gg
    case rel => exact ⟨i + 1, f || dM L x, T ++ gp L x, v2, by omega, by go_num, H2⟩
    case measure => omega
   ·have e1 : decide (0 < i) = true := dT (by omega);have bX := LH (dY L (decide (i = 0)) (s.drop i) = [124] ++ gp L x ++ dY L false (s.drop (i + 1)) /\ decide (i + 1 = 0) = false) ⟨by rw [Gd aH, dF (by omega), hx]; simp, by simp⟩;have oH := LH (Cz 107 #[.pointer (pt pb), .int .u8 124] wr (aW pb v1 A n c f (T ++ [124]) wr)) (mH wr HI.out.1.1 124 (by omega));have ES := LH (∀ e w2, aW pb v1 A n c f (T ++ [124]) wr e w2 -> e = .returned (.tuple #[]) /\ ∃ v2, bU pb v A n c w f (T ++ [124]) v2 w2 /\ Cz 134 #[.pointer (pt pb), .int .i64 x] w2 (aW pb v2 A n c (f || dM L x) (T ++ [124] ++ gp L x) w2)) fun e w2 hp => by
     obtain ⟨he, v2, h2⟩ := HI.out.1.step hp;exact ⟨he, v2, h2, BP w2 h2.1 L (iK.out v2 w2 h2) x hx0 (by simp; omega)⟩
    have kU := LH (∀ v2 w2 e w3, bU pb v A n c w f (T ++ [124]) v2 w2 -> aW pb v2 A n c (f || dM L x) (T ++ [124] ++ gp L x) w2 e w3 -> e = .returned (.tuple #[]) /\ ∃ v3, bU pb v A n c w (f || dM L x) (T ++ [124] ++ gp L x) v3 w3 /\ (T ++ [124] ++ gp L x) ++ dY L (decide ((i + 1) = 0)) (s.drop (i + 1)) = t ++ [40] ++ dY L true s /\ ((f || dM L x) || (s.drop (i + 1)).any (dM L)) = (fl || s.any (dM L))) fun v2 w2 e w3 h2 hp => by
     obtain ⟨he, v3, h3⟩ := h2.step hp;refine ⟨he, v3, h3, ?_, ?_⟩
     ·rw [bX.out.2, <- HI.out.2.1, bX.out.1]; simp
     ·rw [<- HI.out.2.2, Gx aH, hx, Bool.or_assoc]
    clear aZ aH hx hx0
    go_wp2_with (first
     |((with_reducible refine oH.out.mono ?_); rintro e w2 hp; obtain ⟨rfl, v2, h2, hc2⟩ := ES.out e w2 hp; have H2 := Lh h2; have mh := Lh hc2; clear hp h2 hc2)
     |((with_reducible refine mh.out.mono ?_); rintro e w3 hp; obtain ⟨rfl, v3, h3⟩ := kU.out v2 w2 e w3 H2.out hp; have H3 := Lh h3; clear hp h3))
    go_roundg gg
    case rel => exact ⟨i + 1, f || dM L x, T ++ [124] ++ gp L x, v3, by omega, by go_num, H3⟩
    case measure => omega
  ·obtain rfl : ns = i := by omega
   have HS9 := LH (Cz 107 #[.pointer (pt pb), .int .u8 41] wr (aW pb v1 A n c f (T ++ [41]) wr)) (mH wr HI.out.1.1 41 (by omega));have HF9 := LH (∀ e w2, aW pb v1 A n c f (T ++ [41]) wr e w2 -> aW pb v A n c (fl || s.any (dM L)) (t ++ ([40] ++ dY L true s ++ [41])) w e w2) fun e w2 hp => by
    obtain ⟨rfl, v2, h2⟩ := HI.out.1.step hp;have h3 := HI.out.2.1;have h4 := HI.out.2.2;rw [HX.out.1, List.drop_length] at h3 h4;rw [dY, List.append_nil] at h3;rw [List.any_nil, Bool.or_false] at h4;rw [h3, h4] at h2;have h5 := h2.post;rw [show t ++ ([40] ++ dY L true s ++ [41]) = t ++ [40] ++ dY L true s ++ [41] by simp];exact h5
   go_wp2_with ((with_reducible refine HS9.out.mono ?_); rintro e w2 hp; have H9 := Lh (HF9.out e w2 hp); obtain ⟨rfl, _⟩ := oW hp; clear hp)
   go_end0;exact H9.out
theorem WK (w : World) {pb : Nat} {v : Value} {A : Option Addr} {n c : Nat} {fl : Bool} {t : Alp.B} (h : gH pb v A n c fl t w) (L : List Lt) (hL : jr w pb A n c L) (s : List Int) (b o ns cs : Nat) (kC : ns = s.length) (hc : ns <= cs) (hm : cs <= 9223372036854775807) (hcs : ∀ k v, (iv s)[k]? = some v -> w.cell? ⟨b, o + k, none⟩ = some v) (hb1 : b ≠ pb) (hb2 : some b ≠ v.ownBlock) (kN : ∀ x ∈ s, 0 <= x) (h1 : ns ≠ 1) (h2 : ns = n) (k : Nat) (hk : ns = k + 1) (y : Int) (hy : y = s.getD k 0) (h3 : y ≠ (k : Int)) (ht : t.length + (([40] ++ dY L true s ++ [41] : Alp.B)).length <= 1000000000) : Calls Tryz.prog 103 #[.pointer (pt pb), .slice (some ⟨b, o, none⟩) ns cs] w (aW pb v A n c (fl || s.any (dM L)) (t ++ ([40] ++ dY L true s ++ [41])) w) := by
 simp only [List.length_append, List.length_cons, List.length_nil] at ht;have iK := LH (∀ v1 w1, ∀ {f : Bool} {T : Alp.B}, bU pb v A n c w f T v1 w1 -> jr w1 pb A n c L) fun v1 w1 f T hp => hL.kp hp.2.1 h.lt
 have HS := LH (Cz 107 #[.pointer (pt pb), .int .u8 40] w (aW pb v A n c fl (t ++ [40]) w)) (mH w h 40 (by omega));have jo := LH (∀ e w2, aW pb v A n c fl (t ++ [40]) w e w2 -> e = .returned (.tuple #[]) /\ ∃ v2, bU pb v A n c w fl (t ++ [40]) v2 w2 /\ (t ++ [40]) ++ dY L (decide (0 = 0)) (s.drop 0) = t ++ [40] ++ dY L true s /\ (fl || (s.drop 0).any (dM L)) = (fl || s.any (dM L))) fun e w2 hp => by
  obtain ⟨he, v2, h2⟩ := (bU.refl h).step hp;exact ⟨he, v2, h2, by simp, by simp⟩
 have HCS := LH (∀ v1 w1, ∀ {f : Bool} {T : Alp.B}, bU pb v A n c w f T v1 w1 -> ∀ k v, (iv s)[k]? = some v -> w1.cell? ⟨b, o + k, none⟩ = some v) fun v1 w1 f T hp k u hu => (hp.2.1.cell (World.block_lt_of_cell? w _ (hcs k u hu)) hb1 hb2).trans (hcs k u hu)
 have HX := LH (ns = s.length /\ (∀ x ∈ s, 0 <= x) /\ t.length + (1 + (dY L true s).length + 1) <= 1000000000) ⟨kC, kN, by omega⟩;have hb0 : w.cell? ⟨pb, 0, none⟩ = some (.slice A n c) := h.box.cell (j := 0) rfl;have e1 : ((ns : Int) == 1) = false := bF (by omega);have pM : ns <= 9223372036854775807 := by omega
 have hc3 := hcs k (.int .i64 y) (by rw [hy]; exact Gp (by omega));have e4 : (ns : Int) - 1 = (k : Int) := by omega
 have e5 : (y == (k : Int)) = false := bF h3;have eU : k < ns := by omega
 have e7 : ((ns : Int) == (n : Int)) = true := bT (by omega);clear h hL kC hcs kN h1 ht hb1 hb2 hk hy h3 h2;go_enter Tryz.func103, Tryz.ntmps103
 go_wp2_with ((with_reducible refine HS.out.mono ?_); rintro e w2 hp; obtain ⟨rfl, v2, h2⟩ := jo.out e w2 hp; have H2 := Lh h2; clear hp h2)
 go_loopg [13] ns (fun gq pX wr => ∃ (i : Nat) (f : Bool) (T : Alp.B) (v1 : Value), i + gq = ns /\ pX = .int .i64 (i : Int) /\ Hid (bU pb v A n c w f T v1 wr /\ T ++ dY L (decide (i = 0)) (s.drop i) = t ++ [40] ++ dY L true s /\ (f || (s.drop i).any (dM L)) = (fl || s.any (dM L))))
 case atStart => exact ⟨0, fl, t ++ [40], v2, by omega, rfl, H2⟩
 case round =>
  obtain ⟨i, f, T, v1, hi, rfl, HI⟩ := hrel;have hTl : T.length <= 999999999 := by have h1 := congrArg List.length HI.out.2.1; have h2 := HX.out.2.2; simp at h1; omega
  by_cases hlt : i < ns
  ·obtain ⟨gg, rfl⟩ : ∃ g, gk = g + 1 := ⟨gk - 1, by omega⟩;obtain ⟨x, hx⟩ := eX (s.getD i 0);have aH : i < s.length := by rw [<- HX.out.1]; exact hlt
   have bS : wr.cell? ⟨b, o + i, none⟩ = some (.int .i64 x) := HCS.out v1 wr HI.out.1 i _ (by rw [hx]; exact Gp aH);have hx0 : 0 <= x := HX.out.2.1 x (by rw [hx, List.getD_eq_getElem?_getD, List.getElem?_eq_getElem aH]; exact List.getElem_mem aH)
   by_cases aZ : i = 0
   ·have e1 : decide (0 < i) = false := dF (by omega);have bX := LH (dY L (decide (i = 0)) (s.drop i) = gp L x ++ dY L false (s.drop (i + 1)) /\ decide (i + 1 = 0) = false) ⟨by rw [Gd aH, dT (by omega), hx]; simp, by simp⟩;have oH := LH (Cz 134 #[.pointer (pt pb), .int .i64 x] wr (aW pb v1 A n c (f || dM L x) (T ++ gp L x) wr)) (BP wr HI.out.1.1 L (iK.out v1 wr HI.out.1) x hx0 (by omega));have kU := LH (∀ e w2, aW pb v1 A n c (f || dM L x) (T ++ gp L x) wr e w2 -> e = .returned (.tuple #[]) /\ ∃ v2, bU pb v A n c w (f || dM L x) (T ++ gp L x) v2 w2 /\ (T ++ gp L x) ++ dY L (decide ((i + 1) = 0)) (s.drop (i + 1)) = t ++ [40] ++ dY L true s /\ ((f || dM L x) || (s.drop (i + 1)).any (dM L)) = (fl || s.any (dM L))) fun e w2 hp => by
     obtain ⟨he, v2, h2⟩ := HI.out.1.step hp;refine ⟨he, v2, h2, ?_, ?_⟩
     ·rw [bX.out.2, <- HI.out.2.1, bX.out.1]; simp
     ·rw [<- HI.out.2.2, Gx aH, hx, Bool.or_assoc]
    clear aZ aH hx hx0
    go_wp2_with ((with_reducible refine oH.out.mono ?_); rintro e w2 hp; obtain ⟨rfl, v2, h2⟩ := kU.out e w2 hp; have H2 := Lh h2; clear hp h2)
    go_roundg gg
    case rel => exact ⟨i + 1, f || dM L x, T ++ gp L x, v2, by omega, by go_num, H2⟩
    case measure => omega
   ·have e1 : decide (0 < i) = true := dT (by omega);have bX := LH (dY L (decide (i = 0)) (s.drop i) = [124] ++ gp L x ++ dY L false (s.drop (i + 1)) /\ decide (i + 1 = 0) = false) ⟨by rw [Gd aH, dF (by omega), hx]; simp, by simp⟩;have oH := LH (Cz 107 #[.pointer (pt pb), .int .u8 124] wr (aW pb v1 A n c f (T ++ [124]) wr)) (mH wr HI.out.1.1 124 (by omega));have ES := LH (∀ e w2, aW pb v1 A n c f (T ++ [124]) wr e w2 -> e = .returned (.tuple #[]) /\ ∃ v2, bU pb v A n c w f (T ++ [124]) v2 w2 /\ Cz 134 #[.pointer (pt pb), .int .i64 x] w2 (aW pb v2 A n c (f || dM L x) (T ++ [124] ++ gp L x) w2)) fun e w2 hp => by
     obtain ⟨he, v2, h2⟩ := HI.out.1.step hp;exact ⟨he, v2, h2, BP w2 h2.1 L (iK.out v2 w2 h2) x hx0 (by simp; omega)⟩
    have kU := LH (∀ v2 w2 e w3, bU pb v A n c w f (T ++ [124]) v2 w2 -> aW pb v2 A n c (f || dM L x) (T ++ [124] ++ gp L x) w2 e w3 -> e = .returned (.tuple #[]) /\ ∃ v3, bU pb v A n c w (f || dM L x) (T ++ [124] ++ gp L x) v3 w3 /\ (T ++ [124] ++ gp L x) ++ dY L (decide ((i + 1) = 0)) (s.drop (i + 1)) = t ++ [40] ++ dY L true s /\ ((f || dM L x) || (s.drop (i + 1)).any (dM L)) = (fl || s.any (dM L))) fun v2 w2 e w3 h2 hp => by
     obtain ⟨he, v3, h3⟩ := h2.step hp;refine ⟨he, v3, h3, ?_, ?_⟩
     ·rw [bX.out.2, <- HI.out.2.1, bX.out.1]; simp
     ·rw [<- HI.out.2.2, Gx aH, hx, Bool.or_assoc]
    clear aZ aH hx hx0
    go_wp2_with (first
     |((with_reducible refine oH.out.mono ?_); rintro e w2 hp; obtain ⟨rfl, v2, h2, hc2⟩ := ES.out e w2 hp; have H2 := Lh h2; have mh := Lh hc2; clear hp h2 hc2)
     |((with_reducible refine mh.out.mono ?_); rintro e w3 hp; obtain ⟨rfl, v3, h3⟩ := kU.out v2 w2 e w3 H2.out hp; have H3 := Lh h3; clear hp h3))
    go_roundg gg
    case rel => exact ⟨i + 1, f || dM L x, T ++ [124] ++ gp L x, v3, by omega, by go_num, H3⟩
    case measure => omega
  ·obtain rfl : ns = i := by omega
   have HS9 := LH (Cz 107 #[.pointer (pt pb), .int .u8 41] wr (aW pb v1 A n c f (T ++ [41]) wr)) (mH wr HI.out.1.1 41 (by omega));have HF9 := LH (∀ e w2, aW pb v1 A n c f (T ++ [41]) wr e w2 -> aW pb v A n c (fl || s.any (dM L)) (t ++ ([40] ++ dY L true s ++ [41])) w e w2) fun e w2 hp => by
    obtain ⟨rfl, v2, h2⟩ := HI.out.1.step hp;have h3 := HI.out.2.1;have h4 := HI.out.2.2;rw [HX.out.1, List.drop_length] at h3 h4;rw [dY, List.append_nil] at h3;rw [List.any_nil, Bool.or_false] at h4;rw [h3, h4] at h2;have h5 := h2.post;rw [show t ++ ([40] ++ dY L true s ++ [41]) = t ++ [40] ++ dY L true s ++ [41] by simp];exact h5
   go_wp2_with ((with_reducible refine HS9.out.mono ?_); rintro e w2 hp; have H9 := Lh (HF9.out e w2 hp); obtain ⟨rfl, _⟩ := oW hp; clear hp)
   go_end0;exact H9.out
theorem V6 (w : World) {pb : Nat} {v : Value} {A : Option Addr} {n c : Nat} {fl : Bool} {t : Alp.B} (h : gH pb v A n c fl t w) (L : List Lt) (hL : jr w pb A n c L) (s : List Int) (b o ns cs : Nat) (kC : ns = s.length) (hc : ns <= cs) (hm : cs <= 9223372036854775807) (hcs : ∀ k v, (iv s)[k]? = some v -> w.cell? ⟨b, o + k, none⟩ = some v) (hb1 : b ≠ pb) (hb2 : some b ≠ v.ownBlock) (kN : ∀ x ∈ s, 0 <= x) (hne : s ≠ []) (ht : t.length + (sQ L s).length <= 1000000000) : Calls Tryz.prog 103 #[.pointer (pt pb), .slice (some ⟨b, o, none⟩) ns cs] w (aW pb v A n c (fl || Cj L s) (t ++ sQ L s) w) := by
 have hl : 0 < s.length := List.length_pos_iff.2 hne;have hLn := hL.nl;unfold sQ at ht ⊢;unfold Cj
 by_cases h1 : s.length = 1
 ·rw [if_pos h1] at ht;rw [if_pos h1, if_pos h1];exact Vm w h L hL s b o ns cs kC hc hm hcs hb1 hb2 kN h1 ht
 rw [if_neg h1] at ht;rw [if_neg h1, if_neg h1]
 by_cases h2 : Gy L s = true
 ·rw [if_pos h2] at ht;rw [if_pos h2, if_pos h2, Bool.or_false];have h3 := of_decide_eq_true h2;exact QC w h L hL s b o ns cs kC hc hm hcs hb1 hb2 kN (by omega) (by omega) (ns - 1) (by omega) (by rw [kC, h3.2]; omega) (by omega)
 rw [if_neg h2] at ht;rw [if_neg h2, if_neg h2]
 by_cases h3 : ns = n
 ·refine WK w h L hL s b o ns cs kC hc hm hcs hb1 hb2 kN (by omega) h3 (ns - 1) (by omega) _ rfl (fun e => h2 ?_) ht;unfold Gy;rw [<- kC];exact dT ⟨by omega, by rw [e]; omega⟩
 ·exact VI w h L hL s b o ns cs kC hc hm hcs hb1 hb2 kN (by omega) h3 ht
theorem uk {pb : Nat} {v : Value} {A : Option Addr} {n c : Nat} {fl : Bool} {t : Alp.B} {w w1 w2 : World} {e : Ending} (hb : Bw w w1) (h : aW pb v A n c fl t w1 e w2) : aW pb v A n c fl t w e w2 := by
 obtain ⟨he, v', h1, h2, h3⟩ := h;exact ⟨he, v', h1, (Kp.of_below hb).tr (Nw.refl _ _) h2, h3.of hb.size⟩
def sO (r : Rx) : Prop := ∀ (L : List Lt) (pb : Nat) (v : Value) (A : Option Addr) (n c : Nat) (fl : Bool) (t : Alp.B) (w : World) (Ky : Int) (A2 B2 : Option Addr) (n2 c2 m2 d2 : Nat), Ky = r.kind -> gH pb v A n c fl t w -> jr w pb A n c L -> ak (fun b => b ≠ pb /\ some b ≠ v.ownBlock) w r A2 n2 c2 B2 m2 d2 -> t.length + (aQ L r).length <= 1000000000 -> Calls Tryz.prog 72 #[.pointer (pt pb), .agg #[.int .i64 Ky, .slice A2 n2 c2, .slice B2 m2 d2]] w (aW pb v A n c (fl || bn L r) (t ++ aQ L r) w)
theorem CX {r : Rx} (H : sO r) {L : List Lt} {pb : Nat} {v : Value} {A : Option Addr} {n c : Nat} {fl : Bool} {t : Alp.B} {w : World} {Ky : Int} {A2 B2 : Option Addr} {n2 c2 m2 d2 : Nat} (hK : Ky = r.kind) (h : gH pb v A n c fl t w) (hL : jr w pb A n c L) (hr : ak (fun b => b ≠ pb /\ some b ≠ v.ownBlock) w r A2 n2 c2 B2 m2 d2) (ht : t.length + (aQ L r).length <= 1000000000) : Calls Tryz.prog 72 #[.pointer (pt pb), .agg #[.int .i64 Ky, .slice A2 n2 c2, .slice B2 m2 d2]] w (aW pb v A n c (fl || bn L r) (t ++ aQ L r) w) := H L pb v A n c fl t w Ky A2 B2 n2 c2 m2 d2 hK h hL hr ht
theorem BR {r : Rx} (H : sO r) {L : List Lt} {pb : Nat} {v : Value} {A : Option Addr} {n c : Nat} {fl : Bool} {t : Alp.B} {w : World} {Ky : Int} {A2 B2 : Option Addr} {n2 c2 m2 d2 : Nat} (hK : Ky = r.kind) (h : gH pb v A n c fl t w) (hL : jr w pb A n c L) (hr : ak (fun b => b ≠ pb /\ some b ≠ v.ownBlock) w r A2 n2 c2 B2 m2 d2) (ht : t.length + (aQ L r).length <= 1000000000) : Calls Tryz.prog 106 #[.pointer (pt pb), .agg #[.int .i64 Ky, .slice A2 n2 c2, .slice B2 m2 d2], .bool false] w (aW pb v A n c (fl || bn L r) (t ++ aQ L r) w) := by
 have hb1 : Bw w (w.alloc (zC Ky A2 n2 c2 B2 m2 d2)) := ai w _;have hr1 : (w.alloc (zC Ky A2 n2 c2 B2 m2 d2)).rangeAt w.heap.size 0 (zV Ky A2 n2 c2 B2 m2 d2) := fun j u hu => by rw [Nat.zero_add]; exact kH (Below.refl _ _) j u hu
 have rM := LH (Cz 72 #[.pointer (pt pb), .agg #[.int .i64 Ky, .slice A2 n2 c2, .slice B2 m2 d2]] (w.alloc (zC Ky A2 n2 c2 B2 m2 d2)) (aW pb v A n c (fl || bn L r) (t ++ aQ L r) (w.alloc (zC Ky A2 n2 c2 B2 m2 d2)))) (CX H hK (h.below hb1) (hL.below hb1) (hr.below hb1) ht);have HB := Lh hb1;clear H hK h hL hr ht hb1;go_enter Tryz.func106, Tryz.ntmps106
 go_wp2_with (first
  |(refine aG rfl (.tmp 4) rfl w.heap.size (0) rfl Ky A2 B2 n2 c2 m2 d2 hr1 ?_)
  |((with_reducible refine rM.out.mono ?_); rintro e x4 hp; have H4 := Lh (uk HB.out hp); obtain ⟨rfl, _⟩ := oW hp; clear hp))
 go_end0;exact H4.out
theorem vT {r : Rx} (H : sO r) {L : List Lt} {pb : Nat} {v : Value} {A : Option Addr} {n c : Nat} {fl : Bool} {t : Alp.B} {w : World} {Ky : Int} {A2 B2 : Option Addr} {n2 c2 m2 d2 : Nat} (hK : Ky = r.kind) (h : gH pb v A n c fl t w) (hL : jr w pb A n c L) (hr : ak (fun b => b ≠ pb /\ some b ≠ v.ownBlock) w r A2 n2 c2 B2 m2 d2) (ht : t.length + ((aQ L r).length + 2) <= 1000000000) : Calls Tryz.prog 106 #[.pointer (pt pb), .agg #[.int .i64 Ky, .slice A2 n2 c2, .slice B2 m2 d2], .bool true] w (aW pb v A n c (fl || bn L r) (t ++ ([40] ++ aQ L r ++ [41])) w) := by
 have hb1 : Bw w (w.alloc (zC Ky A2 n2 c2 B2 m2 d2)) := ai w _;have gN : ae (w.alloc (zC Ky A2 n2 c2 B2 m2 d2)) w.heap.size (zV Ky A2 n2 c2 B2 m2 d2) 25 := ae.at w _ _ 25 _ rfl rfl;have h1 : bU pb v A n c (w.alloc (zC Ky A2 n2 c2 B2 m2 d2)) fl t v (w.alloc (zC Ky A2 n2 c2 B2 m2 d2)) := bU.refl (h.below hb1);have hl := h.lt;have HM := LH (Cz 107 #[.pointer (pt pb), .int .u8 40] (w.alloc (zC Ky A2 n2 c2 B2 m2 d2)) (aW pb v A n c fl (t ++ [40]) (w.alloc (zC Ky A2 n2 c2 B2 m2 d2)))) (mH _ h1.1 40 (by omega));have uR := LH (∀ e w2, aW pb v A n c fl (t ++ [40]) (w.alloc (zC Ky A2 n2 c2 B2 m2 d2)) e w2 -> e = .returned (.tuple #[]) /\ w2.rangeAt w.heap.size 0 (zV Ky A2 n2 c2 B2 m2 d2) /\ ∃ v1, bU pb v A n c (w.alloc (zC Ky A2 n2 c2 B2 m2 d2)) fl (t ++ [40]) v1 w2 /\ Cz 72 #[.pointer (pt pb), .agg #[.int .i64 Ky, .slice A2 n2 c2, .slice B2 m2 d2]] w2 (aW pb v1 A n c (fl || bn L r) (t ++ [40] ++ aQ L r) w2)) fun e w2 hp => by
  obtain ⟨he, v1, h2⟩ := h1.step hp;exact ⟨he, aS (h2.2.1.blk gN (by omega) (fun e => by have := (hl.2 _ e.symm).2; omega)), v1, h2, CX H hK h2.1 ((hL.below hb1).kp h2.2.1 h1.lt) (l5 hr hb1 h2.2.1 h2.2.2) (by simp; omega)⟩
 have nM := LH (∀ v1 w2 e w3, bU pb v A n c (w.alloc (zC Ky A2 n2 c2 B2 m2 d2)) fl (t ++ [40]) v1 w2 -> aW pb v1 A n c (fl || bn L r) (t ++ [40] ++ aQ L r) w2 e w3 -> e = .returned (.tuple #[]) /\ ∃ v3, bU pb v A n c (w.alloc (zC Ky A2 n2 c2 B2 m2 d2)) (fl || bn L r) (t ++ [40] ++ aQ L r) v3 w3 /\ Cz 107 #[.pointer (pt pb), .int .u8 41] w3 (aW pb v3 A n c (fl || bn L r) (t ++ [40] ++ aQ L r ++ [41]) w3)) fun v1 w2 e w3 h2 hp => by
  obtain ⟨he, v3, h3⟩ := h2.step hp;exact ⟨he, v3, h3, mH _ h3.1 41 (by simp; omega)⟩
 have yx := LH (∀ v3 w3 e w4, bU pb v A n c (w.alloc (zC Ky A2 n2 c2 B2 m2 d2)) (fl || bn L r) (t ++ [40] ++ aQ L r) v3 w3 -> aW pb v3 A n c (fl || bn L r) (t ++ [40] ++ aQ L r ++ [41]) w3 e w4 -> e = .returned (.tuple #[]) /\ aW pb v A n c (fl || bn L r) (t ++ ([40] ++ aQ L r ++ [41])) w (.returned (.tuple #[])) w4) fun v3 w3 e w4 h3 hp => by
  obtain ⟨he, v4, h4⟩ := h3.step hp;refine ⟨he, uk hb1 ?_⟩;have h5 := h4.post;rw [show t ++ ([40] ++ aQ L r ++ [41]) = t ++ [40] ++ aQ L r ++ [41] by simp];exact h5
 clear H hK h hL hr ht hb1 gN h1 hl;go_enter Tryz.func106, Tryz.ntmps106
 go_wp2_with (first
  |(refine aG rfl (.tmp 4) rfl w.heap.size (0) rfl Ky A2 B2 n2 c2 m2 d2 H2.out.1 ?_)
  |((with_reducible refine HM.out.mono ?_); rintro e w2 hp; obtain ⟨rfl, hrg, v1, h2, hc2⟩ := uR.out e w2 hp; have H2 := Lh (And.intro hrg h2); have mh := Lh hc2; clear hp hrg h2 hc2)
  |((with_reducible refine mh.out.mono ?_); rintro e w3 hp; obtain ⟨rfl, v3, h3, hc3⟩ := nM.out v1 w2 e w3 H2.out.2 hp; have H3 := Lh h3; have BG := Lh hc3; clear hp h3 hc3)
  |((with_reducible refine BG.out.mono ?_); rintro e w4 hp; obtain ⟨rfl, h4⟩ := yx.out v3 w3 e w4 H3.out hp; have H4 := Lh h4; clear hp h4))
 go_end0;exact H4.out
theorem IM {L : List Lt} {ks : List Rx} {i : Nat} (h : i < ks.length) (f : Bool) : iV L f (ks.drop i) = (if f then [] else [124]) ++ aQ L (av ks i) ++ iV L false (ks.drop (i + 1)) := by
 rw [I6 h, iV]
theorem Gm {L : List Lt} {ks : List Rx} {i : Nat} (h : i < ks.length) : ig L (ks.drop i) = (bn L (av ks i) || ig L (ks.drop (i + 1))) := by
 rw [I6 h, ig]
theorem U7 (w : World) {pb : Nat} {v : Value} {A : Option Addr} {n c : Nat} {fl : Bool} {t : Alp.B} (h : gH pb v A n c fl t w) (L : List Lt) (hL : jr w pb A n c L) (ks : List Rx) (ih : ∀ x ∈ ks, sO x) (B : Option Addr) (m d : Nat) (hm : m = ks.length) (iA : m <= d) (fG : d <= 9223372036854775807) (hK : bA (fun b => b ≠ pb /\ some b ≠ v.ownBlock) w ks B) (hB : ks ≠ [] -> ∀ b o, B = some ⟨b, o, none⟩ -> b ≠ pb /\ some b ≠ v.ownBlock) (ht : t.length + (iV L true ks).length <= 1000000000) : Calls Tryz.prog 105 #[.pointer (pt pb), .slice B m d] w (aW pb v A n c (fl || ig L ks) (t ++ iV L true ks) w) := by
 have iK := LH (∀ v1 w1, ∀ {f : Bool} {T : Alp.B}, bU pb v A n c w f T v1 w1 -> jr w1 pb A n c L) fun v1 w1 f T hp => hL.kp hp.2.1 h.lt
 have dH := Lh ih;have HX := LH (m = ks.length /\ bA (fun b => b ≠ pb /\ some b ≠ v.ownBlock) w ks B /\ (ks ≠ [] -> ∀ b o, B = some ⟨b, o, none⟩ -> b ≠ pb /\ some b ≠ v.ownBlock) /\ t.length + (iV L true ks).length <= 1000000000) ⟨hm, hK, hB, ht⟩;have H0 := LH (bU pb v A n c w fl t v w /\ t ++ iV L (decide (0 = 0)) (ks.drop 0) = t ++ iV L true ks /\ (fl || ig L (ks.drop 0)) = (fl || ig L ks)) ⟨bU.refl h, by simp, by simp⟩;have EL : m <= 9223372036854775807 := by omega
 clear h hL ih hm hK hB ht;go_enter Tryz.func105, Tryz.ntmps105;go_wp2_with fail
 go_loopg [8] m (fun gq s8 wr => ∃ (i : Nat) (f : Bool) (T : Alp.B) (v1 : Value), i + gq = m /\ s8 = .int .i64 (i : Int) /\ Hid (bU pb v A n c w f T v1 wr /\ T ++ iV L (decide (i = 0)) (ks.drop i) = t ++ iV L true ks /\ (f || ig L (ks.drop i)) = (fl || ig L ks)))
 case atStart => exact ⟨0, fl, t, v, by omega, rfl, H0⟩
 case round =>
  obtain ⟨i, f, T, v1, hi, rfl, HI⟩ := hrel
  by_cases hlt : i < m
  ·obtain ⟨gg, rfl⟩ : ∃ g, gk = g + 1 := ⟨gk - 1, by omega⟩;have aH : i < ks.length := by rw [<- HX.out.1]; exact hlt
   obtain ⟨b, o, Db⟩ := HX.out.2.1.place (by omega);have hpb := HX.out.2.2.1 (List.ne_nil_of_length_pos (by omega)) b o Db;subst Db;obtain ⟨A2, n2, c2, B2, m2, d2, hrg, ax⟩ := HX.out.2.1.kid aH;obtain ⟨y, hy⟩ := eX (av ks i);rw [<- hy] at hrg ax;obtain ⟨Ky, bi⟩ := eX y.kind;rw [<- bi] at hrg;have bY : y ∈ ks := by rw [hy]; exact gU aH
   have aP := LH (wr.rangeAt b (o + i * 3) (zV Ky A2 n2 c2 B2 m2 d2)) fun j u hu => by
    have h1 := hrg j u hu;exact (HI.out.1.2.1.cell (World.block_lt_of_cell? w _ h1) hpb.1 hpb.2).trans h1
   have hlen : T.length + (if i = 0 then 0 else 1) + (aQ L y).length <= 1000000000 := by
    have h1 := congrArg List.length HI.out.2.1;have h2 := HX.out.2.2.2;rw [IM aH, <- hy] at h1
    by_cases h0 : i = 0
    ·rw [if_pos h0]; simp [h0] at h1 h2; omega
    ·rw [if_neg h0]; simp [h0] at h1 h2; omega
   clear hpb
   by_cases aZ : i = 0
   ·skip
    rw [if_pos aZ] at hlen;have e1 : decide (0 < i) = false := dF (by omega);have bX := LH (iV L (decide (i = 0)) (ks.drop i) = aQ L y ++ iV L false (ks.drop (i + 1)) /\ decide (i + 1 = 0) = false) ⟨by rw [IM aH, dT (by omega), hy]; simp, by simp⟩;have DI := LH (∀ w4, ae w4 wr.heap.size (zV Ky A2 n2 c2 B2 m2 d2) 25 -> Bw wr w4 -> w4.rangeAt wr.heap.size 0 (zV Ky A2 n2 c2 B2 m2 d2) /\ bU pb v A n c w f T v1 w4 /\ Cz 72 #[.pointer (pt pb), .agg #[.int .i64 Ky, .slice A2 n2 c2, .slice B2 m2 d2]] w4 (aW pb v1 A n c (f || bn L y) (T ++ aQ L y) w4)) fun w4 hb4 hbl => by
     have h4 := HI.out.1.below hbl;exact ⟨aS hb4, h4, CX (dH.out y bY) bi h4.1 (iK.out v1 w4 h4) ((l5 ax (Below.refl _ _) HI.out.1.2.1 HI.out.1.2.2).below hbl) (by omega)⟩
    have kU := LH (∀ w4 e w5, bU pb v A n c w f T v1 w4 -> aW pb v1 A n c (f || bn L y) (T ++ aQ L y) w4 e w5 -> e = .returned (.tuple #[]) /\ ∃ v2, bU pb v A n c w (f || bn L y) (T ++ aQ L y) v2 w5 /\ (T ++ aQ L y) ++ iV L (decide ((i + 1) = 0)) (ks.drop (i + 1)) = t ++ iV L true ks /\ ((f || bn L y) || ig L (ks.drop (i + 1))) = (fl || ig L ks)) fun w4 e w5 h4 hp => by
     obtain ⟨he, v2, h9⟩ := h4.step hp;refine ⟨he, v2, h9, ?_, ?_⟩
     ·rw [bX.out.2, <- HI.out.2.1, bX.out.1]; simp
     ·rw [<- HI.out.2.2, Gm aH, hy, Bool.or_assoc]
    clear aZ aH hy bY ax bi hlen hrg
    go_wp2_with (first
     |(refine aG rfl (.tmp 11) rfl b (o + i * 3) rfl Ky A2 B2 n2 c2 m2 d2 aP.out ?_)
     |(refine wB rfl 25 (.tmp 5) (.tmp 12) rfl wr.heap.size 0 rfl (zV Ky A2 n2 c2 B2 m2 d2) rfl (ae.new' wr zL _ 25 rfl) 3 au ?_; intro w4 ag; have aA := LH (ae w4 wr.heap.size (zV Ky A2 n2 c2 B2 m2 d2) 25 /\ Bw wr w4) (dC ag); clear ag; have qN := DI.out w4 aA.out.1 aA.out.2; have hk2 := qN.1; have H4 := Lh qN.2.1; have HC4 := Lh qN.2.2; clear qN)
     |(refine aG rfl (.tmp 5) rfl wr.heap.size (0) rfl Ky A2 B2 n2 c2 m2 d2 hk2 ?_)
     |((with_reducible refine HC4.out.mono ?_); rintro e w5 hp; obtain ⟨rfl, v2, h5⟩ := kU.out w4 e w5 H4.out hp; have H5 := Lh h5; clear hp h5))
    go_roundg gg
    case rel => exact ⟨i + 1, f || bn L y, T ++ aQ L y, v2, by omega, by go_num, H5⟩
    case measure => omega
   ·skip
    rw [if_neg aZ] at hlen;have e1 : decide (0 < i) = true := dT (by omega);have bX := LH (iV L (decide (i = 0)) (ks.drop i) = [124] ++ aQ L y ++ iV L false (ks.drop (i + 1)) /\ decide (i + 1 = 0) = false) ⟨by rw [IM aH, dF (by omega), hy]; simp, by simp⟩;have DI := LH (∀ w4, ae w4 wr.heap.size (zV Ky A2 n2 c2 B2 m2 d2) 25 -> Bw wr w4 -> bU pb v A n c w f T v1 w4 /\ ae w4 wr.heap.size (zV Ky A2 n2 c2 B2 m2 d2) 25 /\ ak (fun b => b ≠ pb /\ some b ≠ v1.ownBlock) w4 y A2 n2 c2 B2 m2 d2 /\ wr.heap.size ≠ pb /\ v1.ownBlock ≠ some wr.heap.size /\ Cz 107 #[.pointer (pt pb), .int .u8 124] w4 (aW pb v1 A n c f (T ++ [124]) w4)) fun w4 hb4 hbl => by
     have h4 := HI.out.1.below hbl;have h5 := HI.out.1.lt;exact ⟨h4, hb4, (l5 ax (Below.refl _ _) HI.out.1.2.1 HI.out.1.2.2).below hbl, by omega, fun e => by have := (h5.2 _ e).2; omega, mH w4 h4.1 124 (by omega)⟩
    have ES := LH (∀ w4 e w5, (bU pb v A n c w f T v1 w4 /\ ae w4 wr.heap.size (zV Ky A2 n2 c2 B2 m2 d2) 25 /\ ak (fun b => b ≠ pb /\ some b ≠ v1.ownBlock) w4 y A2 n2 c2 B2 m2 d2 /\ wr.heap.size ≠ pb /\ v1.ownBlock ≠ some wr.heap.size) -> aW pb v1 A n c f (T ++ [124]) w4 e w5 -> e = .returned (.tuple #[]) /\ w5.rangeAt wr.heap.size 0 (zV Ky A2 n2 c2 B2 m2 d2) /\ ∃ v2, bU pb v A n c w f (T ++ [124]) v2 w5 /\ Cz 72 #[.pointer (pt pb), .agg #[.int .i64 Ky, .slice A2 n2 c2, .slice B2 m2 d2]] w5 (aW pb v2 A n c (f || bn L y) (T ++ [124] ++ aQ L y) w5)) fun w4 e w5 h4 hp => by
     obtain ⟨rfl, v2, g1, g2, g3⟩ := oW hp;have h2 : bU pb v A n c w f (T ++ [124]) v2 w5 := ⟨g1, h4.1.2.1.tr h4.1.2.2 g2, h4.1.2.2.tr h4.1.2.1.size g3⟩;exact ⟨rfl, aS (g2.blk h4.2.1 h4.2.2.2.1 (fun e => h4.2.2.2.2 e.symm)), v2, h2, CX (dH.out y bY) bi h2.1 (iK.out v2 w5 h2) (l5 h4.2.2.1 (Below.refl _ _) g2 g3) (by simp; omega)⟩
    have kU := LH (∀ v2 w4 e w5, bU pb v A n c w f (T ++ [124]) v2 w4 -> aW pb v2 A n c (f || bn L y) (T ++ [124] ++ aQ L y) w4 e w5 -> e = .returned (.tuple #[]) /\ ∃ v3, bU pb v A n c w (f || bn L y) (T ++ [124] ++ aQ L y) v3 w5 /\ (T ++ [124] ++ aQ L y) ++ iV L (decide ((i + 1) = 0)) (ks.drop (i + 1)) = t ++ iV L true ks /\ ((f || bn L y) || ig L (ks.drop (i + 1))) = (fl || ig L ks)) fun v2 w4 e w5 h4 hp => by
     obtain ⟨he, v3, h9⟩ := h4.step hp;refine ⟨he, v3, h9, ?_, ?_⟩
     ·rw [bX.out.2, <- HI.out.2.1, bX.out.1]; simp
     ·rw [<- HI.out.2.2, Gm aH, hy, Bool.or_assoc]
    clear aZ aH hy bY ax bi hlen hrg
    go_wp2_with (first
     |(refine aG rfl (.tmp 11) rfl b (o + i * 3) rfl Ky A2 B2 n2 c2 m2 d2 aP.out ?_)
     |(refine wB rfl 25 (.tmp 5) (.tmp 12) rfl wr.heap.size 0 rfl (zV Ky A2 n2 c2 B2 m2 d2) rfl (ae.new' wr zL _ 25 rfl) 3 au ?_; intro w4 ag; have aA := LH (ae w4 wr.heap.size (zV Ky A2 n2 c2 B2 m2 d2) 25 /\ Bw wr w4) (dC ag); clear ag; have qN := DI.out w4 aA.out.1 aA.out.2; have HM4 := Lh qN.2.2.2.2.2; have H4 := Lh (And.intro qN.1 (And.intro qN.2.1 (And.intro qN.2.2.1 (And.intro qN.2.2.2.1 qN.2.2.2.2.1)))); clear qN)
     |((with_reducible refine HM4.out.mono ?_); rintro e w5 hp; obtain ⟨rfl, hk2, v2, h2, hc2⟩ := ES.out w4 e w5 H4.out hp; have H2 := Lh h2; have mh := Lh hc2; clear hp h2 hc2)
     |(refine aG rfl (.tmp 5) rfl wr.heap.size (0) rfl Ky A2 B2 n2 c2 m2 d2 hk2 ?_)
     |((with_reducible refine mh.out.mono ?_); rintro e w6 hp; obtain ⟨rfl, v3, h5⟩ := kU.out v2 w5 e w6 H2.out hp; have H5 := Lh h5; clear hp h5))
    go_roundg gg
    case rel => exact ⟨i + 1, f || bn L y, T ++ [124] ++ aQ L y, v3, by omega, by go_num, H5⟩
    case measure => omega
  ·obtain rfl : m = i := by omega
   have HF := LH (aW pb v A n c (fl || ig L ks) (t ++ iV L true ks) w (.returned (.tuple #[])) wr) (by
    have h3 := HI.out.2.1;have h4 := HI.out.2.2;rw [HX.out.1, List.drop_length] at h3 h4;rw [iV, List.append_nil] at h3;rw [ig, Bool.or_false] at h4;have h5 := HI.out.1;rw [h3, h4] at h5;exact h5.post)
   go_wp2_with fail;go_end0;exact HF.out
abbrev gZ (wr W : World) (C : List Value) : Prop := ae W wr.heap.size C 25 /\ Bw wr W
namespace Rgx
def qX (L : List Lt) (ks : List Rx) (i : Nat) : Bool := decide (0 < i) && sK L (av ks (i - 1))
end Rgx
theorem VJ {L : List Lt} {ks : List Rx} {i : Nat} (h : i < ks.length) (f : Bool) : jv L f (ks.drop i) = oO L f (av ks i) (aQ L (av ks i)) ++ jv L (sK L (av ks i)) (ks.drop (i + 1)) := by
 rw [I6 h, jv]
theorem Oz (L : List Lt) (ks : List Rx) (i : Nat) : qX L ks (i + 1) = sK L (av ks i) := by unfold qX; simp
theorem Va {r : Rx} (h : aC r = true) : ∀ x ∈ r.syms, 0 <= x := by
 rcases kw h with rfl | rfl | ⟨s, rfl, hs⟩ | ⟨ks, rfl, _⟩ | ⟨ks, rfl, _⟩ | ⟨x, rfl, _⟩
 ·intro x hx; cases hx
 ·intro x hx; cases hx
 ·intro x hx; exact (oh.1 hs).2.2 x hx |>.1
 ·intro x hx; cases hx
 ·intro x hx; cases hx
 ·intro x hx; cases hx
theorem UX {r : Rx} (h : aC r = true) {N : Nat} (hl : qj r N = true) : r.kind = 2 := by
 have h1 := (of_decide_eq_true hl).1
 rcases kw h with rfl | rfl | ⟨s, rfl, hs⟩ | ⟨ks, rfl, _⟩ | ⟨ks, rfl, _⟩ | ⟨x, rfl, _⟩ <;> first | rfl | simp [Rx.syms] at h1
theorem Iq {r : Rx} (h : aC r = true) (hk : r.kind = 5) : ∃ y, r = .mk 5 [] [y] /\ aC y = true := by
 have hv := jL h
 rcases kw h with rfl | rfl | ⟨s, rfl, hs⟩ | ⟨ks, rfl, _⟩ | ⟨ks, rfl, _⟩ | ⟨x, rfl, _⟩ <;> first | exact ⟨_, rfl, hv _ (by simp [Rx.kids])⟩ | simp [Rx.kind] at hk
theorem Uu (w : World) {pb : Nat} {v : Value} {A : Option Addr} {n c : Nat} {fl : Bool} {t : Alp.B} (h : gH pb v A n c fl t w) (L : List Lt) (hL : jr w pb A n c L) (ks : List Rx) (ih : ∀ x ∈ ks, sO x) (bV : ∀ x ∈ ks, ∀ y ∈ x.kids, sO y) (hval : ∀ x ∈ ks, aC x = true) (B : Option Addr) (m d : Nat) (hm : m = ks.length) (iA : m <= d) (fG : d <= 9223372036854775807) (hK : bA (fun b => b ≠ pb /\ some b ≠ v.ownBlock) w ks B) (hB : ks ≠ [] -> ∀ b o, B = some ⟨b, o, none⟩ -> b ≠ pb /\ some b ≠ v.ownBlock) (ht : t.length + (jv L false ks).length <= 1000000000) : Calls Tryz.prog 104 #[.pointer (pt pb), .slice B m d] w (aW pb v A n c (fl || ig L ks) (t ++ jv L false ks) w) := by
 have iK := LH (∀ v1 w1, ∀ {f : Bool} {T : Alp.B}, bU pb v A n c w f T v1 w1 -> jr w1 pb A n c L) fun v1 w1 f T hp => hL.kp hp.2.1 h.lt
 have dH := Lh ih;have JR := Lh bV;have uK := Lh hval;have HX := LH (m = ks.length /\ bA (fun b => b ≠ pb /\ some b ≠ v.ownBlock) w ks B /\ (ks ≠ [] -> ∀ b o, B = some ⟨b, o, none⟩ -> b ≠ pb /\ some b ≠ v.ownBlock) /\ t.length + (jv L false ks).length <= 1000000000) ⟨hm, hK, hB, ht⟩;have H0 := LH (bU pb v A n c w fl t v w /\ t ++ jv L (qX L ks 0) (ks.drop 0) = t ++ jv L false ks /\ (fl || ig L (ks.drop 0)) = (fl || ig L ks)) ⟨bU.refl h, by simp [qX], by simp⟩;have EL : m <= 9223372036854775807 := by omega
 clear h hL ih bV hval hm hK hB ht;go_enter Tryz.func104, Tryz.ntmps104;go_wp2_with fail
 go_loopg [9] m (fun gq s9 wr => ∃ (i : Nat) (f : Bool) (T : Alp.B) (v1 : Value), i + gq = m /\ s9 = .int .i64 (i : Int) /\ Hid (bU pb v A n c w f T v1 wr /\ T ++ jv L (qX L ks i) (ks.drop i) = t ++ jv L false ks /\ (f || ig L (ks.drop i)) = (fl || ig L ks)))
 case atStart => exact ⟨0, fl, t, v, by omega, rfl, H0⟩
 case round =>
  obtain ⟨i, f, T, v1, hi, rfl, HI⟩ := hrel
  by_cases hlt : i < m
  ·obtain ⟨gg, rfl⟩ : ∃ g, gk = g + 1 := ⟨gk - 1, by omega⟩;have aH : i < ks.length := by rw [<- HX.out.1]; exact hlt
   obtain ⟨b, o, Db⟩ := HX.out.2.1.place (by omega);have hpb := HX.out.2.2.1 (List.ne_nil_of_length_pos (by omega)) b o Db;subst Db;obtain ⟨A2, n2, c2, B2, m2, d2, hrg, ax⟩ := HX.out.2.1.kid aH;obtain ⟨y, hy⟩ := eX (av ks i);rw [<- hy] at hrg ax;obtain ⟨Ky, bi⟩ := eX y.kind;rw [<- bi] at hrg;have bY : y ∈ ks := by rw [hy]; exact gU aH
   have nL : aC y = true := uK.out y bY;have aP := LH (wr.rangeAt b (o + i * 3) (zV Ky A2 n2 c2 B2 m2 d2)) fun j u hu => by
    have h1 := hrg j u hu;exact (HI.out.1.2.1.cell (World.block_lt_of_cell? w _ h1) hpb.1 hpb.2).trans h1
   obtain ⟨ap, hap⟩ := eX (qX L ks i);obtain ⟨KO, mD⟩ := eX (oO L ap y (aQ L y));have bX := LH (jv L (qX L ks i) (ks.drop i) = KO ++ jv L (qX L ks (i + 1)) (ks.drop (i + 1))) (by rw [VJ aH, Oz, mD, hap, hy]);have hlen : T.length + KO.length <= 1000000000 := by
    have h1 := congrArg List.length HI.out.2.1;have h2 := HX.out.2.2.2;rw [bX.out] at h1;simp at h1;omega
   have lS : n = L.length := (iK.out v1 wr HI.out.1).nl;have tT : wr.heap.size ≠ pb /\ some wr.heap.size ≠ v1.ownBlock := ⟨by have := HI.out.1.lt.1; omega, fun e => by have := (HI.out.1.lt.2 _ e.symm).2; omega⟩;have gD := LH (∀ W, ae W wr.heap.size (zV Ky A2 n2 c2 B2 m2 d2) 25 -> (fun w' => w'.cell? ⟨wr.heap.size, 0, none⟩ = some (.int .i64 Ky) /\ w'.rangeAt wr.heap.size 0 (zV Ky A2 n2 c2 B2 m2 d2)) W) fun W hb => ⟨hb.cell (j := 0) rfl, aS hb⟩
   have yQ := LH (∀ W, Bw wr W -> ak (fun b => b ≠ pb /\ some b ≠ v1.ownBlock) W y A2 n2 c2 B2 m2 d2) fun W hb => (l5 ax (Below.refl _ _) HI.out.1.2.1 HI.out.1.2.2).below hb
   have gB := LH (∀ W, Bw wr W -> W.cell? ⟨pb, 0, none⟩ = some (.slice A n c)) fun W hb => (HI.out.1.below hb).1.box.cell (j := 0) rfl
   have bR := LH (∀ W, (gZ wr W (zV Ky A2 n2 c2 B2 m2 d2)) -> Cz 136 #[.pointer (pt pb), .agg #[.int .i64 Ky, .slice A2 n2 c2, .slice B2 m2 d2]] W (aU W (qj y n))) fun W hw => by
    rw [bi];exact Jo y A2 B2 n2 c2 m2 d2 W (yQ.out W hw.2).o pb A n c (gB.out W hw.2)
   have HAY := LH (∀ W, (gZ wr W (zV Ky A2 n2 c2 B2 m2 d2)) -> (gZ wr W (zV Ky A2 n2 c2 B2 m2 d2))) fun W h => h
   have kU := LH (∀ W e w9, (gZ wr W (zV Ky A2 n2 c2 B2 m2 d2)) -> aW pb v1 A n c (f || bn L y) (T ++ KO) W e w9 -> e = .returned (.tuple #[]) /\ (fun w' => w'.cell? ⟨wr.heap.size, 0, none⟩ = some (.int .i64 Ky) /\ w'.rangeAt wr.heap.size 0 (zV Ky A2 n2 c2 B2 m2 d2)) w9 /\ ∃ v2, bU pb v A n c w (f || bn L y) (T ++ KO) v2 w9 /\ (T ++ KO) ++ jv L (qX L ks (i + 1)) (ks.drop (i + 1)) = t ++ jv L false ks /\ ((f || bn L y) || ig L (ks.drop (i + 1))) = (fl || ig L ks)) fun W e w9 hw hp => by
    obtain ⟨rfl, v2, g1, g2, g3⟩ := oW hp;have h4 := HI.out.1.below hw.2;refine ⟨rfl, gD.out _ (g2.blk hw.1 tT.1 tT.2), v2, ⟨g1, h4.2.1.tr h4.2.2 g2, h4.2.2.tr h4.2.1.size g3⟩, ?_, ?_⟩
    ·rw [<- HI.out.2.1, bX.out]; simp
    ·rw [<- HI.out.2.2, Gm aH, hy, Bool.or_assoc]
   obtain ⟨U, hU⟩ := eX (qj y n);rw [<- hU] at bR
   by_cases aZ : i = 0
   ·skip
    have e1 : decide (0 < i) = false := dF (by omega);obtain rfl : ap = false := by rw [hap]; unfold qX; rw [e1]; rfl
    by_cases k4 : Ky = 4
    ·skip
     have gP : KO = [40] ++ aQ L y ++ [41] := by rw [mD]; unfold oO sI; rw [<- bi, k4]; simp
     have fU := LH (∀ W, (gZ wr W (zV Ky A2 n2 c2 B2 m2 d2)) -> Cz 106 #[.pointer (pt pb), .agg #[.int .i64 Ky, .slice A2 n2 c2, .slice B2 m2 d2], .bool true] W (aW pb v1 A n c (f || bn L y) (T ++ KO) W)) fun W hw => by
      have h4 := HI.out.1.below hw.2;rw [gP];exact vT (dH.out y bY) bi h4.1 (iK.out v1 W h4) ((l5 ax (Below.refl _ _) HI.out.1.2.1 HI.out.1.2.2).below hw.2) (by rw [gP] at hlen; simp at hlen; omega)
     have uO : (Ky == 4) = true := bT (by omega);clear gP;clear k4;clear hlen lS aH hy bY ax bi nL hrg hpb mD hap hU tT;clear aZ
     go_upto_region 3 with (first
      |(refine aG rfl (.tmp 12) rfl b (o + i * 3) rfl Ky A2 B2 n2 c2 m2 d2 aP.out ?_)
      |(refine wB rfl 25 (.tmp 5) (.tmp 13) rfl wr.heap.size 0 rfl (zV Ky A2 n2 c2 B2 m2 d2) rfl (ae.new' wr zL _ 25 rfl) 3 au ?_; intro w4 ag; have aA := LH (ae w4 wr.heap.size (zV Ky A2 n2 c2 B2 m2 d2) 25 /\ Bw wr w4) (dC ag); clear ag; ))
     go_upto_region 7 with fail
     have eG := LH (gZ wr w4.drew (zV Ky A2 n2 c2 B2 m2 d2)) ⟨aA.out.1.below (below_drewN (Below.refl _ _) 1) aA.out.1.lt, aA.out.2.trans (below_drewN (Below.refl _ _) 1 |>.mono aA.out.2.size)⟩;refine wp_region_held_drew (S := fun w' => w'.cell? ⟨wr.heap.size, 0, none⟩ = some (.int .i64 Ky) /\ w'.rangeAt wr.heap.size 0 (zV Ky A2 n2 c2 B2 m2 d2)) (by kernel_rfl) ((gD.out _ eG.out.1)) (fun cO => ?_);refine aL 0 ?_;refine wX 1 rfl (yieldsIf_load_mid (by rfl) _ _ rfl _ _ rfl _ _ (fun w h => h.2) Tryz.underlying25 rfl au) ?_;refine aL 2 ?_;refine aL 3 ?_;refine aL 4 ?_;refine aL 5 ?_;refine wS 6 ?_;refine wS 7 ?_;refine wS 8 ?_;refine wS 9 ?_;refine wS 10 ?_;refine wS 11 ?_;refine aL 12 ?_;refine wpAnyH_ready (rs := [13]) (by kernel_rfl) (by simp) ?_;refine wA rfl (fun KK hK => ?_) AllReadyH.nil
     go_simp;go_at_call 106;refine (fU.out _ eG.out).mono ?_;rintro e w9 hp;obtain ⟨rfl, dL, v2, h9⟩ := kU.out _ e w9 eG.out hp;have H9 := Lh h9;clear hp h9;refine hK.out _ _ dL (fun dh => ?_);clear hK KK;(try simp only [Act.put, pP]);refine wpAnyH_done (by kernel_rfl) ?_ _;go_wp2_with fail
     go_roundg gg
     case rel => exact ⟨i + 1, f || bn L y, T ++ KO, v2, by omega, by go_num, H9⟩
     case measure => omega
    ·skip
     have gP : KO = aQ L y := by rw [mD]; unfold oO; rw [<- bi]; simp [k4]
     have fU := LH (∀ W, (gZ wr W (zV Ky A2 n2 c2 B2 m2 d2)) -> Cz 106 #[.pointer (pt pb), .agg #[.int .i64 Ky, .slice A2 n2 c2, .slice B2 m2 d2], .bool false] W (aW pb v1 A n c (f || bn L y) (T ++ KO) W)) fun W hw => by
      have h4 := HI.out.1.below hw.2;rw [gP];exact BR (dH.out y bY) bi h4.1 (iK.out v1 W h4) ((l5 ax (Below.refl _ _) HI.out.1.2.1 HI.out.1.2.2).below hw.2) (by rw [gP] at hlen; omega)
     have uO : (Ky == 4) = false := bF (by omega);clear gP;clear k4;clear hlen lS aH hy bY ax bi nL hrg hpb mD hap hU tT;clear aZ
     go_upto_region 3 with (first
      |(refine aG rfl (.tmp 12) rfl b (o + i * 3) rfl Ky A2 B2 n2 c2 m2 d2 aP.out ?_)
      |(refine wB rfl 25 (.tmp 5) (.tmp 13) rfl wr.heap.size 0 rfl (zV Ky A2 n2 c2 B2 m2 d2) rfl (ae.new' wr zL _ 25 rfl) 3 au ?_; intro w4 ag; have aA := LH (ae w4 wr.heap.size (zV Ky A2 n2 c2 B2 m2 d2) 25 /\ Bw wr w4) (dC ag); clear ag; ))
     go_upto_region 7 with fail
     have eG := LH (gZ wr w4.drew (zV Ky A2 n2 c2 B2 m2 d2)) ⟨aA.out.1.below (below_drewN (Below.refl _ _) 1) aA.out.1.lt, aA.out.2.trans (below_drewN (Below.refl _ _) 1 |>.mono aA.out.2.size)⟩;refine wp_region_held_drew (S := fun w' => w'.cell? ⟨wr.heap.size, 0, none⟩ = some (.int .i64 Ky) /\ w'.rangeAt wr.heap.size 0 (zV Ky A2 n2 c2 B2 m2 d2)) (by kernel_rfl) ((gD.out _ eG.out.1)) (fun cO => ?_);refine aL 0 ?_;refine wX 1 rfl (yieldsIf_load_mid (by rfl) _ _ rfl _ _ rfl _ _ (fun w h => h.2) Tryz.underlying25 rfl au) ?_;refine aL 2 ?_;refine aL 3 ?_;refine aL 4 ?_;refine aL 5 ?_;refine aL 6 ?_;refine aL 7 ?_;refine wS 8 ?_;refine wS 9 ?_;refine wS 10 ?_;refine aL 11 ?_;refine aL 12 ?_;refine wpAnyH_ready (rs := [13]) (by kernel_rfl) (by simp) ?_;refine wA rfl (fun KK hK => ?_) AllReadyH.nil
     go_simp;go_at_call 106;refine (fU.out _ eG.out).mono ?_;rintro e w9 hp;obtain ⟨rfl, dL, v2, h9⟩ := kU.out _ e w9 eG.out hp;have H9 := Lh h9;clear hp h9;refine hK.out _ _ dL (fun dh => ?_);clear hK KK;(try simp only [Act.put, pP]);refine wpAnyH_done (by kernel_rfl) ?_ _;go_wp2_with fail
     go_roundg gg
     case rel => exact ⟨i + 1, f || bn L y, T ++ KO, v2, by omega, by go_num, H9⟩
     case measure => omega
   ·obtain ⟨j, hj⟩ : ∃ j, i = j + 1 := ⟨i - 1, by omega⟩;have e1 : decide (0 < i) = true := dT (by omega);have e4 : (i : Int) - 1 = (j : Int) := by omega
    have hjm : j < m := by omega
    obtain ⟨A5, n5, c5, B5, m5, d5, G8, JG⟩ := HX.out.2.1.kid (i := j) (by omega);obtain ⟨x5, tu⟩ := eX (av ks j);rw [<- tu] at G8 JG;have hm5 : x5 ∈ ks := by rw [tu]; exact gU (by omega)
    obtain ⟨xg, Kj⟩ := eX x5.kind;rw [<- Kj] at G8;have Ap := LH (∀ W, Bw wr W -> W.rangeAt b (o + j * 3) (zV xg A5 n5 c5 B5 m5 d5)) fun W hb k u hu => by
     have h1 := G8 k u hu;have h2 := (HI.out.1.2.1.cell (World.block_lt_of_cell? w _ h1) hpb.1 hpb.2).trans h1;exact (hb.cell (p := ⟨b, o + j * 3 + k, none⟩) (World.block_lt_of_cell? wr _ h2)).trans h2
    have aaa := LH (∀ W, (gZ wr W (zV Ky A2 n2 c2 B2 m2 d2)) -> Cz 135 #[.pointer (pt pb), .agg #[.int .i64 xg, .slice A5 n5 c5, .slice B5 m5 d5]] W (aU W ap)) fun W hw => by
     have hl := (iK.out v1 wr HI.out.1).below hw.2;have h1 := RF x5 A5 B5 n5 c5 m5 d5 W ((l5 JG (Below.refl _ _) HI.out.1.2.1 HI.out.1.2.2).below hw.2).o (Va (uK.out x5 hm5)) pb A n c L (gB.out W hw.2) hl.nl hl.cl hl.ml hl.rd hl.lt;rw [Kj];rw [show sK L x5 = ap by rw [hap, hj, Oz, tu]] at h1;exact h1
    clear G8 JG tu hm5 Kj hj
    cases JY : ap with
    |false =>
     have hap2 := JY;subst JY;clear hap2
     by_cases k4 : Ky = 4
     ·skip
      have gP : KO = [40] ++ aQ L y ++ [41] := by rw [mD]; unfold oO sI; rw [<- bi, k4]; simp
      have fU := LH (∀ W, (gZ wr W (zV Ky A2 n2 c2 B2 m2 d2)) -> Cz 106 #[.pointer (pt pb), .agg #[.int .i64 Ky, .slice A2 n2 c2, .slice B2 m2 d2], .bool true] W (aW pb v1 A n c (f || bn L y) (T ++ KO) W)) fun W hw => by
       have h4 := HI.out.1.below hw.2;rw [gP];exact vT (dH.out y bY) bi h4.1 (iK.out v1 W h4) ((l5 ax (Below.refl _ _) HI.out.1.2.1 HI.out.1.2.2).below hw.2) (by rw [gP] at hlen; simp at hlen; omega)
      have uO : (Ky == 4) = true := bT (by omega);clear gP;clear k4;clear hlen lS aH hy bY ax bi nL hrg hpb mD hap hU tT;clear aZ
      go_upto_region 3 with (first
       | (refine aG rfl (.tmp 12) rfl b (o + i * 3) rfl Ky A2 B2 n2 c2 m2 d2 aP.out ?_)
       | (refine wB rfl 25 (.tmp 5) (.tmp 13) rfl wr.heap.size 0 rfl (zV Ky A2 n2 c2 B2 m2 d2) rfl (ae.new' wr zL _ 25 rfl) 3 au ?_; intro w4 ag; have aA := LH (ae w4 wr.heap.size (zV Ky A2 n2 c2 B2 m2 d2) 25 /\ Bw wr w4) (dC ag); clear ag; ))
      go_upto_region 4 with (first
       | (refine lY (by rfl) (.tmp 21) rfl b (o + j * 3) rfl xg A5 B5 n5 c5 m5 d5 (Ap.out w4 aA.out.2) ?_)
       | ((with_reducible refine (aaa.out w4 aA.out).mono ?_); rintro e w5 hp; obtain ⟨rfl, bq⟩ := aV hp; have H5 := LH (gZ wr w5 (zV Ky A2 n2 c2 B2 m2 d2)) ⟨aA.out.1.below bq aA.out.1.lt, aA.out.2.trans (bq.mono aA.out.2.size)⟩; have rE := (gD.out _ H5.out.1).1; have Et := H5.out.1.cell (j := 2) rfl; clear hp bq))
      go_upto_region 7 with fail
      have eG := LH (gZ wr w5.drew (zV Ky A2 n2 c2 B2 m2 d2)) ⟨H5.out.1.below (below_drewN (Below.refl _ _) 1) H5.out.1.lt, H5.out.2.trans (below_drewN (Below.refl _ _) 1 |>.mono H5.out.2.size)⟩;refine wp_region_held_drew (S := fun w' => w'.cell? ⟨wr.heap.size, 0, none⟩ = some (.int .i64 Ky) /\ w'.rangeAt wr.heap.size 0 (zV Ky A2 n2 c2 B2 m2 d2)) (by kernel_rfl) ((gD.out _ eG.out.1)) (fun cO => ?_);refine aL 0 ?_;refine wX 1 rfl (yieldsIf_load_mid (by rfl) _ _ rfl _ _ rfl _ _ (fun w h => h.2) Tryz.underlying25 rfl au) ?_;refine aL 2 ?_;refine aL 3 ?_;refine aL 4 ?_;refine aL 5 ?_;refine wS 6 ?_;refine wS 7 ?_;refine wS 8 ?_;refine wS 9 ?_;refine wS 10 ?_;refine wS 11 ?_;refine aL 12 ?_;refine wpAnyH_ready (rs := [13]) (by kernel_rfl) (by simp) ?_;refine wA rfl (fun KK hK => ?_) AllReadyH.nil
      go_simp;go_at_call 106;refine (fU.out _ eG.out).mono ?_;rintro e w9 hp;obtain ⟨rfl, dL, v2, h9⟩ := kU.out _ e w9 eG.out hp;have H9 := Lh h9;clear hp h9;refine hK.out _ _ dL (fun dh => ?_);clear hK KK;(try simp only [Act.put, pP]);refine wpAnyH_done (by kernel_rfl) ?_ _;go_wp2_with fail
      go_roundg gg
      case rel => exact ⟨i + 1, f || bn L y, T ++ KO, v2, by omega, by go_num, H9⟩
      case measure => omega
     ·skip
      have gP : KO = aQ L y := by rw [mD]; unfold oO; rw [<- bi]; simp [k4]
      have fU := LH (∀ W, (gZ wr W (zV Ky A2 n2 c2 B2 m2 d2)) -> Cz 106 #[.pointer (pt pb), .agg #[.int .i64 Ky, .slice A2 n2 c2, .slice B2 m2 d2], .bool false] W (aW pb v1 A n c (f || bn L y) (T ++ KO) W)) fun W hw => by
       have h4 := HI.out.1.below hw.2;rw [gP];exact BR (dH.out y bY) bi h4.1 (iK.out v1 W h4) ((l5 ax (Below.refl _ _) HI.out.1.2.1 HI.out.1.2.2).below hw.2) (by rw [gP] at hlen; omega)
      have uO : (Ky == 4) = false := bF (by omega);clear gP;clear k4;clear hlen lS aH hy bY ax bi nL hrg hpb mD hap hU tT;clear aZ
      go_upto_region 3 with (first
       | (refine aG rfl (.tmp 12) rfl b (o + i * 3) rfl Ky A2 B2 n2 c2 m2 d2 aP.out ?_)
       | (refine wB rfl 25 (.tmp 5) (.tmp 13) rfl wr.heap.size 0 rfl (zV Ky A2 n2 c2 B2 m2 d2) rfl (ae.new' wr zL _ 25 rfl) 3 au ?_; intro w4 ag; have aA := LH (ae w4 wr.heap.size (zV Ky A2 n2 c2 B2 m2 d2) 25 /\ Bw wr w4) (dC ag); clear ag; ))
      go_upto_region 4 with (first
       | (refine lY (by rfl) (.tmp 21) rfl b (o + j * 3) rfl xg A5 B5 n5 c5 m5 d5 (Ap.out w4 aA.out.2) ?_)
       | ((with_reducible refine (aaa.out w4 aA.out).mono ?_); rintro e w5 hp; obtain ⟨rfl, bq⟩ := aV hp; have H5 := LH (gZ wr w5 (zV Ky A2 n2 c2 B2 m2 d2)) ⟨aA.out.1.below bq aA.out.1.lt, aA.out.2.trans (bq.mono aA.out.2.size)⟩; have rE := (gD.out _ H5.out.1).1; have Et := H5.out.1.cell (j := 2) rfl; clear hp bq))
      go_upto_region 7 with fail
      have eG := LH (gZ wr w5.drew (zV Ky A2 n2 c2 B2 m2 d2)) ⟨H5.out.1.below (below_drewN (Below.refl _ _) 1) H5.out.1.lt, H5.out.2.trans (below_drewN (Below.refl _ _) 1 |>.mono H5.out.2.size)⟩;refine wp_region_held_drew (S := fun w' => w'.cell? ⟨wr.heap.size, 0, none⟩ = some (.int .i64 Ky) /\ w'.rangeAt wr.heap.size 0 (zV Ky A2 n2 c2 B2 m2 d2)) (by kernel_rfl) ((gD.out _ eG.out.1)) (fun cO => ?_);refine aL 0 ?_;refine wX 1 rfl (yieldsIf_load_mid (by rfl) _ _ rfl _ _ rfl _ _ (fun w h => h.2) Tryz.underlying25 rfl au) ?_;refine aL 2 ?_;refine aL 3 ?_;refine aL 4 ?_;refine aL 5 ?_;refine aL 6 ?_;refine aL 7 ?_;refine wS 8 ?_;refine wS 9 ?_;refine wS 10 ?_;refine aL 11 ?_;refine aL 12 ?_;refine wpAnyH_ready (rs := [13]) (by kernel_rfl) (by simp) ?_;refine wA rfl (fun KK hK => ?_) AllReadyH.nil
      go_simp;go_at_call 106;refine (fU.out _ eG.out).mono ?_;rintro e w9 hp;obtain ⟨rfl, dL, v2, h9⟩ := kU.out _ e w9 eG.out hp;have H9 := Lh h9;clear hp h9;refine hK.out _ _ dL (fun dh => ?_);clear hK KK;(try simp only [Act.put, pP]);refine wpAnyH_done (by kernel_rfl) ?_ _;go_wp2_with fail
      go_roundg gg
      case rel => exact ⟨i + 1, f || bn L y, T ++ KO, v2, by omega, by go_num, H9⟩
      case measure => omega
    |true =>
     subst JY
     by_cases k5 : Ky = 5
     ·obtain ⟨y0, ko, hv0⟩ := Iq nL (bi.symm.trans k5);have eU : 0 < y.kids.length := by rw [ko]; simp [Rx.kids]
      have lF : m2 = 1 := by rw [(yQ.out wr (Below.refl _ _)).o.mlen, ko]; rfl
      obtain ⟨b3, o3, hB3⟩ := (yQ.out wr (Below.refl _ _)).kids.1.place eU;subst hB3 lF;obtain ⟨A3, n3, c3, B3, m3, d3, hrg3, eF⟩ := (yQ.out wr (Below.refl _ _)).kids.1.kid (i := 0) eU;rw [show av y.kids 0 = y0 by rw [ko]; rfl] at hrg3 eF;obtain ⟨K3, hK3⟩ := eX y0.kind;rw [<- hK3, Nat.zero_mul, Nat.add_zero] at hrg3;have HR0 := LH (∀ W, Bw wr W -> W.rangeAt b3 o3 (zV K3 A3 n3 c3 B3 m3 d3)) fun W hb k u hu => by
       have h1 := hrg3 k u hu;exact (hb.cell (p := ⟨b3, o3 + k, none⟩) (World.block_lt_of_cell? wr _ h1)).trans h1
      obtain ⟨U0, BD⟩ := eX (qj y0 n);have HI0 := LH (∀ W, (gZ wr W (zV Ky A2 n2 c2 (some ⟨b3, o3, none⟩) 1 d2)) -> Cz 136 #[.pointer (pt pb), .agg #[.int .i64 K3, .slice A3 n3 c3, .slice B3 m3 d3]] W (aU W U0)) fun W hw => by
       rw [hK3, BD];exact Jo y0 A3 B3 n3 c3 m3 d3 W (eF.below hw.2).o pb A n c (gB.out W hw.2)
      cases BC : U0 with
      |true =>
       subst BC;have BC : true = true := rfl;have hk2 : y0.kind = 2 := UX hv0 BD.symm;have uS : y0 ∈ y.kids := by rw [ko]; simp [Rx.kids]
       have gP : KO = [40] ++ aQ L y0 ++ [41] ++ [42] := by
         rw [mD, uf L y0, if_neg (by omega), if_pos hk2];unfold oO sI;rw [<- bi, k5, show av y.kids 0 = y0 by rw [ko]; rfl, <- lS, <- BD];simp
       have nK : bn L y = bn L y0 := by rw [ko, xz]; simp [Rx.kind, Rx.kids, ig]
       have fU := LH (∀ W, (gZ wr W (zV Ky A2 n2 c2 (some ⟨b3, o3, none⟩) 1 d2)) -> Cz 106 #[.pointer (pt pb), .agg #[.int .i64 K3, .slice A3 n3 c3, .slice B3 m3 d3], .bool true] W (aW pb v1 A n c (f || bn L y) (T ++ ([40] ++ aQ L y0 ++ [41])) W)) fun W hw => by
         have h4 := HI.out.1.below hw.2;rw [nK];exact vT (JR.out y bY y0 uS) hK3 h4.1 (iK.out v1 W h4) (eF.below hw.2) (by rw [gP] at hlen; simp at hlen; omega)
       have uR := LH (∀ W e w7, (gZ wr W (zV Ky A2 n2 c2 (some ⟨b3, o3, none⟩) 1 d2)) -> aW pb v1 A n c (f || bn L y) (T ++ ([40] ++ aQ L y0 ++ [41])) W e w7 -> e = .returned (.tuple #[]) /\ ∃ v2, bU pb v A n c w (f || bn L y) (T ++ ([40] ++ aQ L y0 ++ [41])) v2 w7 /\ Cz 107 #[.pointer (pt pb), .int .u8 42] w7 (aW pb v2 A n c (f || bn L y) (T ++ ([40] ++ aQ L y0 ++ [41]) ++ [42]) w7)) fun W e w7 hw hp => by
         obtain ⟨he, v2, h9⟩ := (HI.out.1.below hw.2).step hp;exact ⟨he, v2, h9, mH w7 h9.1 42 (by rw [gP] at hlen; simp at hlen ⊢; omega)⟩
       have nM := LH (∀ v2 w7 e w8, bU pb v A n c w (f || bn L y) (T ++ ([40] ++ aQ L y0 ++ [41])) v2 w7 -> aW pb v2 A n c (f || bn L y) (T ++ ([40] ++ aQ L y0 ++ [41]) ++ [42]) w7 e w8 -> e = .returned (.tuple #[]) /\ ∃ v3, bU pb v A n c w (f || bn L y) (T ++ KO) v3 w8 /\ (T ++ KO) ++ jv L (qX L ks (i + 1)) (ks.drop (i + 1)) = t ++ jv L false ks /\ ((f || bn L y) || ig L (ks.drop (i + 1))) = (fl || ig L ks)) fun v2 w7 e w8 h7 hp => by
         obtain ⟨he, v3, h9⟩ := h7.step hp;rw [show T ++ ([40] ++ aQ L y0 ++ [41]) ++ [42] = T ++ KO by rw [gP]; simp] at h9;refine ⟨he, v3, h9, ?_, ?_⟩
         · rw [<- HI.out.2.1, bX.out]; simp
         · rw [<- HI.out.2.2, Gm aH, hy, Bool.or_assoc]
       have PH : (Ky == 5) = true := bT (by omega);clear hlen lS aH hy bY ax bi nL hrg hpb mD hap hU tT;clear k5 aZ gP hk2 uS nK hrg3 eF hK3 BD ko hv0 BC
       go_upto_region 3 with (first
         | (refine aG rfl (.tmp 12) rfl b (o + i * 3) rfl Ky A2 (some ⟨b3, o3, none⟩) n2 c2 1 d2 aP.out ?_)
         | (refine wB rfl 25 (.tmp 5) (.tmp 13) rfl wr.heap.size 0 rfl (zV Ky A2 n2 c2 (some ⟨b3, o3, none⟩) 1 d2) rfl (ae.new' wr zL _ 25 rfl) 3 au ?_; intro w4 ag; have aA := LH (ae w4 wr.heap.size (zV Ky A2 n2 c2 (some ⟨b3, o3, none⟩) 1 d2) 25 /\ Bw wr w4) (dC ag); clear ag; ))
       go_upto_region 4 with (first
         | (refine lY (by rfl) (.tmp 21) rfl b (o + j * 3) rfl xg A5 B5 n5 c5 m5 d5 (Ap.out w4 aA.out.2) ?_)
         | ((with_reducible refine (aaa.out w4 aA.out).mono ?_); rintro e w5 hp; obtain ⟨rfl, bq⟩ := aV hp; have H5 := LH (gZ wr w5 (zV Ky A2 n2 c2 (some ⟨b3, o3, none⟩) 1 d2)) ⟨aA.out.1.below bq aA.out.1.lt, aA.out.2.trans (bq.mono aA.out.2.size)⟩; have rE := (gD.out _ H5.out.1).1; have Et := H5.out.1.cell (j := 2) rfl; clear hp bq))
       go_upto_region 5 with (first
         | (refine lY (by rfl) (.tmp 35) rfl b3 o3 rfl K3 A3 B3 n3 c3 m3 d3 (HR0.out w5 H5.out.2) ?_)
         | ((with_reducible refine (HI0.out w5 H5.out).mono ?_); rintro e w6 hp; obtain ⟨rfl, eB⟩ := aV hp; have H6 := LH (gZ wr w6 (zV Ky A2 n2 c2 (some ⟨b3, o3, none⟩) 1 d2)) ⟨H5.out.1.below eB H5.out.1.lt, H5.out.2.trans (eB.mono H5.out.2.size)⟩; have hk6 := (gD.out _ H6.out.1).1; have PU := H6.out.1.cell (j := 2) rfl; clear hp eB))
       have PU := H6.out.1.cell (j := 2) rfl
       go_wp2_with (first
         | (refine aG rfl (.tmp 42) rfl b3 (o3) rfl K3 A3 B3 n3 c3 m3 d3 (HR0.out w6 H6.out.2) ?_)
         | ((with_reducible refine (fU.out w6 H6.out).mono ?_); rintro e w7 hp; obtain ⟨rfl, v2, h7, hc7⟩ := uR.out w6 e w7 H6.out hp; have H7 := Lh h7; have HC7 := Lh hc7; clear hp h7 hc7)
         | ((with_reducible refine HC7.out.mono ?_); rintro e w8 hp; obtain ⟨rfl, v3, h8⟩ := nM.out v2 w7 e w8 H7.out hp; have H8 := Lh h8; clear hp h8))
       go_roundg gg
       case rel => exact ⟨i + 1, f || bn L y, T ++ KO, v3, by omega, by go_num, H8⟩
       case measure => omega
      |false =>
       subst BC;have BC : false = false := rfl;have hst : sI L y = false := by unfold sI; rw [show av y.kids 0 = y0 by rw [ko]; rfl, <- lS, <- BD]; simp
       have k4 : Ky ≠ 4 := by omega
       have PH : (Ky == 5) = true := bT (by omega);have gP : KO = if U = true then [40] ++ aQ L y ++ [41] else aQ L y := by rw [mD]; unfold oO; rw [hst, <- bi, hU, lS]; simp [k4]
       have fU := LH (∀ W, (gZ wr W (zV Ky A2 n2 c2 (some ⟨b3, o3, none⟩) 1 d2)) -> Cz 106 #[.pointer (pt pb), .agg #[.int .i64 Ky, .slice A2 n2 c2, .slice (some ⟨b3, o3, none⟩) 1 d2], .bool U] W (aW pb v1 A n c (f || bn L y) (T ++ KO) W)) fun W hw => by
         have h4 := HI.out.1.below hw.2;rw [gP]
         cases EX : U with
         | true =>
           rw [if_pos rfl];exact vT (dH.out y bY) bi h4.1 (iK.out v1 W h4) ((l5 ax (Below.refl _ _) HI.out.1.2.1 HI.out.1.2.2).below hw.2) (by rw [gP, EX, if_pos rfl] at hlen; simp at hlen; omega)
         | false =>
           rw [if_neg (by decide)];exact BR (dH.out y bY) bi h4.1 (iK.out v1 W h4) ((l5 ax (Below.refl _ _) HI.out.1.2.1 HI.out.1.2.2).below hw.2) (by rw [gP, EX, if_neg (by decide)] at hlen; omega)
       have uO : (Ky == 4) = false := bF (by omega);clear gP hst;clear k4;clear hlen lS aH hy bY ax bi nL hrg hpb mD hap hU tT;clear aZ k5 hrg3 eF hK3 BD ko hv0 BC
       go_upto_region 3 with (first
         | (refine aG rfl (.tmp 12) rfl b (o + i * 3) rfl Ky A2 (some ⟨b3, o3, none⟩) n2 c2 1 d2 aP.out ?_)
         | (refine wB rfl 25 (.tmp 5) (.tmp 13) rfl wr.heap.size 0 rfl (zV Ky A2 n2 c2 (some ⟨b3, o3, none⟩) 1 d2) rfl (ae.new' wr zL _ 25 rfl) 3 au ?_; intro w4 ag; have aA := LH (ae w4 wr.heap.size (zV Ky A2 n2 c2 (some ⟨b3, o3, none⟩) 1 d2) 25 /\ Bw wr w4) (dC ag); clear ag; ))
       go_upto_region 4 with (first
         | (refine lY (by rfl) (.tmp 21) rfl b (o + j * 3) rfl xg A5 B5 n5 c5 m5 d5 (Ap.out w4 aA.out.2) ?_)
         | ((with_reducible refine (aaa.out w4 aA.out).mono ?_); rintro e w5 hp; obtain ⟨rfl, bq⟩ := aV hp; have H5 := LH (gZ wr w5 (zV Ky A2 n2 c2 (some ⟨b3, o3, none⟩) 1 d2)) ⟨aA.out.1.below bq aA.out.1.lt, aA.out.2.trans (bq.mono aA.out.2.size)⟩; have rE := (gD.out _ H5.out.1).1; have Et := H5.out.1.cell (j := 2) rfl; clear hp bq))
       go_upto_region 7 with (first
         | (refine lY (by rfl) (.tmp 35) rfl b3 o3 rfl K3 A3 B3 n3 c3 m3 d3 (HR0.out w5 H5.out.2) ?_)
         | ((with_reducible refine (HI0.out w5 H5.out).mono ?_); rintro e w6 hp; obtain ⟨rfl, eB⟩ := aV hp; have H6 := LH (gZ wr w6 (zV Ky A2 n2 c2 (some ⟨b3, o3, none⟩) 1 d2)) ⟨H5.out.1.below eB H5.out.1.lt, H5.out.2.trans (eB.mono H5.out.2.size)⟩; have hk6 := (gD.out _ H6.out.1).1; have PU := H6.out.1.cell (j := 2) rfl; clear hp eB))
       have eG := LH (gZ wr w6.drew (zV Ky A2 n2 c2 (some ⟨b3, o3, none⟩) 1 d2)) ⟨H6.out.1.below (below_drewN (Below.refl _ _) 1) H6.out.1.lt, H6.out.2.trans (below_drewN (Below.refl _ _) 1 |>.mono H6.out.2.size)⟩;refine wp_region_held_drew (S := fun w' => w'.cell? ⟨wr.heap.size, 0, none⟩ = some (.int .i64 Ky) /\ w'.rangeAt wr.heap.size 0 (zV Ky A2 n2 c2 (some ⟨b3, o3, none⟩) 1 d2)) (by kernel_rfl) ((gD.out _ eG.out.1)) (fun cO => ?_);refine aL 0 ?_;refine wX 1 rfl (yieldsIf_load_mid (by rfl) _ _ rfl _ _ rfl _ _ (fun w h => h.2) Tryz.underlying25 rfl au) ?_;refine aL 2 ?_;refine aL 3 ?_;refine aL 4 ?_;refine aL 5 ?_;refine aL 6 ?_;refine aL 7 ?_;refine aL 8 ?_;refine wX 9 rfl (yieldsIf_load_mid (by rfl) _ _ rfl _ _ rfl _ _ (fun w h => h.2) Tryz.underlying25 rfl au) ?_;refine wpAnyH_ready (rs := [10]) (by kernel_rfl) (by simp) ?_;refine wA rfl (fun KK hK => ?_) AllReadyH.nil
       go_simp;go_at_call 136;refine (bR.out _ eG.out).mono ?_;rintro e w8 hp;obtain ⟨rfl, aK⟩ := aV hp;have uB := LH (gZ wr w8 (zV Ky A2 n2 c2 (some ⟨b3, o3, none⟩) 1 d2)) ⟨eG.out.1.below aK eG.out.1.lt, eG.out.2.trans (aK.mono eG.out.2.size)⟩;clear hp aK;refine hK.out _ _ (gD.out _ uB.out.1) (fun hS1 => ?_);clear hK KK cO;(try simp only [Act.put, pP]);refine aL 11 ?_;refine aL 12 ?_;refine wpAnyH_ready (rs := [13]) (by kernel_rfl) (by simp) ?_;refine wA rfl (fun KK hK => ?_) AllReadyH.nil
       go_simp;go_at_call 106;refine (fU.out _ uB.out).mono ?_;rintro e w9 hp;obtain ⟨rfl, dL, v2, h9⟩ := kU.out _ e w9 uB.out hp;have H9 := Lh h9;clear hp h9;refine hK.out _ _ dL (fun dh => ?_);clear hK KK;(try simp only [Act.put, pP]);refine wpAnyH_done (by kernel_rfl) ?_ _;go_wp2_with fail
       go_roundg gg
       case rel => exact ⟨i + 1, f || bn L y, T ++ KO, v2, by omega, by go_num, H9⟩
       case measure => omega
     ·have hst : sI L y = false := by unfold sI; rw [<- bi, dF k5]; rfl
      have PH : (Ky == 5) = false := bF (by omega)
      by_cases k4 : Ky = 4
      ·clear hst;have gP : KO = [40] ++ aQ L y ++ [41] := by rw [mD]; unfold oO sI; rw [<- bi, k4]; simp
       have fU := LH (∀ W, (gZ wr W (zV Ky A2 n2 c2 B2 m2 d2)) -> Cz 106 #[.pointer (pt pb), .agg #[.int .i64 Ky, .slice A2 n2 c2, .slice B2 m2 d2], .bool true] W (aW pb v1 A n c (f || bn L y) (T ++ KO) W)) fun W hw => by
         have h4 := HI.out.1.below hw.2;rw [gP];exact vT (dH.out y bY) bi h4.1 (iK.out v1 W h4) ((l5 ax (Below.refl _ _) HI.out.1.2.1 HI.out.1.2.2).below hw.2) (by rw [gP] at hlen; simp at hlen; omega)
       have uO : (Ky == 4) = true := bT (by omega);clear gP;clear k4;clear hlen lS aH hy bY ax bi nL hrg hpb mD hap hU tT;clear aZ k5
       go_upto_region 3 with (first
         | (refine aG rfl (.tmp 12) rfl b (o + i * 3) rfl Ky A2 B2 n2 c2 m2 d2 aP.out ?_)
         | (refine wB rfl 25 (.tmp 5) (.tmp 13) rfl wr.heap.size 0 rfl (zV Ky A2 n2 c2 B2 m2 d2) rfl (ae.new' wr zL _ 25 rfl) 3 au ?_; intro w4 ag; have aA := LH (ae w4 wr.heap.size (zV Ky A2 n2 c2 B2 m2 d2) 25 /\ Bw wr w4) (dC ag); clear ag; ))
       go_upto_region 4 with (first
         | (refine lY (by rfl) (.tmp 21) rfl b (o + j * 3) rfl xg A5 B5 n5 c5 m5 d5 (Ap.out w4 aA.out.2) ?_)
         | ((with_reducible refine (aaa.out w4 aA.out).mono ?_); rintro e w5 hp; obtain ⟨rfl, bq⟩ := aV hp; have H5 := LH (gZ wr w5 (zV Ky A2 n2 c2 B2 m2 d2)) ⟨aA.out.1.below bq aA.out.1.lt, aA.out.2.trans (bq.mono aA.out.2.size)⟩; have rE := (gD.out _ H5.out.1).1; have Et := H5.out.1.cell (j := 2) rfl; clear hp bq))
       go_upto_region 7 with fail
       have eG := LH (gZ wr w5.drew (zV Ky A2 n2 c2 B2 m2 d2)) ⟨H5.out.1.below (below_drewN (Below.refl _ _) 1) H5.out.1.lt, H5.out.2.trans (below_drewN (Below.refl _ _) 1 |>.mono H5.out.2.size)⟩;refine wp_region_held_drew (S := fun w' => w'.cell? ⟨wr.heap.size, 0, none⟩ = some (.int .i64 Ky) /\ w'.rangeAt wr.heap.size 0 (zV Ky A2 n2 c2 B2 m2 d2)) (by kernel_rfl) ((gD.out _ eG.out.1)) (fun cO => ?_);refine aL 0 ?_;refine wX 1 rfl (yieldsIf_load_mid (by rfl) _ _ rfl _ _ rfl _ _ (fun w h => h.2) Tryz.underlying25 rfl au) ?_;refine aL 2 ?_;refine aL 3 ?_;refine aL 4 ?_;refine aL 5 ?_;refine wS 6 ?_;refine wS 7 ?_;refine wS 8 ?_;refine wS 9 ?_;refine wS 10 ?_;refine wS 11 ?_;refine aL 12 ?_;refine wpAnyH_ready (rs := [13]) (by kernel_rfl) (by simp) ?_;refine wA rfl (fun KK hK => ?_) AllReadyH.nil
       go_simp;go_at_call 106;refine (fU.out _ eG.out).mono ?_;rintro e w9 hp;obtain ⟨rfl, dL, v2, h9⟩ := kU.out _ e w9 eG.out hp;have H9 := Lh h9;clear hp h9;refine hK.out _ _ dL (fun dh => ?_);clear hK KK;(try simp only [Act.put, pP]);refine wpAnyH_done (by kernel_rfl) ?_ _;go_wp2_with fail
       go_roundg gg
       case rel => exact ⟨i + 1, f || bn L y, T ++ KO, v2, by omega, by go_num, H9⟩
       case measure => omega
      ·skip
       have gP : KO = if U = true then [40] ++ aQ L y ++ [41] else aQ L y := by rw [mD]; unfold oO; rw [hst, <- bi, hU, lS]; simp [k4]
       have fU := LH (∀ W, (gZ wr W (zV Ky A2 n2 c2 B2 m2 d2)) -> Cz 106 #[.pointer (pt pb), .agg #[.int .i64 Ky, .slice A2 n2 c2, .slice B2 m2 d2], .bool U] W (aW pb v1 A n c (f || bn L y) (T ++ KO) W)) fun W hw => by
         have h4 := HI.out.1.below hw.2;rw [gP]
         cases EX : U with
         | true =>
           rw [if_pos rfl];exact vT (dH.out y bY) bi h4.1 (iK.out v1 W h4) ((l5 ax (Below.refl _ _) HI.out.1.2.1 HI.out.1.2.2).below hw.2) (by rw [gP, EX, if_pos rfl] at hlen; simp at hlen; omega)
         | false =>
           rw [if_neg (by decide)];exact BR (dH.out y bY) bi h4.1 (iK.out v1 W h4) ((l5 ax (Below.refl _ _) HI.out.1.2.1 HI.out.1.2.2).below hw.2) (by rw [gP, EX, if_neg (by decide)] at hlen; omega)
       have uO : (Ky == 4) = false := bF (by omega);clear gP hst;clear k4;clear hlen lS aH hy bY ax bi nL hrg hpb mD hap hU tT;clear aZ k5
       go_upto_region 3 with (first
         | (refine aG rfl (.tmp 12) rfl b (o + i * 3) rfl Ky A2 B2 n2 c2 m2 d2 aP.out ?_)
         | (refine wB rfl 25 (.tmp 5) (.tmp 13) rfl wr.heap.size 0 rfl (zV Ky A2 n2 c2 B2 m2 d2) rfl (ae.new' wr zL _ 25 rfl) 3 au ?_; intro w4 ag; have aA := LH (ae w4 wr.heap.size (zV Ky A2 n2 c2 B2 m2 d2) 25 /\ Bw wr w4) (dC ag); clear ag; ))
       go_upto_region 4 with (first
         | (refine lY (by rfl) (.tmp 21) rfl b (o + j * 3) rfl xg A5 B5 n5 c5 m5 d5 (Ap.out w4 aA.out.2) ?_)
         | ((with_reducible refine (aaa.out w4 aA.out).mono ?_); rintro e w5 hp; obtain ⟨rfl, bq⟩ := aV hp; have H5 := LH (gZ wr w5 (zV Ky A2 n2 c2 B2 m2 d2)) ⟨aA.out.1.below bq aA.out.1.lt, aA.out.2.trans (bq.mono aA.out.2.size)⟩; have rE := (gD.out _ H5.out.1).1; have Et := H5.out.1.cell (j := 2) rfl; clear hp bq))
       go_upto_region 7 with fail
       have eG := LH (gZ wr w5.drew (zV Ky A2 n2 c2 B2 m2 d2)) ⟨H5.out.1.below (below_drewN (Below.refl _ _) 1) H5.out.1.lt, H5.out.2.trans (below_drewN (Below.refl _ _) 1 |>.mono H5.out.2.size)⟩;refine wp_region_held_drew (S := fun w' => w'.cell? ⟨wr.heap.size, 0, none⟩ = some (.int .i64 Ky) /\ w'.rangeAt wr.heap.size 0 (zV Ky A2 n2 c2 B2 m2 d2)) (by kernel_rfl) ((gD.out _ eG.out.1)) (fun cO => ?_);refine aL 0 ?_;refine wX 1 rfl (yieldsIf_load_mid (by rfl) _ _ rfl _ _ rfl _ _ (fun w h => h.2) Tryz.underlying25 rfl au) ?_;refine aL 2 ?_;refine aL 3 ?_;refine aL 4 ?_;refine aL 5 ?_;refine aL 6 ?_;refine aL 7 ?_;refine aL 8 ?_;refine wX 9 rfl (yieldsIf_load_mid (by rfl) _ _ rfl _ _ rfl _ _ (fun w h => h.2) Tryz.underlying25 rfl au) ?_;refine wpAnyH_ready (rs := [10]) (by kernel_rfl) (by simp) ?_;refine wA rfl (fun KK hK => ?_) AllReadyH.nil
       go_simp;go_at_call 136;refine (bR.out _ eG.out).mono ?_;rintro e w8 hp;obtain ⟨rfl, aK⟩ := aV hp;have uB := LH (gZ wr w8 (zV Ky A2 n2 c2 B2 m2 d2)) ⟨eG.out.1.below aK eG.out.1.lt, eG.out.2.trans (aK.mono eG.out.2.size)⟩;clear hp aK;refine hK.out _ _ (gD.out _ uB.out.1) (fun hS1 => ?_);clear hK KK cO;(try simp only [Act.put, pP]);refine aL 11 ?_;refine aL 12 ?_;refine wpAnyH_ready (rs := [13]) (by kernel_rfl) (by simp) ?_;refine wA rfl (fun KK hK => ?_) AllReadyH.nil
       go_simp;go_at_call 106;refine (fU.out _ uB.out).mono ?_;rintro e w9 hp;obtain ⟨rfl, dL, v2, h9⟩ := kU.out _ e w9 uB.out hp;have H9 := Lh h9;clear hp h9;refine hK.out _ _ dL (fun dh => ?_);clear hK KK;(try simp only [Act.put, pP]);refine wpAnyH_done (by kernel_rfl) ?_ _;go_wp2_with fail
       go_roundg gg
       case rel => exact ⟨i + 1, f || bn L y, T ++ KO, v2, by omega, by go_num, H9⟩
       case measure => omega
  ·obtain rfl : m = i := by omega
   have HF := LH (aW pb v A n c (fl || ig L ks) (t ++ jv L false ks) w (.returned (.tuple #[])) wr) (by
    have h3 := HI.out.2.1;have h4 := HI.out.2.2;rw [HX.out.1, List.drop_length] at h3 h4;rw [jv, List.append_nil] at h3;rw [ig, Bool.or_false] at h4;have h5 := HI.out.1;rw [h3, h4] at h5;exact h5.post)
   go_wp2_with fail;go_end0;exact HF.out
theorem VY (r : Rx) (hv : aC r = true) (ih : ∀ x ∈ r.kids, sO x) (bV : ∀ x ∈ r.kids, ∀ y ∈ x.kids, sO y) : sO r := by
 intro L pb v A n c fl t w Ky A2 B2 n2 c2 m2 d2 hK h hL hr ht;have hb1 : Below w.heap.size w (w.alloc (.cells #[.int .i64 Ky, .slice A2 n2 c2, .slice B2 m2 d2] 25)) := ai w _;have HX : Hid (ak (fun b => b ≠ pb /\ some b ≠ v.ownBlock) w r A2 n2 c2 B2 m2 d2 /\ Ky = r.kind /\ aC r = true /\ t.length + (aQ L r).length <= 1000000000 /\ t.length <= 1000000000) := Lh ⟨hr, hK, hv, ht, by omega⟩;have dH := Lh ih;have JR := Lh bV;have HP := Lh h;have l7 : Hid (gH pb v A n c fl t (w.alloc (.cells #[.int .i64 Ky, .slice A2 n2 c2, .slice B2 m2 d2] 25))) := Lh (h.below hb1);have HL1 : Hid (jr (w.alloc (.cells #[.int .i64 Ky, .slice A2 n2 c2, .slice B2 m2 d2] 25)) pb A n c L) := Lh (hL.below hb1);have lq : Hid (ak (fun b => b ≠ pb /\ some b ≠ v.ownBlock) (w.alloc (.cells #[.int .i64 Ky, .slice A2 n2 c2, .slice B2 m2 d2] 25)) r A2 n2 c2 B2 m2 d2) := Lh (hr.below hb1);have HB : Hid (ae (w.alloc (.cells #[.int .i64 Ky, .slice A2 n2 c2, .slice B2 m2 d2] 25)) w.heap.size [.int .i64 Ky, .slice A2 n2 c2, .slice B2 m2 d2] 25 /\ Below w.heap.size w (w.alloc (.cells #[.int .i64 Ky, .slice A2 n2 c2, .slice B2 m2 d2] 25))) := Lh ⟨ae.at w _ _ 25 _ rfl rfl, hb1⟩;have hc0 : (w.alloc (.cells #[.int .i64 Ky, .slice A2 n2 c2, .slice B2 m2 d2] 25)).cell? ⟨w.heap.size, 0, none⟩ = some (.int .i64 Ky) := HB.out.1.cell (j := 0) rfl;have hc1 : (w.alloc (.cells #[.int .i64 Ky, .slice A2 n2 c2, .slice B2 m2 d2] 25)).cell? ⟨w.heap.size, 1, none⟩ = some (.slice A2 n2 c2) := HB.out.1.cell (j := 1) rfl;have hc2 : (w.alloc (.cells #[.int .i64 Ky, .slice A2 n2 c2, .slice B2 m2 d2] 25)).cell? ⟨w.heap.size, 2, none⟩ = some (.slice B2 m2 d2) := HB.out.1.cell (j := 2) rfl;clear ih bV h hL hr ht hK hv hb1
 by_cases k0 : Ky = 0
 ·skip
  have jh : Hid (t ++ aQ L r = t ++ [123, 125] /\ (fl || bn L r) = fl) := Lh ⟨by rw [uf L r, if_pos (by rw [<- HX.out.2.1]; exact k0)], by rw [xz, if_neg (by have := HX.out.2.1; omega), if_neg (by have := HX.out.2.1; omega), Bool.or_false]⟩;rw [jh.out.1, jh.out.2];obtain ⟨i0, aZ, hz0, hz1, hz2⟩ := info_parts KF;obtain ⟨B5, d5, hv, _⟩ := Rd.of_own HP.out.row;obtain ⟨N5, bD⟩ : ∃ N, N = t.length := ⟨_, rfl⟩;rw [<- bD] at hv;subst hv;have hb0 : (w.alloc (.cells #[.int .i64 Ky, .slice A2 n2 c2, .slice B2 m2 d2] 25)).cell? ⟨pb, 1, none⟩ = some (.slice B5 N5 d5) := l7.out.box.cell (j := 1) rfl;have HO : Hid ((w.alloc (.cells #[.int .i64 Ky, .slice A2 n2 c2, .slice B2 m2 d2] 25)).ownsRow (pb + 1) 5 1 (.slice B5 N5 d5) N5 (bs t) /\ pb < (w.alloc (.cells #[.int .i64 Ky, .slice A2 n2 c2, .slice B2 m2 d2] 25)).heap.size) := Lh ⟨by have h1 := l7.out.row; rwa [<- bD] at h1, l7.out.lt.1⟩;have oI : Hid (∀ W : World, Src Tryz.prog i0.size 9 (.string ⟨#[123, 125]⟩) 2 (bs [123, 125]) W) := Lh fun W => by
   have h1 := Src.ofString (w := W) Tryz.underlying9 (tb [123, 125]);rw [kI] at h1;rw [hz1];exact h1
  have iM : Hid (∀ v5 w5, w5.ownsRow (pb + 1) 5 1 v5 (N5 + 2) (bs t ++ bs [123, 125]) -> (w.alloc (.cells #[.int .i64 Ky, .slice A2 n2 c2, .slice B2 m2 d2] 25)).grownBy w5 (Value.slice B5 N5 d5).ownBlock -> (v5.ownBlock = (Value.slice B5 N5 d5).ownBlock \/ v5.ownBlock = some (w.alloc (.cells #[.int .i64 Ky, .slice A2 n2 c2, .slice B2 m2 d2] 25)).heap.size) -> ae w5 pb [.slice A n c, .slice B5 N5 d5, .bool fl] 92 /\ ∀ w9, aT w5 w9 pb [.slice A n c, v5, .bool fl] 92 -> aW pb (.slice B5 N5 d5) A n c fl (t ++ [123, 125]) w (.returned (.tuple #[])) w9) := Lh fun v5 w5 hown hg hat => by
   rw [bD] at hown;have h1 := HP.out.app (ys := [123, 125]) (ai w _) hown hg hat;exact ⟨h1.1, fun w9 hst => ⟨rfl, v5, h1.2 w9 hst⟩⟩
  have hs1 : N5 + 2 <= maxLen := by have := HX.out.2.2.2.2; unfold maxLen; omega
  have hs2 : (N5 + 2) * 1 <= 140737488355328 := by have := HX.out.2.2.2.2; omega
  have pJ : (Ky == 0) = true := bT (by omega);clear bD k0;go_enter Tryz.func72, Tryz.ntmps72
  go_wp2_with (first
   |(at_builtin; refine gW rfl (.tmp 12) (.const (.string ⟨#[123, 125]⟩)) 45 9 rfl (pb + 1) 5 i0 _ 1 1 Tryz.underlying45 aZ hz0 hz1 hz2 rfl _ _ _ rfl HO.out.1 _ 2 (bs [123, 125]) rfl (oI.out _) hs1 hs2 (by have := HO.out.2; omega) ?_; intro v9 w9 dJ dN fe; obtain ⟨A6, c6, fD, _⟩ := Rd.of_own dJ; subst fD; have aR := Lh (iM.out _ _ dJ dN fe); clear dJ dN fe)
   |(refine xA rfl 45 (.tmp 15) (.tmp 13) rfl pb 1 rfl A6 (N5 + 2) c6 rfl aR.out.1 (by simp) KC ?_; intro w8 oz; have bM := Lh (aR.out.2 w8 oz); clear oz))
  go_end0;exact bM.out
 ·by_cases k2 : Ky = 2
  ·skip
   obtain ⟨s, hs, Ke⟩ : ∃ s, r = .mk 2 s [] /\ fO s = true := by
    have h1 := HX.out.2.1
    rcases kw HX.out.2.2.1 with e | e | ⟨s, e, hs⟩ | ⟨_, e, _⟩ | ⟨_, e, _⟩ | ⟨_, e, _⟩
    all_goals first | exact ⟨s, e, hs⟩ | (rw [e] at h1; simp only [Rx.kind] at h1; omega)
   have jh : Hid (aQ L r = sQ L s /\ bn L r = Cj L s) := Lh ⟨by rw [uf L r, if_neg (by rw [<- HX.out.2.1]; exact k0), if_pos (by rw [<- HX.out.2.1]; exact k2), hs]; rfl, by rw [xz, if_pos (by have := HX.out.2.1; omega), hs]; rfl⟩;have nH : r.syms = s := by rw [hs]; rfl
   have hne : s ≠ [] := (oh.1 Ke).1;obtain ⟨b, o, hA, hcs⟩ := lq.out.o.syms.open (by rw [nH]; intro e; exact hne (by simpa [iv] using e));have hpA := lq.out.syms (by rw [nH]; exact hne) b o hA;subst hA;have iw : Hid (Calls Tryz.prog 103 #[.pointer (some ⟨pb, 0, none⟩), .slice (some ⟨b, o, none⟩) n2 c2] (w.alloc (.cells #[.int .i64 Ky, .slice (some ⟨b, o, none⟩) n2 c2, .slice B2 m2 d2] 25)) (aW pb v A n c (fl || bn L r) (t ++ aQ L r) (w.alloc (.cells #[.int .i64 Ky, .slice (some ⟨b, o, none⟩) n2 c2, .slice B2 m2 d2] 25)))) := Lh (by
    rw [jh.out.1, jh.out.2];exact V6 _ l7.out L HL1.out s b o n2 c2 (by rw [lq.out.o.nlen, nH]) lq.out.o.ncap lq.out.o.cmax (by rw [<- nH]; exact hcs) hpA.1 hpA.2 (fun x hx => ((oh.1 Ke).2.2 x hx).1) hne (by have := HX.out.2.2.2.1; rw [jh.out.1] at this; exact this))
   clear hs Ke nH hne hcs hpA;have pJ : (Ky == 0) = false := bF (by omega);have sF : (Ky == 2) = true := bT (by omega);clear k0 k2;go_enter Tryz.func72, Tryz.ntmps72
   go_wp2_with ((with_reducible refine iw.out.mono ?_); rintro e x4 hp; have H4 := Lh (uk HB.out.2 hp); obtain ⟨rfl, _⟩ := oW hp; clear hp)
   go_end0;exact H4.out
  ·by_cases k3 : Ky = 3
   ·skip
    have jh : Hid (aQ L r = jv L false r.kids /\ bn L r = ig L r.kids) := Lh ⟨by rw [uf L r, if_neg (by rw [<- HX.out.2.1]; exact k0), if_neg (by rw [<- HX.out.2.1]; exact k2), if_pos (by rw [<- HX.out.2.1]; exact k3)], by rw [xz, if_neg (by have := HX.out.2.1; omega), if_pos (by have := HX.out.2.1; omega)]⟩;have iw : Hid (Calls Tryz.prog 104 #[.pointer (some ⟨pb, 0, none⟩), .slice B2 m2 d2] (w.alloc (.cells #[.int .i64 Ky, .slice A2 n2 c2, .slice B2 m2 d2] 25)) (aW pb v A n c (fl || bn L r) (t ++ aQ L r) (w.alloc (.cells #[.int .i64 Ky, .slice A2 n2 c2, .slice B2 m2 d2] 25)))) := Lh (by
      rw [jh.out.1, jh.out.2];exact Uu _ l7.out L HL1.out r.kids dH.out JR.out (jL HX.out.2.2.1) B2 m2 d2 lq.out.o.mlen lq.out.o.mcap lq.out.o.dmax lq.out.kids.1 lq.out.kids.2 (by have := HX.out.2.2.2.1; rw [jh.out.1] at this; exact this))
    have pJ : (Ky == 0) = false := bF (by omega);have sF : (Ky == 2) = false := bF (by omega);have uG : (Ky == 3) = true := bT (by omega);clear k0 k2 k3;go_enter Tryz.func72, Tryz.ntmps72
    go_wp2_with ((with_reducible refine iw.out.mono ?_); rintro e x4 hp; have H4 := Lh (uk HB.out.2 hp); obtain ⟨rfl, _⟩ := oW hp; clear hp)
    go_end0;exact H4.out
   ·by_cases k4 : Ky = 4
    · skip
      have jh : Hid (aQ L r = iV L true r.kids /\ bn L r = ig L r.kids) := Lh ⟨by rw [uf L r, if_neg (by rw [<- HX.out.2.1]; exact k0), if_neg (by rw [<- HX.out.2.1]; exact k2), if_neg (by rw [<- HX.out.2.1]; exact k3), if_pos (by rw [<- HX.out.2.1]; exact k4)], by rw [xz, if_neg (by have := HX.out.2.1; omega), if_pos (by have := HX.out.2.1; omega)]⟩;have iw : Hid (Calls Tryz.prog 105 #[.pointer (some ⟨pb, 0, none⟩), .slice B2 m2 d2] (w.alloc (.cells #[.int .i64 Ky, .slice A2 n2 c2, .slice B2 m2 d2] 25)) (aW pb v A n c (fl || bn L r) (t ++ aQ L r) (w.alloc (.cells #[.int .i64 Ky, .slice A2 n2 c2, .slice B2 m2 d2] 25)))) := Lh (by
       rw [jh.out.1, jh.out.2];exact U7 _ l7.out L HL1.out r.kids dH.out B2 m2 d2 lq.out.o.mlen lq.out.o.mcap lq.out.o.dmax lq.out.kids.1 lq.out.kids.2 (by have := HX.out.2.2.2.1; rw [jh.out.1] at this; exact this))
      have pJ : (Ky == 0) = false := bF (by omega);have sF : (Ky == 2) = false := bF (by omega);have uG : (Ky == 3) = false := bF (by omega);have yD : (Ky == 4) = true := bT (by omega);clear k0 k2 k3 k4;go_enter Tryz.func72, Tryz.ntmps72
      go_wp2_with ((with_reducible refine iw.out.mono ?_); rintro e x4 hp; have H4 := Lh (uk HB.out.2 hp); obtain ⟨rfl, _⟩ := oW hp; clear hp)
      go_end0;exact H4.out
    · by_cases k5 : Ky = 5
      ·skip
       obtain ⟨y0, ko, hv0⟩ := Iq HX.out.2.2.1 (HX.out.2.1.symm.trans k5);have uS : y0 ∈ r.kids := by rw [ko]; simp [Rx.kids]
       have nK : bn L r = bn L y0 := by rw [ko, xz]; simp [Rx.kind, Rx.kids, ig]
       have eU : 0 < r.kids.length := by rw [ko]; simp [Rx.kids]
       have lF : m2 = 1 := by rw [lq.out.o.mlen, ko]; rfl
       obtain ⟨b3, o3, hB3⟩ := lq.out.kids.1.place eU;have hp3 := lq.out.kids.2 (by rw [ko]; simp [Rx.kids]) b3 o3 hB3;subst hB3 lF;obtain ⟨A3, n3, c3, B3, m3, d3, hrg3, eF⟩ := lq.out.kids.1.kid (i := 0) eU;rw [show av r.kids 0 = y0 by rw [ko]; rfl] at hrg3 eF;obtain ⟨K3, hK3⟩ : ∃ K, K = y0.kind := ⟨_, rfl⟩;rw [<- hK3, Nat.zero_mul, Nat.add_zero] at hrg3;have lX : Hid (Below (w.alloc (.cells #[.int .i64 Ky, .slice A2 n2 c2, .slice (some ⟨b3, o3, none⟩) 1 d2] 25)).heap.size (w.alloc (.cells #[.int .i64 Ky, .slice A2 n2 c2, .slice (some ⟨b3, o3, none⟩) 1 d2] 25)) (w.alloc (.cells #[.int .i64 Ky, .slice A2 n2 c2, .slice (some ⟨b3, o3, none⟩) 1 d2] 25)).drew) := Lh (below_drewN (Below.refl _ _) 1);have aP : Hid ((w.alloc (.cells #[.int .i64 Ky, .slice A2 n2 c2, .slice (some ⟨b3, o3, none⟩) 1 d2] 25)).drew.rangeAt b3 o3 [.int .i64 K3, .slice A3 n3 c3, .slice B3 m3 d3]) := Lh hrg3;have gB : Hid (w.heap.size ≠ pb /\ some w.heap.size ≠ v.ownBlock /\ b3 ≠ pb /\ some b3 ≠ v.ownBlock /\ b3 < (w.alloc (.cells #[.int .i64 Ky, .slice A2 n2 c2, .slice (some ⟨b3, o3, none⟩) 1 d2] 25)).drew.heap.size) := Lh ⟨by have := HP.out.lt.1; omega, fun e => by have := (HP.out.lt.2 _ e.symm).2; omega, hp3.1, hp3.2, World.block_lt_of_cell? _ _ (hrg3 0 _ rfl)⟩;have HB2 : Hid (ae (w.alloc (.cells #[.int .i64 Ky, .slice A2 n2 c2, .slice (some ⟨b3, o3, none⟩) 1 d2] 25)).drew w.heap.size [.int .i64 Ky, .slice A2 n2 c2, .slice (some ⟨b3, o3, none⟩) 1 d2] 25) := Lh (HB.out.1.below lX.out HB.out.1.lt);have oC : Hid (gH pb v A n c fl t (w.alloc (.cells #[.int .i64 Ky, .slice A2 n2 c2, .slice (some ⟨b3, o3, none⟩) 1 d2] 25)).drew) := Lh (l7.out.below lX.out);have HL2 : Hid (jr (w.alloc (.cells #[.int .i64 Ky, .slice A2 n2 c2, .slice (some ⟨b3, o3, none⟩) 1 d2] 25)).drew pb A n c L) := Lh (HL1.out.below lX.out);have jo : Hid ((fun w' => w'.cell? ⟨w.heap.size, 2, none⟩ = some (.slice (some ⟨b3, o3, none⟩) 1 d2) /\ w'.cell? ⟨b3, o3, none⟩ = some (.int .i64 K3) /\ w'.rangeAt b3 o3 [.int .i64 K3, .slice A3 n3 c3, .slice B3 m3 d3]) (w.alloc (.cells #[.int .i64 Ky, .slice A2 n2 c2, .slice (some ⟨b3, o3, none⟩) 1 d2] 25)).drew) := Lh ⟨HB2.out.cell (j := 2) rfl, aP.out 0 _ rfl, aP.out⟩
       clear hrg3 hp3
       by_cases q4 : K3 = 4
       ·skip
        have jh : Hid (aQ L r = ([40] ++ aQ L y0 ++ [41]) ++ [42]) := Lh (by rw [uf L r, if_neg (by rw [<- HX.out.2.1]; exact k0), if_neg (by rw [<- HX.out.2.1]; exact k2), if_neg (by rw [<- HX.out.2.1]; exact k3), if_neg (by rw [<- HX.out.2.1]; exact k4), if_pos (by rw [<- HX.out.2.1]; exact k5), ko, Rx.kids, wu, if_pos (.inl (by rw [<- hK3]; exact q4))]);have hlen : t.length + (([40] ++ aQ L y0 ++ [41]).length + 1) <= 1000000000 := by have h1 := HX.out.2.2.2.1; rw [jh.out] at h1; simp at h1 ⊢; omega
        have fU : Hid (Calls Tryz.prog 106 #[.pointer (some ⟨pb, 0, none⟩), .agg #[.int .i64 K3, .slice A3 n3 c3, .slice B3 m3 d3], .bool true] (w.alloc (.cells #[.int .i64 Ky, .slice A2 n2 c2, .slice (some ⟨b3, o3, none⟩) 1 d2] 25)).drew (aW pb v A n c (fl || bn L r) (t ++ ([40] ++ aQ L y0 ++ [41])) (w.alloc (.cells #[.int .i64 Ky, .slice A2 n2 c2, .slice (some ⟨b3, o3, none⟩) 1 d2] 25)).drew)) := Lh (by
         rw [nK];exact vT (dH.out y0 uS) hK3 oC.out HL2.out (eF.below lX.out) (by (try simp at hlen ⊢); omega))
        have uR : Hid (∀ e w7, aW pb v A n c (fl || bn L r) (t ++ ([40] ++ aQ L y0 ++ [41])) (w.alloc (.cells #[.int .i64 Ky, .slice A2 n2 c2, .slice (some ⟨b3, o3, none⟩) 1 d2] 25)).drew e w7 -> e = .returned (.tuple #[]) /\ (fun w' => w'.cell? ⟨w.heap.size, 2, none⟩ = some (.slice (some ⟨b3, o3, none⟩) 1 d2) /\ w'.cell? ⟨b3, o3, none⟩ = some (.int .i64 K3) /\ w'.rangeAt b3 o3 [.int .i64 K3, .slice A3 n3 c3, .slice B3 m3 d3]) w7 /\ ∃ v2, bU pb v A n c (w.alloc (.cells #[.int .i64 Ky, .slice A2 n2 c2, .slice (some ⟨b3, o3, none⟩) 1 d2] 25)).drew (fl || bn L r) (t ++ ([40] ++ aQ L y0 ++ [41])) v2 w7 /\ Calls Tryz.prog 107 #[.pointer (some ⟨pb, 0, none⟩), .int .u8 42] w7 (aW pb v2 A n c (fl || bn L r) (t ++ ([40] ++ aQ L y0 ++ [41]) ++ [42]) w7)) := Lh fun e w7 hp => by
         obtain ⟨he, v2, h9⟩ := (bU.refl oC.out).step hp;have hk := h9.2.1;exact ⟨he, ⟨(hk.blk (HB2.out) gB.out.1 gB.out.2.1).cell (j := 2) rfl, (hk.cell gB.out.2.2.2.2 gB.out.2.2.1 gB.out.2.2.2.1).trans (aP.out 0 _ rfl), fun j u hu => (hk.cell gB.out.2.2.2.2 gB.out.2.2.1 gB.out.2.2.2.1).trans (aP.out j u hu)⟩, v2, h9, mH w7 h9.1 42 (by (try simp at hlen ⊢); omega)⟩
        have nM : Hid (∀ v2 w7 e w8, bU pb v A n c (w.alloc (.cells #[.int .i64 Ky, .slice A2 n2 c2, .slice (some ⟨b3, o3, none⟩) 1 d2] 25)).drew (fl || bn L r) (t ++ ([40] ++ aQ L y0 ++ [41])) v2 w7 -> aW pb v2 A n c (fl || bn L r) (t ++ ([40] ++ aQ L y0 ++ [41]) ++ [42]) w7 e w8 -> e = .returned (.tuple #[]) /\ aW pb v A n c (fl || bn L r) (t ++ aQ L r) w (.returned (.tuple #[])) w8) := Lh fun v2 w7 e w8 h7 hp => by
         obtain ⟨he, v3, h9⟩ := h7.step hp;have h10 := uk (HB.out.2.trans (lX.out.mono HB.out.2.size)) h9.post;rw [jh.out, <- List.append_assoc];exact ⟨he, h10⟩
        have uO : (K3 == 4) = true := bT (by omega);have pJ : (Ky == 0) = false := bF (by omega);have sF : (Ky == 2) = false := bF (by omega);have uG : (Ky == 3) = false := bF (by omega);have yD : (Ky == 4) = false := bF (by omega);have DR : (Ky == 5) = true := bT (by omega);clear hlen hK3 eF ko uS nK q4;clear k0 k2 k3 k4 k5;go_enter Tryz.func72, Tryz.ntmps72
        go_upto_region 11 with fail
        refine wp_region_held_drew (S := fun w' => w'.cell? ⟨w.heap.size, 2, none⟩ = some (.slice (some ⟨b3, o3, none⟩) 1 d2) /\ w'.cell? ⟨b3, o3, none⟩ = some (.int .i64 K3) /\ w'.rangeAt b3 o3 [.int .i64 K3, .slice A3 n3 c3, .slice B3 m3 d3]) (by kernel_rfl) (jo.out) (fun cO => ?_);refine bJ 0 ?_;refine bJ 1 ?_;refine bJ 2 ?_;refine bJ 3 ?_;refine wX 4 rfl (yieldsIf_load_mid (by rfl) _ _ rfl _ _ rfl _ _ (fun w h => h.2.2) Tryz.underlying25 rfl au) ?_;refine bJ 5 ?_;refine bJ 6 ?_;refine bJ 7 ?_;refine bJ 8 ?_;refine bJ 9 ?_;refine bJ 10 ?_;refine bJ 11 ?_;refine wS 12 ?_;refine wS 13 ?_;refine wS 14 ?_;refine wS 15 ?_;refine wS 16 ?_;refine wS 17 ?_;refine bJ 18 ?_;refine wpAnyH_ready (rs := [19]) (by kernel_rfl) (by simp) ?_;refine wA rfl (fun KK hK => ?_) AllReadyH.nil
        go_simp;go_at_call 106;refine fU.out.mono ?_;rintro e w7 hp;obtain ⟨rfl, dL, v2, h9, rz⟩ := uR.out e w7 hp;have H9 := Lh h9;have Dl := Lh rz;clear hp h9 rz;refine hK.out _ _ dL (fun dh => ?_);clear hK KK;(try simp only [Act.put, pP]);refine wpAnyH_done (by kernel_rfl) ?_ _
        go_wp2_with ((with_reducible refine Dl.out.mono ?_); rintro e w8 hp; obtain ⟨rfl, h8⟩ := nM.out v2 w7 e w8 H9.out hp; have H8 := Lh h8; clear hp h8)
        go_end0;exact H8.out
       ·by_cases q3 : K3 = 3
        ·skip
         have jh : Hid (aQ L r = ([40] ++ aQ L y0 ++ [41]) ++ [42]) := Lh (by rw [uf L r, if_neg (by rw [<- HX.out.2.1]; exact k0), if_neg (by rw [<- HX.out.2.1]; exact k2), if_neg (by rw [<- HX.out.2.1]; exact k3), if_neg (by rw [<- HX.out.2.1]; exact k4), if_pos (by rw [<- HX.out.2.1]; exact k5), ko, Rx.kids, wu, if_pos (.inr (by rw [<- hK3]; exact q3))]);have hlen : t.length + (([40] ++ aQ L y0 ++ [41]).length + 1) <= 1000000000 := by have h1 := HX.out.2.2.2.1; rw [jh.out] at h1; simp at h1 ⊢; omega
         have fU : Hid (Calls Tryz.prog 106 #[.pointer (some ⟨pb, 0, none⟩), .agg #[.int .i64 K3, .slice A3 n3 c3, .slice B3 m3 d3], .bool true] (w.alloc (.cells #[.int .i64 Ky, .slice A2 n2 c2, .slice (some ⟨b3, o3, none⟩) 1 d2] 25)).drew (aW pb v A n c (fl || bn L r) (t ++ ([40] ++ aQ L y0 ++ [41])) (w.alloc (.cells #[.int .i64 Ky, .slice A2 n2 c2, .slice (some ⟨b3, o3, none⟩) 1 d2] 25)).drew)) := Lh (by
          rw [nK];exact vT (dH.out y0 uS) hK3 oC.out HL2.out (eF.below lX.out) (by (try simp at hlen ⊢); omega))
         have uR : Hid (∀ e w7, aW pb v A n c (fl || bn L r) (t ++ ([40] ++ aQ L y0 ++ [41])) (w.alloc (.cells #[.int .i64 Ky, .slice A2 n2 c2, .slice (some ⟨b3, o3, none⟩) 1 d2] 25)).drew e w7 -> e = .returned (.tuple #[]) /\ (fun w' => w'.cell? ⟨w.heap.size, 2, none⟩ = some (.slice (some ⟨b3, o3, none⟩) 1 d2) /\ w'.cell? ⟨b3, o3, none⟩ = some (.int .i64 K3) /\ w'.rangeAt b3 o3 [.int .i64 K3, .slice A3 n3 c3, .slice B3 m3 d3]) w7 /\ ∃ v2, bU pb v A n c (w.alloc (.cells #[.int .i64 Ky, .slice A2 n2 c2, .slice (some ⟨b3, o3, none⟩) 1 d2] 25)).drew (fl || bn L r) (t ++ ([40] ++ aQ L y0 ++ [41])) v2 w7 /\ Calls Tryz.prog 107 #[.pointer (some ⟨pb, 0, none⟩), .int .u8 42] w7 (aW pb v2 A n c (fl || bn L r) (t ++ ([40] ++ aQ L y0 ++ [41]) ++ [42]) w7)) := Lh fun e w7 hp => by
          obtain ⟨he, v2, h9⟩ := (bU.refl oC.out).step hp;have hk := h9.2.1;exact ⟨he, ⟨(hk.blk (HB2.out) gB.out.1 gB.out.2.1).cell (j := 2) rfl, (hk.cell gB.out.2.2.2.2 gB.out.2.2.1 gB.out.2.2.2.1).trans (aP.out 0 _ rfl), fun j u hu => (hk.cell gB.out.2.2.2.2 gB.out.2.2.1 gB.out.2.2.2.1).trans (aP.out j u hu)⟩, v2, h9, mH w7 h9.1 42 (by (try simp at hlen ⊢); omega)⟩
         have nM : Hid (∀ v2 w7 e w8, bU pb v A n c (w.alloc (.cells #[.int .i64 Ky, .slice A2 n2 c2, .slice (some ⟨b3, o3, none⟩) 1 d2] 25)).drew (fl || bn L r) (t ++ ([40] ++ aQ L y0 ++ [41])) v2 w7 -> aW pb v2 A n c (fl || bn L r) (t ++ ([40] ++ aQ L y0 ++ [41]) ++ [42]) w7 e w8 -> e = .returned (.tuple #[]) /\ aW pb v A n c (fl || bn L r) (t ++ aQ L r) w (.returned (.tuple #[])) w8) := Lh fun v2 w7 e w8 h7 hp => by
          obtain ⟨he, v3, h9⟩ := h7.step hp;have h10 := uk (HB.out.2.trans (lX.out.mono HB.out.2.size)) h9.post;rw [jh.out, <- List.append_assoc];exact ⟨he, h10⟩
         have uO : (K3 == 4) = false := bF (by omega);have kq3b : (K3 == 3) = true := bT (by omega);have pJ : (Ky == 0) = false := bF (by omega);have sF : (Ky == 2) = false := bF (by omega);have uG : (Ky == 3) = false := bF (by omega);have yD : (Ky == 4) = false := bF (by omega);have DR : (Ky == 5) = true := bT (by omega);clear hlen hK3 eF ko uS nK q4 q3;clear k0 k2 k3 k4 k5;go_enter Tryz.func72, Tryz.ntmps72
         go_upto_region 11 with fail
         refine wp_region_held_drew (S := fun w' => w'.cell? ⟨w.heap.size, 2, none⟩ = some (.slice (some ⟨b3, o3, none⟩) 1 d2) /\ w'.cell? ⟨b3, o3, none⟩ = some (.int .i64 K3) /\ w'.rangeAt b3 o3 [.int .i64 K3, .slice A3 n3 c3, .slice B3 m3 d3]) (by kernel_rfl) (jo.out) (fun cO => ?_);refine bJ 0 ?_;refine bJ 1 ?_;refine bJ 2 ?_;refine bJ 3 ?_;refine wX 4 rfl (yieldsIf_load_mid (by rfl) _ _ rfl _ _ rfl _ _ (fun w h => h.2.2) Tryz.underlying25 rfl au) ?_;refine bJ 5 ?_;refine bJ 6 ?_;refine bJ 7 ?_;refine bJ 8 ?_;refine bJ 9 ?_;refine bJ 10 ?_;refine bJ 11 ?_;refine bJ 12 ?_;refine bJ 13 ?_;refine bJ 14 ?_;refine bJ 15 ?_;refine bJ 16 ?_;refine bJ 17 ?_;refine bJ 18 ?_;refine wpAnyH_ready (rs := [19]) (by kernel_rfl) (by simp) ?_;refine wA rfl (fun KK hK => ?_) AllReadyH.nil
         go_simp;go_at_call 106;refine fU.out.mono ?_;rintro e w7 hp;obtain ⟨rfl, dL, v2, h9, rz⟩ := uR.out e w7 hp;have H9 := Lh h9;have Dl := Lh rz;clear hp h9 rz;refine hK.out _ _ dL (fun dh => ?_);clear hK KK;(try simp only [Act.put, pP]);refine wpAnyH_done (by kernel_rfl) ?_ _
         go_wp2_with ((with_reducible refine Dl.out.mono ?_); rintro e w8 hp; obtain ⟨rfl, h8⟩ := nM.out v2 w7 e w8 H9.out hp; have H8 := Lh h8; clear hp h8)
         go_end0;exact H8.out
        ·skip
         have jh : Hid (aQ L r = (aQ L y0) ++ [42]) := Lh (by rw [uf L r, if_neg (by rw [<- HX.out.2.1]; exact k0), if_neg (by rw [<- HX.out.2.1]; exact k2), if_neg (by rw [<- HX.out.2.1]; exact k3), if_neg (by rw [<- HX.out.2.1]; exact k4), if_pos (by rw [<- HX.out.2.1]; exact k5), ko, Rx.kids, wu, if_neg (by rw [<- hK3]; omega)]);have hlen : t.length + ((aQ L y0).length + 1) <= 1000000000 := by have h1 := HX.out.2.2.2.1; rw [jh.out] at h1; simp at h1 ⊢; omega
         have fU : Hid (Calls Tryz.prog 106 #[.pointer (some ⟨pb, 0, none⟩), .agg #[.int .i64 K3, .slice A3 n3 c3, .slice B3 m3 d3], .bool false] (w.alloc (.cells #[.int .i64 Ky, .slice A2 n2 c2, .slice (some ⟨b3, o3, none⟩) 1 d2] 25)).drew (aW pb v A n c (fl || bn L r) (t ++ (aQ L y0)) (w.alloc (.cells #[.int .i64 Ky, .slice A2 n2 c2, .slice (some ⟨b3, o3, none⟩) 1 d2] 25)).drew)) := Lh (by
          rw [nK];exact BR (dH.out y0 uS) hK3 oC.out HL2.out (eF.below lX.out) (by (try simp at hlen ⊢); omega))
         have uR : Hid (∀ e w7, aW pb v A n c (fl || bn L r) (t ++ (aQ L y0)) (w.alloc (.cells #[.int .i64 Ky, .slice A2 n2 c2, .slice (some ⟨b3, o3, none⟩) 1 d2] 25)).drew e w7 -> e = .returned (.tuple #[]) /\ (fun w' => w'.cell? ⟨w.heap.size, 2, none⟩ = some (.slice (some ⟨b3, o3, none⟩) 1 d2) /\ w'.cell? ⟨b3, o3, none⟩ = some (.int .i64 K3) /\ w'.rangeAt b3 o3 [.int .i64 K3, .slice A3 n3 c3, .slice B3 m3 d3]) w7 /\ ∃ v2, bU pb v A n c (w.alloc (.cells #[.int .i64 Ky, .slice A2 n2 c2, .slice (some ⟨b3, o3, none⟩) 1 d2] 25)).drew (fl || bn L r) (t ++ (aQ L y0)) v2 w7 /\ Calls Tryz.prog 107 #[.pointer (some ⟨pb, 0, none⟩), .int .u8 42] w7 (aW pb v2 A n c (fl || bn L r) (t ++ (aQ L y0) ++ [42]) w7)) := Lh fun e w7 hp => by
          obtain ⟨he, v2, h9⟩ := (bU.refl oC.out).step hp;have hk := h9.2.1;exact ⟨he, ⟨(hk.blk (HB2.out) gB.out.1 gB.out.2.1).cell (j := 2) rfl, (hk.cell gB.out.2.2.2.2 gB.out.2.2.1 gB.out.2.2.2.1).trans (aP.out 0 _ rfl), fun j u hu => (hk.cell gB.out.2.2.2.2 gB.out.2.2.1 gB.out.2.2.2.1).trans (aP.out j u hu)⟩, v2, h9, mH w7 h9.1 42 (by (try simp at hlen ⊢); omega)⟩
         have nM : Hid (∀ v2 w7 e w8, bU pb v A n c (w.alloc (.cells #[.int .i64 Ky, .slice A2 n2 c2, .slice (some ⟨b3, o3, none⟩) 1 d2] 25)).drew (fl || bn L r) (t ++ (aQ L y0)) v2 w7 -> aW pb v2 A n c (fl || bn L r) (t ++ (aQ L y0) ++ [42]) w7 e w8 -> e = .returned (.tuple #[]) /\ aW pb v A n c (fl || bn L r) (t ++ aQ L r) w (.returned (.tuple #[])) w8) := Lh fun v2 w7 e w8 h7 hp => by
          obtain ⟨he, v3, h9⟩ := h7.step hp;have h10 := uk (HB.out.2.trans (lX.out.mono HB.out.2.size)) h9.post;rw [jh.out, <- List.append_assoc];exact ⟨he, h10⟩
         have uO : (K3 == 4) = false := bF (by omega);have kq3b : (K3 == 3) = false := bF (by omega);have pJ : (Ky == 0) = false := bF (by omega);have sF : (Ky == 2) = false := bF (by omega);have uG : (Ky == 3) = false := bF (by omega);have yD : (Ky == 4) = false := bF (by omega);have DR : (Ky == 5) = true := bT (by omega);clear hlen hK3 eF ko uS nK q4 q3;clear k0 k2 k3 k4 k5;go_enter Tryz.func72, Tryz.ntmps72
         go_upto_region 11 with fail
         refine wp_region_held_drew (S := fun w' => w'.cell? ⟨w.heap.size, 2, none⟩ = some (.slice (some ⟨b3, o3, none⟩) 1 d2) /\ w'.cell? ⟨b3, o3, none⟩ = some (.int .i64 K3) /\ w'.rangeAt b3 o3 [.int .i64 K3, .slice A3 n3 c3, .slice B3 m3 d3]) (by kernel_rfl) (jo.out) (fun cO => ?_);refine bJ 0 ?_;refine bJ 1 ?_;refine bJ 2 ?_;refine bJ 3 ?_;refine wX 4 rfl (yieldsIf_load_mid (by rfl) _ _ rfl _ _ rfl _ _ (fun w h => h.2.2) Tryz.underlying25 rfl au) ?_;refine bJ 5 ?_;refine bJ 6 ?_;refine bJ 7 ?_;refine bJ 8 ?_;refine bJ 9 ?_;refine bJ 10 ?_;refine bJ 11 ?_;refine bJ 12 ?_;refine bJ 13 ?_;refine bJ 14 ?_;refine bJ 15 ?_;refine bJ 16 ?_;refine bJ 17 ?_;refine bJ 18 ?_;refine wpAnyH_ready (rs := [19]) (by kernel_rfl) (by simp) ?_;refine wA rfl (fun KK hK => ?_) AllReadyH.nil
         go_simp;go_at_call 106;refine fU.out.mono ?_;rintro e w7 hp;obtain ⟨rfl, dL, v2, h9, rz⟩ := uR.out e w7 hp;have H9 := Lh h9;have Dl := Lh rz;clear hp h9 rz;refine hK.out _ _ dL (fun dh => ?_);clear hK KK;(try simp only [Act.put, pP]);refine wpAnyH_done (by kernel_rfl) ?_ _
         go_wp2_with ((with_reducible refine Dl.out.mono ?_); rintro e w8 hp; obtain ⟨rfl, h8⟩ := nM.out v2 w7 e w8 H9.out hp; have H8 := Lh h8; clear hp h8)
         go_end0;exact H8.out
      ·skip
       have k1 : Ky = 1 := by have h1 := HX.out.2.1; rcases kw HX.out.2.2.1 with e | e | ⟨_, e, _⟩ | ⟨_, e, _⟩ | ⟨_, e, _⟩ | ⟨_, e, _⟩ <;> (rw [e] at h1; simp only [Rx.kind] at h1; omega)
       have jh : Hid (t ++ aQ L r = t /\ (fl || bn L r) = fl) := Lh ⟨by rw [uf L r, if_neg (by rw [<- HX.out.2.1]; exact k0), if_neg (by rw [<- HX.out.2.1]; exact k2), if_neg (by rw [<- HX.out.2.1]; exact k3), if_neg (by rw [<- HX.out.2.1]; exact k4), if_neg (by rw [<- HX.out.2.1]; exact k5), List.append_nil], by rw [xz, if_neg (by have := HX.out.2.1; omega), if_neg (by have := HX.out.2.1; omega), Bool.or_false]⟩;rw [jh.out.1, jh.out.2];have HR : Hid (aW pb v A n c fl t w (.returned (.tuple #[])) (w.alloc (.cells #[.int .i64 Ky, .slice A2 n2 c2, .slice B2 m2 d2] 25))) := Lh (uk HB.out.2 (bU.refl l7.out).post);have pJ : (Ky == 0) = false := bF (by omega);have sF : (Ky == 2) = false := bF (by omega);have uG : (Ky == 3) = false := bF (by omega);have yD : (Ky == 4) = false := bF (by omega);have DR : (Ky == 5) = false := bF (by omega);clear k1 k0 k2 k3 k4 k5;go_enter Tryz.func72, Tryz.ntmps72;go_wp2_with fail;go_end0;exact HR.out
theorem JC : ∀ (z : Nat) (r : Rx), SizeOf.sizeOf r <= z -> aC r = true -> sO r
 |0, r, h, _ => absurd h (by cases r; simp)
 |z + 1, r, h, hv => VY r hv (fun x hx => JC z x (by have := jZ hx; omega) (jL hv x hx)) (fun x hx y hy => JC z y (by have := jZ hx; have := jZ hy; omega) (jL (jL hv x hx) y hy))
namespace Rgx
def og (V : Bool) (L : List Lt) (r : Rx) : Alp.B := if aC r = true /\ V = true /\ bn L (normR false r) = false then aQ L (normR false r) else []
theorem MB {L : List Lt} (hL : ∀ l ∈ L, l.text.length <= 4) (x : Int) : (gp L x).length <= 4 := by
 unfold gp;have e : xH L x = if x < (L.length : Int) then some (L.getD x.toNat z).text else if x = 62 then some [35] else if x = 63 then some [45] else none := rfl
 rw [e]
 by_cases h1 : x < (L.length : Int)
 ·rw [if_pos h1, Option.getD_some, List.getD_eq_getElem?_getD]
  cases h : L[x.toNat]? with
  |none => simp [z]
  |some l => exact hL l (List.mem_of_getElem? h)
 ·rw [if_neg h1]
  by_cases h2 : x = 62
  ·rw [if_pos h2]; simp
  ·rw [if_neg h2]
   by_cases h3 : x = 63
   ·rw [if_pos h3]; simp
   ·rw [if_neg h3]; simp
theorem Mx {L : List Lt} (hL : ∀ l ∈ L, l.text.length <= 4) : ∀ (s : List Int) (f : Bool), (dY L f s).length <= 5 * s.length
 |[], f => by simp [dY]
 |x :: s, f => by
  have h1 := Mx hL s false;have h2 := MB hL x;rw [dY]
  cases f <;> simp <;> omega
theorem OB {L : List Lt} (hL : ∀ l ∈ L, l.text.length <= 4) {s : List Int} (hs : s.length <= 64) : (sQ L s).length <= 322 := by
 unfold sQ
 split
 ·have := MB hL (s.getD 0 0); omega
 ·split
  ·simp
  ·have := Mx hL s true; simp; omega
mutual
theorem F8 {L : List Lt} (hL : ∀ l ∈ L, l.text.length <= 4) : ∀ r : Rx, (∀ x, aC x = true -> x.syms.length <= 64) -> aC r = true -> ((aQ L r).length : Int) + 4 <= 340 * az r
 |.mk k s ks, fD, hv => by
  have gQ := jL hv
  have hs := fD _ hv
  rw [aQ, az]
  have hp := iF ks
  by_cases h0 : k = 0
  ·rw [if_pos h0]; simp; omega
  rw [if_neg h0]
  by_cases h2 : k = 2
  ·rw [if_pos h2]; have := OB hL (s := s) hs; omega
  rw [if_neg h2]
  by_cases h3 : k = 3
  ·rw [if_pos h3]; have := Oc hL ks fD false gQ; omega
  rw [if_neg h3]
  by_cases h4 : k = 4
  ·rw [if_pos h4]; have := LU hL ks fD true gQ; omega
  rw [if_neg h4]
  by_cases h5 : k = 5
  ·rw [if_pos h5]; have := WO hL ks fD gQ; omega
  ·rw [if_neg h5]; simp; omega
theorem Oc {L : List Lt} (hL : ∀ l ∈ L, l.text.length <= 4) : ∀ ks : List Rx, (∀ x, aC x = true -> x.syms.length <= 64) -> ∀ b : Bool, (∀ x ∈ ks, aC x = true) -> ((jv L b ks).length : Int) <= 340 * aj ks
 |[], fD, b, hv => by simp [jv, aj]
 |r :: rs, fD, b, hv => by
  have h1 := F8 hL r fD (hv r (by simp))
  have h2 := Oc hL rs fD (sK L r) (fun x hx => hv x (by simp [hx]))
  rw [jv, aj]
  have h3 : ((oO L b r (aQ L r)).length : Int) <= 340 * az r := by
   unfold oO
   split
   ·rename_i hst
    simp only [Bool.and_eq_true] at hst
    have hk : r.kind = 5 := of_decide_eq_true (by have := hst.2; unfold sI at this; simp only [Bool.and_eq_true] at this; exact this.1)
    have nJ := hv r (by simp)
    obtain ⟨y, hy, nL⟩ := Iq nJ hk
    have h4 : (sQ L (av r.kids 0).syms).length <= 322 := OB hL (by rw [hy]; exact fD y nL)
    have h5 : 1 <= az r := fQ r
    simp
    omega
   ·split
    ·simp; omega
    ·omega
  simp
  omega
theorem LU {L : List Lt} (hL : ∀ l ∈ L, l.text.length <= 4) : ∀ ks : List Rx, (∀ x, aC x = true -> x.syms.length <= 64) -> ∀ b : Bool, (∀ x ∈ ks, aC x = true) -> ((iV L b ks).length : Int) <= 340 * aj ks
 |[], fD, b, hv => by simp [iV, aj]
 |r :: rs, fD, b, hv => by
  have h1 := F8 hL r fD (hv r (by simp))
  have h2 := LU hL rs fD false (fun x hx => hv x (by simp [hx]))
  rw [iV, aj]
  cases b <;> simp <;> omega
theorem WO {L : List Lt} (hL : ∀ l ∈ L, l.text.length <= 4) : ∀ ks : List Rx, (∀ x, aC x = true -> x.syms.length <= 64) -> (∀ x ∈ ks, aC x = true) -> ((wu L ks).length : Int) <= 340 * aj ks
 |[], fD, hv => by simp [wu, aj]
 |r :: rs, fD, hv => by
  have h1 := F8 hL r fD (hv r (by simp))
  have h2 := iF rs
  rw [wu, aj]
  split <;> simp <;> omega
end
end Rgx
theorem PX : (Tryz.prog.info? 92).map (·.size) = some 3 := by kernel_rfl
theorem VK (r : Rx) (hc : az r <= 1000000) (A B : Option Addr) (n c m d : Nat) (w : World) (h : aI w r A n c B m d) (hd : DB w) (L : List Lt) (AL : Option Addr) (N cN : Nat) (hN : N = L.length) (rP : N <= cN) (hcm : cN <= 9223372036854775807) (hL : Rd w AL (lv L)) (V : Bool) (kr : V = true -> N <= 60 /\ 1 <= N /\ ∀ l ∈ L, l.text.length <= 4) (gK : ∀ W, Bw w W -> Calls Tryz.prog 43 #[.slice AL N cN] W (aU W V)) (hv : aC r = false) : Calls Tryz.prog 35 #[.agg #[.int .i64 r.kind, .slice A n c, .slice B m d], .slice AL N cN] w (fun e w' => e = .returned (.string (tb (og V L r))) /\ Bw w w') := by
 obtain ⟨K, hK⟩ := eX r.kind;have hb1 : Bw w (w.alloc (zC K A n c B m d)) := ai w _;have gN : ae (w.alloc (zC K A n c B m d)) w.heap.size (zV K A n c B m d) 25 := ae.at w _ _ 25 _ rfl rfl;have bO := aS gN;rw [<- hK];have uK := LH (Cz 14 #[.agg #[.int .i64 K, .slice A n c, .slice B m d]] (w.alloc (zC K A n c B m d)) (aU (w.alloc (zC K A n c B m d)) false)) (qQ hK (h.below hb1) false hv.symm);have HE := LH (tb (og V L r) = (⟨#[]⟩ : ByteArray)) (by unfold og; rw [if_neg (by rw [hv]; simp)]; rfl);have HB := Lh hb1;rw [HE.out];clear h hd hN rP hcm hL kr gK hv hK hb1 gN hc;go_enter Tryz.func35, Tryz.ntmps35
 go_wp2_with (first
  |(refine aG rfl (.tmp 2) rfl w.heap.size (0) rfl K A B n c m d bO ?_)
  |((with_reducible refine uK.out.mono ?_); rintro e w2 hp; obtain ⟨rfl, hb⟩ := aV hp; have H2 := LH (Bw w w2) (ah HB.out hb); clear hp hb))
 go_ret;exact ⟨rfl, H2.out⟩
theorem Tn (r : Rx) (hc : az r <= 1000000) (A B : Option Addr) (n c m d : Nat) (w : World) (h : aI w r A n c B m d) (hd : DB w) (L : List Lt) (AL : Option Addr) (N cN : Nat) (hN : N = L.length) (rP : N <= cN) (hcm : cN <= 9223372036854775807) (hL : Rd w AL (lv L)) (V : Bool) (kr : V = true -> N <= 60 /\ 1 <= N /\ ∀ l ∈ L, l.text.length <= 4) (gK : ∀ W, Bw w W -> Calls Tryz.prog 43 #[.slice AL N cN] W (aU W V)) (hv : aC r = true) (hVf : V = false) : Calls Tryz.prog 35 #[.agg #[.int .i64 r.kind, .slice A n c, .slice B m d], .slice AL N cN] w (fun e w' => e = .returned (.string (tb (og V L r))) /\ Bw w w') := by
 obtain ⟨K, hK⟩ := eX r.kind;have hb1 : Bw w (w.alloc (zC K A n c B m d)) := ai w _;have gN : ae (w.alloc (zC K A n c B m d)) w.heap.size (zV K A n c B m d) 25 := ae.at w _ _ 25 _ rfl rfl;have bO := aS gN;rw [<- hK];have uK := LH (Cz 14 #[.agg #[.int .i64 K, .slice A n c, .slice B m d]] (w.alloc (zC K A n c B m d)) (aU (w.alloc (zC K A n c B m d)) true)) (qQ hK (h.below hb1) true hv.symm);have iJ := LH (∀ W, Bw w W -> Cz 43 #[.slice AL N cN] W (aU W false)) (by rw [hVf] at gK; exact gK);have HE := LH (tb (og V L r) = (⟨#[]⟩ : ByteArray)) (by unfold og; rw [if_neg (by rw [hVf]; simp)]; rfl);have HB := Lh hb1;rw [HE.out];clear h hd hN hL kr gK hv hK hb1 gN hc hVf;go_enter Tryz.func35, Tryz.ntmps35
 go_wp2_with (first
  |(refine aG rfl (.tmp 2) rfl w.heap.size (0) rfl K A B n c m d bO ?_)
  |((with_reducible refine uK.out.mono ?_); rintro e w2 hp; obtain ⟨rfl, hb⟩ := aV hp; have H2 := LH (Bw w w2) (ah HB.out hb); clear hp hb)
  |((with_reducible refine (iJ.out w2 H2.out).mono ?_); rintro e w3 hp; obtain ⟨rfl, hb⟩ := aV hp; have H3 := LH (Bw w w3) (ah H2.out hb); clear hp hb))
 go_ret;exact ⟨rfl, H3.out⟩
theorem Q5 (r : Rx) (hc : az r <= 1000000) (A B : Option Addr) (n c m d : Nat) (w : World) (h : aI w r A n c B m d) (hd : DB w) (L : List Lt) (AL : Option Addr) (N cN : Nat) (hN : N = L.length) (rP : N <= cN) (hcm : cN <= 9223372036854775807) (hL : Rd w AL (lv L)) (V : Bool) (kr : V = true -> N <= 60 /\ 1 <= N /\ ∀ l ∈ L, l.text.length <= 4) (gK : ∀ W, Bw w W -> Calls Tryz.prog 43 #[.slice AL N cN] W (aU W V)) (hv : aC r = true) (hVt : V = true) : Calls Tryz.prog 35 #[.agg #[.int .i64 r.kind, .slice A n c, .slice B m d], .slice AL N cN] w (fun e w' => e = .returned (.string (tb (og V L r))) /\ Bw w w') := by
 obtain ⟨K, hK⟩ := eX r.kind;have hb1 : Bw w (w.alloc (zC K A n c B m d)) := ai w _;have gN : ae (w.alloc (zC K A n c B m d)) w.heap.size (zV K A n c B m d) 25 := ae.at w _ _ 25 _ rfl rfl;have bO := aS gN;rw [<- hK];have hV := kr hVt;have uK := LH (Cz 14 #[.agg #[.int .i64 K, .slice A n c, .slice B m d]] (w.alloc (zC K A n c B m d)) (aU (w.alloc (zC K A n c B m d)) true)) (qQ hK (h.below hb1) true hv.symm);have iJ := LH (∀ W, Bw w W -> Cz 43 #[.slice AL N cN] W (aU W true)) (by rw [hVt] at gK; exact gK);obtain ⟨x, hx⟩ := eX (normR false r);have vE : NF x := by rw [hx]; exact NF.normR false hv
 have bS : az x <= 1000000 := by rw [hx]; have := zJ false hv; omega
 have hlx : (aQ L x).length <= 340000000 := by have h1 := F8 hV.2.2 x (fun x hx => JE hx) vE.val; omega
 obtain ⟨F, hF⟩ := eX (bn L x);have HE := LH (og V L r = if F = true then [] else aQ L x) (by
  unfold og;rw [<- hx, <- hF]
  cases F with
  |true => rw [if_neg (by simp), if_pos rfl]
  |false => rw [if_pos ⟨hv, hVt, rfl⟩, if_neg (by simp)])
 have HB := LH (Bw w (w.alloc (zC K A n c B m d)) /\ ae (w.alloc (zC K A n c B m d)) w.heap.size (zV K A n c B m d) 25) ⟨hb1, gN⟩;have qw := LH (∀ W pb, Below (w.alloc (zC K A n c B m d)).heap.size (w.alloc (zC K A n c B m d)) W -> w.heap.size <= pb -> pb < W.heap.size -> Cz 51 #[.agg #[.int .i64 K, .slice A n c, .slice B m d]] W (fun e w' => ∃ K5 A5 n5 c5 B5 m5 d5, e = .returned (.agg #[.int .i64 K5, .slice A5 n5 c5, .slice B5 m5 d5]) /\ K5 = x.kind /\ ak (fun b => b ≠ pb /\ some b ≠ Value.ownBlock (.slice none 0 0)) w' x A5 n5 c5 B5 m5 d5 /\ Bw W w')) fun W pb hb0 h1 h2 => by
  have hb : Bw w W := ah hb1 hb0;exact (Jv (p := fun b => b < pb) (fun b hb => by omega) (hd.below hb) r hK hv (by omega) ((h.toP.mono (q := fun b => b < pb) fun b hb => by omega).below hb)).mono fun e w' hp => by
   obtain ⟨A5, n5, c5, B5, m5, d5, rfl, g1, g2⟩ := dV hp;rw [<- hx] at g1 ⊢;exact ⟨_, A5, n5, c5, B5, m5, d5, rfl, rfl, g1.mono fun b hb => ⟨by omega, fun e => by cases e⟩, g2⟩
 have iK := LH (∀ W pb, Bw w W -> w.heap.size <= pb -> jr W pb AL N cN L) fun W pb hb h1 => ⟨hN, rP, hcm, hV.1, hL.below hb, fun b o e => by
  obtain ⟨b', o', e', lQ⟩ := z8 hL (List.ne_nil_of_length_pos (by omega));rw [e'] at e;obtain ⟨rfl, rfl⟩ : b' = b /\ o' = o := by simpa using e
  have h9 : b' < w.heap.size := World.block_lt_of_cell? w _ (lQ.c0 (k := 0) (by omega) rfl);omega, fun l hl => by have := hV.2.2 l hl; omega⟩
 have HST := LH (∀ W w4, Below (w.alloc (zC K A n c B m d)).heap.size (w.alloc (zC K A n c B m d)) W -> aT (W.alloc (.cells #[.slice none 0 0, .slice none 0 0, .bool false] 92)) w4 W.heap.size [.slice AL N cN, .slice none 0 0, .bool false] 92 -> gH W.heap.size (.slice none 0 0) AL N cN false [] w4 /\ Below (w.alloc (zC K A n c B m d)).heap.size (w.alloc (zC K A n c B m d)) w4 /\ w4.rangeAt w.heap.size 0 (zV K A n c B m d) /\ W.heap.size < w4.heap.size /\ w.heap.size <= W.heap.size) fun W w4 hb hst => by
  have fq : Bw W w4 := hst.below (ai W _) (Nat.le_refl _);have hb4 := ah hb fq;have h1 := hb.size;have h2 := gN.lt;exact ⟨⟨hst.1, World.ownsRow_nil _ _ _ _⟩, hb4, aS (gN.below hb4 gN.lt), hst.1.lt, by omega⟩
 have rM := LH (∀ (W w4 w5 : World) K5 A5 n5 c5 B5 m5 d5, (gH W.heap.size (.slice none 0 0) AL N cN false [] w4 /\ Below (w.alloc (zC K A n c B m d)).heap.size (w.alloc (zC K A n c B m d)) w4 /\ w4.rangeAt w.heap.size 0 (zV K A n c B m d) /\ W.heap.size < w4.heap.size /\ w.heap.size <= W.heap.size) -> K5 = x.kind -> ak (fun b => b ≠ W.heap.size /\ some b ≠ Value.ownBlock (.slice none 0 0)) w5 x A5 n5 c5 B5 m5 d5 -> Bw w4 w5 -> Cz 72 #[.pointer (pt W.heap.size), .agg #[.int .i64 K5, .slice A5 n5 c5, .slice B5 m5 d5]] w5 (aW W.heap.size (.slice none 0 0) AL N cN (false || bn L x) ([] ++ aQ L x) w5)) fun W w4 w5 K5 A5 n5 c5 B5 m5 d5 g1 g2 g3 g4 => CX (JC _ x (Nat.le_refl _) vE.val) g2 (g1.1.below g4) (iK.out w5 _ (ah (ah hb1 g1.2.1) g4) g1.2.2.2.2) g3 (by simp; omega)
 have uI := LH (∀ (W w4 w5 w6 : World) e, (gH W.heap.size (.slice none 0 0) AL N cN false [] w4 /\ Below (w.alloc (zC K A n c B m d)).heap.size (w.alloc (zC K A n c B m d)) w4 /\ w4.rangeAt w.heap.size 0 (zV K A n c B m d) /\ W.heap.size < w4.heap.size /\ w.heap.size <= W.heap.size) -> Bw w4 w5 -> aW W.heap.size (.slice none 0 0) AL N cN (false || bn L x) ([] ++ aQ L x) w5 e w6 -> e = .returned (.tuple #[]) /\ Bw w w6 /\ w6.cell? ⟨W.heap.size, 2, none⟩ = some (.bool F) /\ ∃ A6 c6, w6.cell? ⟨W.heap.size, 1, none⟩ = some (.slice A6 (aQ L x).length c6) /\ (convert 45 9 (.slice A6 (aQ L x).length c6)).run Tryz.prog w6 = .ok (.string (tb (aQ L x))) w6) fun W w4 w5 w6 e g1 g4 hp => by
  obtain ⟨he, v6, k1, k2, k3⟩ := oW hp;rw [Bool.false_or, <- hF, List.nil_append] at k1;have bq : Bw w w5 := ah (ah hb1 g1.2.1) g4;have hs5 := bq.size;obtain ⟨A6, c6, fD, uF, _⟩ := Rd.of_own k1.row;subst fD;exact ⟨he, ⟨k2.os.trans bq.os, k2.tape.trans bq.tape, k2.output.trans bq.output, Nat.le_trans hs5 k2.size, fun k hk => (k2.block k (by omega) (by have := g1.2.2.2.2; omega) (fun e => by cases e)).trans (bq.block k hk)⟩, k1.box.cell (j := 2) rfl, A6, c6, k1.box.cell (j := 1) rfl, TG Tryz.underlying45 Tryz.underlying5 Tryz.underlying9 uF c6⟩
 obtain ⟨M6, hM6⟩ := eX ((aQ L x).length);obtain ⟨TX, hTX⟩ := eX (tb (aQ L x));rw [<- hM6, <- hTX] at uI;have Ab := LH (F = false -> tb (og V L r) = TX) fun e => by rw [HE.out, e, if_neg (by simp), hTX]
 have HE1 := LH (F = true -> tb (og V L r) = (⟨#[]⟩ : ByteArray)) fun e => by rw [HE.out, if_pos e]; rfl
 obtain ⟨RS, hRS⟩ := eX (tb (og V L r));rw [<- hRS] at HE1 Ab ⊢;clear h hd hN hL kr gK hv hK hb1 gN hc hVt hx vE bS hlx hF HE hM6 hTX hRS hV
 cases F with
 |true =>
  have HR := LH (RS = (⟨#[]⟩ : ByteArray)) (HE1.out rfl);rw [HR.out];go_enter Tryz.func35, Tryz.ntmps35
  go_wp2_with (first
   |(refine aG rfl (.tmp 2) rfl w.heap.size (0) rfl K A B n c m d bO ?_)
   |((with_reducible refine uK.out.mono ?_); rintro e w2 hp; obtain ⟨rfl, hb⟩ := aV hp; have H2 := Lh hb; clear hp hb)
   |((with_reducible refine (iJ.out w2 (ah HB.out.1 H2.out)).mono ?_); rintro e w3 hp; obtain ⟨rfl, hb⟩ := aV hp; have H3 := LH (Below (w.alloc (zC K A n c B m d)).heap.size (w.alloc (zC K A n c B m d)) w3) (ah H2.out hb); clear hp hb)
   |(refine wB rfl 92 (.tmp 5) (.tmp 15) rfl w3.heap.size 0 rfl [.slice AL N cN, .slice none 0 0, .bool false] rfl (ae.new' w3 [.slice none 0 0, .slice none 0 0, .bool false] _ 92 rfl) 3 PX ?_; intro w4 wM; have H4 := Lh (HST.out w3 w4 H3.out wM); have jb := H4.out.2.2.1; clear wM)
   |(refine aG rfl (.tmp 2) rfl w.heap.size (0) rfl K A B n c m d jb ?_)
   |((with_reducible refine (qw.out w4 w3.heap.size H4.out.2.1 H4.out.2.2.2.2 H4.out.2.2.2.1).mono ?_); rintro e w5 ⟨K5, A5, n5, c5, B5, m5, d5, rfl, rE, tu, bq⟩; have JK := Lh (rM.out w3 w4 w5 K5 A5 n5 c5 B5 m5 d5 H4.out rE tu bq); have H5 := Lh bq; clear rE tu bq)
   |((with_reducible refine JK.out.mono ?_); rintro e w6 hp; obtain ⟨rfl, eB, hc62, A6, c6, hc61, hcv⟩ := uI.out w3 w4 w5 w6 e H4.out H5.out hp; have H6 := Lh eB; clear hp eB))
  go_ret;exact ⟨rfl, H6.out⟩
 |false =>
  have HR := LH (RS = TX) (Ab.out rfl);rw [HR.out];go_enter Tryz.func35, Tryz.ntmps35
  go_wp2_with (first
   |(refine aG rfl (.tmp 2) rfl w.heap.size (0) rfl K A B n c m d bO ?_)
   |((with_reducible refine uK.out.mono ?_); rintro e w2 hp; obtain ⟨rfl, hb⟩ := aV hp; have H2 := Lh hb; clear hp hb)
   |((with_reducible refine (iJ.out w2 (ah HB.out.1 H2.out)).mono ?_); rintro e w3 hp; obtain ⟨rfl, hb⟩ := aV hp; have H3 := LH (Below (w.alloc (zC K A n c B m d)).heap.size (w.alloc (zC K A n c B m d)) w3) (ah H2.out hb); clear hp hb)
   |(refine wB rfl 92 (.tmp 5) (.tmp 15) rfl w3.heap.size 0 rfl [.slice AL N cN, .slice none 0 0, .bool false] rfl (ae.new' w3 [.slice none 0 0, .slice none 0 0, .bool false] _ 92 rfl) 3 PX ?_; intro w4 wM; have H4 := Lh (HST.out w3 w4 H3.out wM); have jb := H4.out.2.2.1; clear wM)
   |(refine aG rfl (.tmp 2) rfl w.heap.size (0) rfl K A B n c m d jb ?_)
   |((with_reducible refine (qw.out w4 w3.heap.size H4.out.2.1 H4.out.2.2.2.2 H4.out.2.2.2.1).mono ?_); rintro e w5 ⟨K5, A5, n5, c5, B5, m5, d5, rfl, rE, tu, bq⟩; have JK := Lh (rM.out w3 w4 w5 K5 A5 n5 c5 B5 m5 d5 H4.out rE tu bq); have H5 := Lh bq; clear rE tu bq)
   |((with_reducible refine JK.out.mono ?_); rintro e w6 hp; obtain ⟨rfl, eB, hc62, A6, c6, hc61, hcv⟩ := uI.out w3 w4 w5 w6 e H4.out H5.out hp; have H6 := Lh eB; clear hp eB))
  go_ret;exact ⟨rfl, H6.out⟩
theorem Vz (r : Rx) (hc : az r <= 1000000) (A B : Option Addr) (n c m d : Nat) (w : World) (h : aI w r A n c B m d) (hd : DB w) (L : List Lt) (AL : Option Addr) (N cN : Nat) (hN : N = L.length) (rP : N <= cN) (hcm : cN <= 9223372036854775807) (hL : Rd w AL (lv L)) (V : Bool) (kr : V = true -> N <= 60 /\ 1 <= N /\ ∀ l ∈ L, l.text.length <= 4) (gK : ∀ W, Bw w W -> Calls Tryz.prog 43 #[.slice AL N cN] W (aU W V)) : Calls Tryz.prog 35 #[.agg #[.int .i64 r.kind, .slice A n c, .slice B m d], .slice AL N cN] w (fun e w' => e = .returned (.string (tb (og V L r))) /\ Bw w w') := by
 cases hv : aC r with
 |false => exact VK r hc A B n c m d w h hd L AL N cN hN rP hcm hL V kr gK hv
 |true =>
  cases hV9 : V with
  |false => subst hV9; exact Tn r hc A B n c m d w h hd L AL N cN hN rP hcm hL false kr gK hv rfl
  |true => subst hV9; exact Q5 r hc A B n c m d w h hd L AL N cN hN rP hcm hL true kr gK hv rfl
namespace Rgx
def om (X : Lx) : Nat -> Nat -> List Rx -> PS -> Option (Rx × PS)
 |0, _, _, _ => none
 |f + 1, t, ks, Q =>
  if t = 0 then
   if Q.k = 124 then
    match om X f 1 [] (cZ X Q) with
    |some (r, Q1) => om X f 0 (ks ++ [r]) Q1
    |none => none
   else some (.mk 4 [] ks, Q)
  else if t = 1 then
   if Q.k = 2 \/ Q.k = 40 then
    match om X f 3 [] Q with
    |some (a, Q0) =>
     match om X f 2 [a] Q0 with
     |some (r, Q1) => om X f 1 (ks ++ [r]) Q1
     |none => none
    |none => none
   else some (.mk 3 [] ks, Q)
  else if t = 2 then
   if ks.length = 1 then
    if Q.k = 42 then om X f 2 [.mk 5 [] [ks.headD (.mk 0 [] [])]] (cZ X Q)
    else if Q.k = 63 then om X f 2 [.mk 4 [] [.mk 1 [] [], ks.headD (.mk 0 [] [])]] (cZ X Q)
    else some (ks.headD (.mk 0 [] []), Q)
   else none
  else if t = 3 then
   if ks.length = 0 then
    if Q.k = 2 then some (Q.x, cZ X Q)
    else if Q.k = 40 then
     match om X f 1 [] (cZ X Q) with
     |some (r, Q0) =>
      match om X f 0 [r] Q0 with
      |some (x, Q1) => if Q1.k = 41 then some (x, cZ X Q1) else some (x, vM Q1)
      |none => none
     |none => none
    else none
   else none
  else none
theorem Jw (X : Lx) : ∀ (f t : Nat) (ks : List Rx) (Q : PS) (x : Rx) (Q1 : PS), om X f t ks Q = some (x, Q1) -> PR X t ks Q x Q1
 |0, t, ks, Q, x, Q1, h => by rw [om] at h; cases h
 |f + 1, t, ks, Q, x, Q1, h => by
  have ih := Jw X f;rw [om] at h
  by_cases h0 : t = 0
  ·subst h0;rw [if_pos rfl] at h
   by_cases hk : Q.k = 124
   ·rw [if_pos hk] at h
    split at h
    ·rename_i r Q2 e
     exact .altGo hk (ih _ _ _ _ _ e) (ih _ _ _ _ _ h)
    ·cases h
   ·rw [if_neg hk] at h
    cases h
    exact .altEnd hk
  rw [if_neg h0] at h
  by_cases h1 : t = 1
  ·subst h1;rw [if_pos rfl] at h
   by_cases hk : Q.k = 2 \/ Q.k = 40
   ·rw [if_pos hk] at h
    split at h
    ·rename_i a Q0 e
     split at h
     ·rename_i r Q2 e2
      exact .seqGo hk (ih _ _ _ _ _ e) (ih _ _ _ _ _ e2) (ih _ _ _ _ _ h)
     ·cases h
    ·cases h
   ·rw [if_neg hk] at h
    cases h
    exact .seqEnd hk
  rw [if_neg h1] at h
  by_cases h2 : t = 2
  ·subst h2;rw [if_pos rfl] at h
   by_cases hl : ks.length = 1
   ·obtain ⟨r, rfl⟩ : ∃ r, ks = [r] := by
     match ks, hl with
     |[r], _ => exact ⟨r, rfl⟩
    rw [if_pos hl] at h
    by_cases hk : Q.k = 42
    ·rw [if_pos hk] at h;exact .star hk (ih _ _ _ _ _ h)
    rw [if_neg hk] at h
    by_cases hk2 : Q.k = 63
    ·rw [if_pos hk2] at h;exact .opt hk2 (ih _ _ _ _ _ h)
    rw [if_neg hk2] at h
    cases h
    exact .none hk hk2
   ·rw [if_neg hl] at h
    cases h
  rw [if_neg h2] at h
  by_cases h3 : t = 3
  ·subst h3;rw [if_pos rfl] at h
   by_cases hl : ks.length = 0
   ·obtain rfl : ks = [] := List.eq_nil_of_length_eq_zero hl;rw [if_pos hl] at h
    by_cases hk : Q.k = 2
    ·rw [if_pos hk] at h
     cases h
     exact .atom hk
    rw [if_neg hk] at h
    by_cases hk2 : Q.k = 40
    ·rw [if_pos hk2] at h
     split at h
     ·rename_i r Q0 e
      split at h
      ·rename_i y Q2 e2
       by_cases h41 : Q2.k = 41
       ·rw [if_pos h41] at h
        cases h
        exact .paren hk2 (ih _ _ _ _ _ e) (ih _ _ _ _ _ e2) h41
       ·rw [if_neg h41] at h
        cases h
        exact .bad hk2 (ih _ _ _ _ _ e) (ih _ _ _ _ _ e2) h41
      ·cases h
     ·cases h
    ·rw [if_neg hk2] at h
     cases h
   ·rw [if_neg hl] at h
    cases h
  ·rw [if_neg h3] at h
   cases h
def j5 (X : Lx) (f : Nat) : Option (Rx × PS) :=
 match om X f 1 [] (cZ X ⟨0, .mk 0 [] [], 0, 0⟩) with
 |some (r, Q0) => om X f 0 [r] Q0
 |none => none
theorem Nv {X : Lx} {f : Nat} {x : Rx} {Q : PS} (h : j5 X f = some (x, Q)) : jD X (cZ X ⟨0, .mk 0 [] [], 0, 0⟩) x Q := by
 unfold j5 at h
 split at h
 ·rename_i r Q0 e
  exact ⟨r, Q0, Jw _ _ _ _ _ _ _ e, Jw _ _ _ _ _ _ _ h⟩
 ·cases h
theorem Vg {X : Lx} {f : Nat} {r : Rx} {Q : PS} (h : j5 X f = some (r, Q)) (hk : Q.k = 1) {x : Rx} {v : Int} (hp : rf X x v) : x = bP r /\ v = -1 := by
 obtain ⟨r', Q1, h1, h2, h3⟩ := hp;obtain ⟨rfl, rfl⟩ := (Nv h).one h1;exact h2 hk
theorem Qt {X : Lx} {f : Nat} {r : Rx} {Q : PS} (h : j5 X f = some (r, Q)) (hk : Q.k ≠ 1) {x : Rx} {v : Int} (hp : rf X x v) : x = .mk 0 [] [] /\ v = Q.st := by
 obtain ⟨r', Q1, h1, h2, h3⟩ := hp;obtain ⟨rfl, rfl⟩ := (Nv h).one h1;exact h3 hk
def ku : List Lt := [⟨[97], 0, 0, 0, 1⟩, ⟨[98], 1, 0, 0, 1⟩, ⟨[99], 2, 0, 0, 1⟩]
def j6 (w : World) (s : Alp.B) : Lx := ⟨ku, [], s, none, 0, 0, none, 0, 0, w, 0, 0, 0, 0, 0⟩
def GG : Alp.B := [97, 40, 98, 124, 99, 41, 42]
def iD : Rx := .mk 3 [] [.mk 2 [0] [], .mk 5 [] [.mk 2 [1, 2] []]]
def j3 : Rx := .mk 5 [] [.mk 2 [1, 2] []]
end Rgx
def Ia (r : Option (Rx × PS)) : Rx := match r with | some (x, _) => x | none => .mk 9 [] []
def xE (r : Option (Rx × PS)) : Nat := match r with | some (_, Q) => Q.k | none => 9
def Cw (r : Option (Rx × PS)) : Nat := match r with | some (_, Q) => Q.st | none => 9
theorem OX {r : Option (Rx × PS)} (h : r.isSome = true) : ∃ x Q, r = some (x, Q) /\ Ia r = x /\ xE r = Q.k /\ Cw r = Q.st := by
 match r, h with
 |some (x, Q), _ => exact ⟨x, Q, rfl, rfl, rfl, rfl⟩
theorem Sd (w : World) : (j5 (j6 w GG) 40).isSome = true /\ xE (j5 (j6 w GG) 40) = 1 /\ bP (Ia (j5 (j6 w GG) 40)) = iD := by
 refine ⟨?_, ?_, ?_⟩ <;> kernel_rfl
theorem Tw (w : World) : (j5 (j6 w [97, 41]) 40).isSome = true /\ xE (j5 (j6 w [97, 41]) 40) = 41 /\ Cw (j5 (j6 w [97, 41]) 40) = 1 := by
 refine ⟨?_, ?_, ?_⟩ <;> kernel_rfl
theorem SC (w : World) : (j5 (j6 w [40, 97]) 40).isSome = true /\ xE (j5 (j6 w [40, 97]) 40) = 0 /\ Cw (j5 (j6 w [40, 97]) 40) = 2 := by
 refine ⟨?_, ?_, ?_⟩ <;> kernel_rfl
theorem SV (w : World) : (j5 (j6 w [97, 42, 98, 124, 42]) 40).isSome = true /\ xE (j5 (j6 w [97, 42, 98, 124, 42]) 40) = 42 /\ Cw (j5 (j6 w [97, 42, 98, 124, 42]) 40) = 4 := by
 refine ⟨?_, ?_, ?_⟩ <;> kernel_rfl
theorem j6.par {w : World} {s : Alp.B} {X : Lx} (hL : X.L = ku) (hS : X.S = []) (hs : X.s = s) {x : Rx} {v : Int} (h : rf X x v) : rf (j6 w s) x v := h.same hL hS hs
theorem RD {s : Alp.B} {x0 : Rx} (h : ∀ w, (j5 (j6 w s) 40).isSome = true /\ xE (j5 (j6 w s) 40) = 1 /\ bP (Ia (j5 (j6 w s) 40)) = x0) (w : World) {X : Lx} (hL : X.L = ku) (hS : X.S = []) (hs : X.s = s) {x : Rx} {v : Int} (hp : rf X x v) : x = x0 /\ v = -1 := by
 obtain ⟨h1, h2, h3⟩ := h w;obtain ⟨r, Q, e, e1, e2, _⟩ := OX h1;have h4 := Vg e (by rw [<- e2]; exact h2) (j6.par (w := w) hL hS hs hp);rw [<- h3, e1];exact h4
theorem Jn {s : Alp.B} {k t : Nat} (hk : k ≠ 1) (h : ∀ w, (j5 (j6 w s) 40).isSome = true /\ xE (j5 (j6 w s) 40) = k /\ Cw (j5 (j6 w s) 40) = t) (w : World) {X : Lx} (hL : X.L = ku) (hS : X.S = []) (hs : X.s = s) {x : Rx} {v : Int} (hp : rf X x v) : x = .mk 0 [] [] /\ v = t := by
 obtain ⟨h1, h2, h3⟩ := h w;obtain ⟨r, Q, e, _, e2, e3⟩ := OX h1;have h4 := Qt e (by rw [<- e2, h2]; exact hk) (j6.par (w := w) hL hS hs hp);rw [<- h3, e3];exact h4
theorem M0 : uz ku = true := by kernel_rfl
theorem QE : og true ku iD = GG := by kernel_rfl
theorem FB : aC iD = true := by kernel_rfl
theorem Rf : (aC iD && aO iD) = false := by kernel_rfl
theorem Sg : (aC j3 && aO j3) = true := by kernel_rfl
theorem WC : qW 0 iD = j3 := by kernel_rfl
theorem Sz : qW 1 iD = .mk 0 [] [] := by kernel_rfl
def CY : Rx := .mk 4 [] [.mk 1 [] [], j3]
theorem VC : bP CY = j3 := by kernel_rfl
def livZ : Rx := .mk 3 [] [.mk 5 [] [.mk 2 [1, 2] []], .mk 2 [0] []]
theorem Uw : bP (bC iD) = livZ := by kernel_rfl
theorem KM {r : Rx} (h : aC r = true) : ∀ l : List Int, ic r l ↔ aO (l.foldl (fun x s => gV s x) r) = true := by
 intro l
 induction l generalizing r with
 |nil => exact (Jt _).symm
 |cons s l ih =>
  rw [List.foldl_cons, <- ih (Ic s h)];exact (Ta s h l).symm
theorem Wt : true = true ↔ (aC iD = true /\ ic iD [0, 1, 2, 1]) := ⟨fun _ => ⟨FB, (KM FB _).2 (by kernel_rfl)⟩, fun _ => rfl⟩
theorem RV : false = true ↔ (aC iD = true /\ ic iD [1]) := ⟨fun h => (by cases h), fun h => (KM FB _).1 h.2 |>.symm.trans (by kernel_rfl) |>.symm⟩
theorem xD : az iD = 4 /\ az j3 = 2 /\ az CY = 4 := by refine ⟨?_, ?_, ?_⟩ <;> kernel_rfl
theorem Qu {w : World} {ops : Array Oper} {rest : List Oper} {o : Oper} {a : Act} {Q : Exit -> Act -> World -> Prop} (hgd : o.guard = none) (m : Operand) (hop : o.op = Op.call { callee := Callee.builtin Builtin.len, args := #[m], argTypes := #[98] })
  (mb : Nat) (hm : a.eval m = .map (some mb)) {L : List Lt} (hM : jJ w mb L)
  (h : ∀ s : Nat, s <= L.length -> (s = L.length ↔ (nU L).Nodup) -> wpList Tryz.prog ops Q rest (a.put o.dst (.int .i64 (s : Int))) w) : wpList Tryz.prog ops Q (o :: rest) a w := by
 obtain ⟨D, n, h1, _, _, _, h5, h6⟩ := hM;exact wpList_len_own w hgd m 98 hop 9 3 Tryz.underlying98 _ mb n D hm h1 (h _ h5 h6)
theorem SB {L : List Lt} (h : L.length < 1 \/ 60 < L.length) : uz L = false := by
 rw [Bool.eq_false_iff];intro e;have := (Ga L).1 e;omega
theorem TJ {L : List Lt} {k : Nat} (hk : k < L.length) (h : vS L k = false) : uz L = false := by
 rw [Bool.eq_false_iff];intro e;have := ((Ga L).1 e).2.2.1 k hk;rw [h] at this
 cases this
theorem Qh {L : List Lt} (h : ¬ (nU L).Nodup) : uz L = false := by
 rw [Bool.eq_false_iff];intro e;exact h ((Ga L).1 e).2.2.2
def BL (w : World) (L : List Lt) (b : Bool) (e : Ending) (w' : World) : Prop := ∃ m, e = .returned (.tuple #[.map m, .bool b]) /\ Bw w w' /\ (b = true -> ∃ g, m = some g /\ jJ w' g L)
theorem SK {w w' : World} {L : List Lt} {e : Ending} (h : BL w L false e w') : ∃ m, e = .returned (.tuple #[.map m, .bool false]) /\ Bw w w' := by
 obtain ⟨m, h1, h2, _⟩ := h;exact ⟨m, h1, h2⟩
theorem UM {w w' : World} {L : List Lt} {e : Ending} (h : BL w L true e w') : ∃ m, e = .returned (.tuple #[.map (some m), .bool true]) /\ jJ w' m L /\ Bw w w' := by
 obtain ⟨_, h1, h2, h3⟩ := h;obtain ⟨g, rfl, h4⟩ := h3 rfl;exact ⟨g, h1, h4, h2⟩
theorem UF (L : List Lt) (A : Option Addr) (n c : Nat) (hn : n < 1 \/ 60 < n) (hc : n <= c) (hm : c <= maxLen) (w : World) :
  Calls Tryz.prog 77 #[.slice A n c] w (BL w L false) := by
 rcases hn with h | h
 ·go_enter Tryz.func77, Tryz.ntmps77;go_wp2_with fail
  go_ret2
  exact ⟨none, rfl, Below.refl _ _, fun h => by cases h⟩
 ·go_enter Tryz.func77, Tryz.ntmps77;go_wp2_with fail
  go_ret2
  exact ⟨none, rfl, Below.refl _ _, fun h => by cases h⟩
theorem UB (L : List Lt) (n b o c : Nat) (hn : n = L.length) (h1 : 1 <= n) (h2 : n <= 60) (hc : n <= c) (hm : c <= maxLen) (hs : ∀ l ∈ L, l.text.length <= maxLen) (V : Bool) (hV : V = uz L) (w : World) (hr : RL w b o L) :
  Calls Tryz.prog 77 #[.slice (some ⟨b, o, none⟩) n c] w (BL w L V) := by
 have HL := LH (∀ k, k < n -> ∀ W, Bw w W -> Cz 113 #[.slice (some ⟨b, o, none⟩) n c, .int .i64 (k : Int)] W (aU W (vS L k))) fun k hk W hb => QT L n c b o k hn hk hc hm hs W (hr.below hb)
 have HM := LH (∀ W, Bw w W -> Cz 114 #[.slice (some ⟨b, o, none⟩) n c] W (Gc W L)) fun W hb => UQ L n hn b o c hc hm hs W (hr.below hb)
 have HN := Lh hn;have HV := Lh hV;clear hn hV hr hs;go_enter Tryz.func77, Tryz.ntmps77;go_wp2_with fail
 go_loopg [4, 16] n (fun g s4 s16 wr => ∃ (k : Nat), k + g = n /\ s16 = .int .i64 (k : Int) /\ Hid ((∀ j, j < k -> vS L j = true) /\ Bw w wr))
 case atStart => exact ⟨0, by omega, rfl, Lh ⟨fun j h => by omega, Below.refl _ _⟩⟩
 case round =>
  obtain ⟨k, hk, rfl, HI⟩ := hrel
  by_cases hlt : k < n
  ·obtain ⟨g, rfl⟩ : ∃ g, gk = g + 1 := ⟨gk - 1, by omega⟩;have HC := Lh (HL.out k hlt wr HI.out.2)
   cases hl : vS L k
   ·rw [hl] at HC;have HE := LH (V = false) (by rw [HV.out]; exact TJ (by rw [<- HN.out]; exact hlt) hl);clear hl
    go_wp2_with ((with_reducible refine HC.out.mono ?_); rintro e w1 hb1; obtain ⟨rfl, hb2⟩ := aV hb1; have HB := LH (Bw w w1) (ah HI.out.2 hb2); clear hb1 hb2)
    go_ret2
    rw [HE.out];exact ⟨none, rfl, HB.out, fun h => by cases h⟩
   ·rw [hl] at HC;have HE := Lh hl;clear hl
    go_wp2_with ((with_reducible refine HC.out.mono ?_); rintro e w1 hb1; obtain ⟨rfl, hb2⟩ := aV hb1; have HB := LH (Bw w w1) (ah HI.out.2 hb2); clear hb1 hb2)
    go_roundg g
    case rel => exact ⟨k + 1, by omega, by go_num, Lh ⟨fun j hj => by
     rcases Nat.lt_or_ge j k with h | h
     · exact HI.out.1 j h
     · obtain rfl : j = k := by omega
       exact HE.out, HB.out⟩⟩
    case measure => omega
  ·obtain rfl : k = n := by omega
   have HC := Lh (HM.out wr HI.out.2)
   go_wp2_with (first
    |((with_reducible refine HC.out.mono ?_); rintro e w1 hb1; obtain ⟨m, rfl, l9, lF, hb2⟩ := Q6 hb1; have HB := LH (jJ w1 m L /\ Bw w w1) ⟨lF, ah HI.out.2 hb2⟩; clear hb1 hb2 l9 lF)
    |(at_len; refine Qu rfl (.tmp 27) rfl m rfl HB.out.1 ?_; intro s hs1 hs2; have HS := Lh (And.intro hs1 hs2); clear hs1 hs2))
   go_ret2
   have hv : V = decide ((s : Int) = (k : Int)) := by
    rw [HV.out]
    by_cases hd : (nU L).Nodup
    ·rw [(Ga L).2 ⟨by rw [<- HN.out]; exact h1, by rw [<- HN.out]; exact h2, fun j hj => HI.out.1 j (by rw [HN.out]; exact hj), hd⟩, dT];have := HS.out.2.2 hd;have := HN.out;omega
    ·rw [Qh hd, dF];intro e;exact hd (HS.out.2.1 (by have := HN.out; omega))
   refine ⟨some m, ?_, HB.out.2, fun _ => ⟨m, rfl, HB.out.1⟩⟩;rw [hv]
   rfl
theorem RP (L : List Lt) (A : Option Addr) (n c : Nat) (hn : n = L.length) (hc : n <= c) (hm : c <= maxLen) (hs : ∀ l ∈ L, l.text.length <= maxLen) (V : Bool) (hV : V = uz L) (w : World) (hr : Rd w A (lv L)) :
  Calls Tryz.prog 77 #[.slice A n c] w (BL w L V) := by
 by_cases h0 : n < 1 \/ 60 < n
 ·rw [hV, SB (by rw [<- hn]; exact h0)];exact UF L A n c h0 hc hm w
 ·obtain ⟨b, o, rfl, h⟩ := z8 hr (by intro e; subst e; simp at hn; omega);exact UB L n b o c hn (by omega) (by omega) hc hm hs V hV w h
theorem M3 (L : List Lt) (A : Option Addr) (n c : Nat) (hn : n = L.length) (hc : n <= c) (hm : c <= maxLen) (hs : ∀ l ∈ L, l.text.length <= maxLen) (V : Bool) (hV : V = uz L) (w : World) (hr : Rd w A (lv L)) :
  Calls Tryz.prog 43 #[.slice A n c] w (aU w V) := by
 have HC := Lh (RP L A n c hn hc hm hs V hV w hr);clear hn hr hs
 cases V
 ·clear hV;go_enter Tryz.func43, Tryz.ntmps43
  go_wp2_with ((with_reducible refine HC.out.mono ?_); rintro e w1 hb1; obtain ⟨m, rfl, hb2⟩ := SK hb1; have HB := Lh hb2; clear hb1 hb2)
  go_ret;exact ⟨rfl, HB.out⟩
 ·clear hV;go_enter Tryz.func43, Tryz.ntmps43
  go_wp2_with ((with_reducible refine HC.out.mono ?_); rintro e w1 hb1; obtain ⟨m, rfl, _, hb2⟩ := UM hb1; have HB := Lh hb2; clear hb1 hb2)
  go_ret;exact ⟨rfl, HB.out⟩
theorem RG (w : World) : Calls Tryz.prog 54 #[] w fun e w' => ∃ g, e = .returned (.slice (pt g) 3 3) /\ Rd w' (pt g) (lv ku) /\ Bw w w' := by
 have HB := LH (ae (w.alloc (.cells #[.string ⟨#[97]⟩, .int .i64 0, .int .i64 0, .int .i64 0, .int .i64 1, .string ⟨#[98]⟩, .int .i64 1, .int .i64 0, .int .i64 0, .int .i64 1, .string ⟨#[99]⟩, .int .i64 2, .int .i64 0, .int .i64 0, .int .i64 1] 90)) w.heap.size [.string ⟨#[97]⟩, .int .i64 0, .int .i64 0, .int .i64 0, .int .i64 1, .string ⟨#[98]⟩, .int .i64 1, .int .i64 0, .int .i64 0, .int .i64 1, .string ⟨#[99]⟩, .int .i64 2, .int .i64 0, .int .i64 0, .int .i64 1] 90) (ae.at w _ _ 90 _ rfl rfl);go_enter Tryz.func54, Tryz.ntmps54;go_wp2_with fail;go_ret;exact ⟨w.heap.size, rfl, .inr ⟨w.heap.size, 0, rfl, fun k v hv => by rw [Nat.zero_add]; exact HB.out.cell (j := k) hv⟩, ai _ _⟩
theorem FO : ∀ l ∈ ku, l.text.length <= 4 := by decide
theorem FC (s : Alp.B) (hs : s.length <= 1024) (x0 : Rx) (v0 : Int) (hp : ∀ (X : Lx) (x : Rx) (v : Int), X.L = ku -> X.S = [] -> X.s = s -> rf X x v -> x = x0 /\ v = v0) (g : Nat) (w : World) (hL : Rd w (pt g) (lv ku)) (hd : DB w) : Calls Tryz.prog 32 #[.string (tb s), .slice (pt g) 3 3, .slice none 0 0] w fun e w' => ∃ A n c B m d, e = .returned (.tuple #[.agg #[.int .i64 x0.kind, .slice A n c, .slice B m d], .int .i64 v0]) /\ aI w' x0 A n c B m d /\ Bw w w' := by
 refine (UW ku [] (pt g) none 3 3 0 0 s (by omega) true w rfl (Nat.le_refl _) (by decide) ⟨rfl, Nat.le_refl _, Nat.zero_le _, .inl rfl⟩ hL (fun _ => ⟨by decide, fun l hl => by have := FO l hl; omega⟩) hd (fun W hb => ?_)).mono fun e w' h => ?_
 ·exact M3 ku (pt g) 3 3 rfl (Nat.le_refl _) (by unfold maxLen; decide) (fun l hl => by have := FO l hl; unfold maxLen; omega) true M0.symm W (hL.below hb)
 ·obtain ⟨x, v, A, n, c, B, m, d, rfl, h1, h2, _, _, h3⟩ := h;obtain ⟨X, e1, e2, e3, h4⟩ := h3 rfl hs;obtain ⟨rfl, rfl⟩ := hp X x v e1 e2 e3 h4;exact ⟨A, n, c, B, m, d, rfl, h1.o, h2⟩
theorem Vo (g : Nat) (A B : Option Addr) (n c m d : Nat) (w : World) (h : aI w iD A n c B m d) (hL : Rd w (pt g) (lv ku)) (hd : DB w) : Calls Tryz.prog 35 #[.agg #[.int .i64 3, .slice A n c, .slice B m d], .slice (pt g) 3 3] w fun e w' => e = .returned (.string ⟨#[97, 40, 98, 124, 99, 41, 42]⟩) /\ Bw w w' := by
 refine (Vz iD (by have := xD.1; omega) A B n c m d w h hd ku (pt g) 3 3 rfl (Nat.le_refl _) (by decide) hL true (fun _ => ⟨by decide, by decide, FO⟩) (fun W hb => ?_)).mono fun e w' h => ?_
 ·exact M3 ku (pt g) 3 3 rfl (Nat.le_refl _) (by unfold maxLen; decide) (fun l hl => by have := FO l hl; unfold maxLen; omega) true M0.symm W (hL.below hb)
 ·rw [QE] at h;exact h
theorem LF {w W : World} {b o : Nat} {xs : List Value} {G : Option Nat} (h : w.rangeAt b o xs) (hg : w.grownBy W G) (hb : ∀ g, G = some g -> b ≠ g) : W.rangeAt b o xs := fun j v hv => (hg.cell_far ⟨b, o + j, none⟩ (World.block_lt_of_cell? w _ (h j v hv)) (fun e => hb b e.symm rfl)).trans (h j v hv)
theorem Tk (w : World) (g o : Nat) (v : Value) : w.grownBy (w.setCell ⟨g, o, none⟩ v) (some g) := by
 have h1 : (w.setCell ⟨g, o, none⟩ v).heap.size = w.heap.size := by simp
 exact ⟨rfl, rfl, rfl, by rw [h1]; exact Nat.le_refl _, fun k _ hk => heap_setCell_other w ⟨g, o, none⟩ k v fun e => hk (by simp [e])⟩
theorem OG {p : Nat -> Prop} (w : World) (hp : ∀ b, p b -> b < w.heap.size) (l : List Rx) (B : Option Addr) (m d : Nat) (hl : eD p w l B m d) (hN : ∀ x ∈ l, NF x) (hc : aj l <= 1000000000000) : Calls Tryz.prog 86 #[.slice B m d] w (dB p w (altP l)) := by
 obtain ⟨i0, aZ, hz0, hz1, hz2⟩ := info_parts lG;obtain ⟨j0, sG, nP, iG, gY⟩ := info_parts BK;have HL := Lh hl;have HP := Lh hp;have HNL := Lh hN;have iw := Lh hc;have hm : m <= 1000000000000 := by have := mW l; rw [hl.mlen]; omega
 have HZ := LH (∀ W, Below (w.alloc zR).heap.size (w.alloc zR) W -> ae W w.heap.size zL 25) fun W hb => (ae.new' w zL _ 25 rfl).below hb (by simp)
 clear hl hp hN hc;go_enter Tryz.func86, Tryz.ntmps86;go_wp2_with fail
 go_loopg [3, 4] m (fun g s3 s4 wr => ∃ i : Nat, i + g = m /\ s4 = .int .i64 (i : Int) /\ Hid (aD (fun b => p b \/ w.heap.size < b) (w.heap.size + 1) s3 (flatR (l.take i)) wr /\ Below (w.alloc zR).heap.size (w.alloc zR) wr))
 case atStart => exact ⟨0, by omega, rfl, Lh ⟨aD.nil _ _ _, Below.refl _ _⟩⟩
 case round =>
  obtain ⟨i, hi, rfl, HI⟩ := hrel;obtain ⟨B5, d5, hv, sW, uY, vv, wI⟩ := HI.out.1.e;obtain ⟨N5, bD⟩ := eX ((flatR (l.take i)).length);rw [<- bD] at hv;subst hv;have bB := Lh bD;clear sW uY vv wI bD
  by_cases hlt : i < m
  ·obtain ⟨gg, rfl⟩ : ∃ g, gk = g + 1 := ⟨gk - 1, by omega⟩;obtain ⟨xs, hC, hO⟩ := HI.out.1;rw [<- bB.out] at hO;have HC := Lh hC;have HO := Lh hO;have bg := LH (Bw w wr) (ah (ai _ _) HI.out.2);have EP := LH (w.heap.size + 1 <= wr.heap.size) (by have := HI.out.2.size; simpa using this);have bR := LH (i < l.length) (by rw [<- HL.out.mlen]; exact hlt);have rZ := LH (∀ b, p b -> (fun b => p b \/ w.heap.size < b) b /\ some b ≠ (Value.slice B5 N5 d5).ownBlock) fun b hb => ⟨.inl hb, fun e => by
    have h1 := (HO.out.lt b e.symm).1;have := HP.out b hb;omega⟩
   obtain ⟨b, o, rfl, A, n, c, B2, m2, d2, hrg, ax⟩ := HL.out.kid7 hlt;obtain ⟨x, hx⟩ := eX (av l i);rw [<- hx] at hrg ax;obtain ⟨K, hK⟩ := eX x.kind;rw [<- hK] at hrg;have aP := Lh (iW hrg bg.out);have hc0 : wr.cell? ⟨b, o + i * 3, none⟩ = some (.int .i64 K) := aP.out 0 _ rfl;have hc2 : wr.cell? ⟨b, o + i * 3 + 2, none⟩ = some (.slice B2 m2 d2) := aP.out 2 _ rfl;have gz := Lh ax;have bQ := LH (K = x.kind /\ x = av l i) ⟨hK, hx⟩;have HLEN := LH ((N5 : Int) + az x <= 1000000000000) (by
    have h1 := NN (l.take i);have h2 := zB bR.out;have h3 := vU (rs := l) (i + 1);have h4 := iw.out;rw [hx, gI bR.out, bB.out]; omega)
   clear hrg ax hx hK hC hO
   by_cases k4 : K = 4
   ·skip
    have yU := LH (flatR (l.take (i + 1)) = flatR (l.take i) ++ x.kids) (by rw [MP bR.out, <- bQ.out.2]; unfold flt; rw [if_pos (by rw [<- bQ.out.1]; exact k4)]);obtain ⟨ys, gG, jl⟩ := zY (w := wr) (size := i0.size) hz1 gz.out.o.mlen (gz.out.kids.1.below bg.out) (d := d2);have pY := Lh (gG.mono rZ.out);have oI := Lh jl;have vz := LH (m2 = x.kids.length) gz.out.o.mlen;have hs1 : N5 + m2 <= maxLen := by have h1 := HLEN.out; have h2 := gz.out.o.mlen; have h3 := vZ x; unfold maxLen; omega
    have hs2 : (N5 + m2) * 56 <= 140737488355328 := by have h1 := HLEN.out; have h2 := gz.out.o.mlen; have h3 := vZ x; omega
    clear gG jl;have iM := LH (∀ v' w', w'.ownsRow (w.heap.size + 1) 25 3 v' (N5 + m2) (xs ++ ys) -> wr.grownBy w' (Value.slice B5 N5 d5).ownBlock -> (v'.ownBlock = (Value.slice B5 N5 d5).ownBlock \/ v'.ownBlock = some wr.heap.size) -> aD (fun b => p b \/ w.heap.size < b) (w.heap.size + 1) v' (flatR (l.take (i + 1))) w' /\ Below (w.alloc zR).heap.size (w.alloc zR) w') fun v' w' hown hg hat => ⟨by
     rw [yU.out];exact aD.app (m := m2) HC.out (Below.refl _ _) pY.out vz.out hg hat (by rw [<- bB.out]; exact hown), eH (ah HI.out.2 (Below.refl _ _)) hg (fun g hg => by have h9 := (HO.out.lt _ hg).1; simpa using h9)⟩
    have ab : (K == 4) = true := bT (by omega);clear k4
    go_wp2_with (at_builtin; refine gW rfl (.tmp 25) (.tmp 30) 23 23 rfl (w.heap.size + 1) 25 i0 _ 3 56 Tryz.underlying23 aZ hz0 hz1 hz2 rfl _ _ _ rfl HO.out _ m2 ys rfl oI.out hs1 hs2 EP.out ?_; intro v5 w5 ed cB dW; have bf := Lh (iM.out _ _ ed cB dW); clear ed cB dW)
    go_roundg gg
    case rel => exact ⟨i + 1, by omega, by go_num, bf⟩
    case measure => omega
   ·skip
    have yU := LH (flatR (l.take (i + 1)) = flatR (l.take i) ++ [x]) (by rw [MP bR.out, <- bQ.out.2]; unfold flt; rw [if_neg (by rw [<- bQ.out.1]; exact k4)]);have pY := LH (aM (fun b => (fun b => p b \/ w.heap.size < b) b /\ some b ≠ (Value.slice B5 N5 d5).ownBlock) (wr.alloc (zC K A n c B2 m2 d2)) (zV K A n c B2 m2 d2) [x]) (by
     rw [bQ.out.1];exact aM.one (aY.mono rZ.out _ ((gz.out.below (ah bg.out (ai _ _))).q)))
    have vz := LH (1 = [x].length) rfl;have hs1 : N5 + 1 <= maxLen := by have h1 := HLEN.out; have h3 := fQ x; unfold maxLen; omega
    have hs2 : (N5 + 1) * 56 <= 140737488355328 := by have h1 := HLEN.out; have h3 := fQ x; omega
    have iM := LH (∀ v' w', w'.ownsRow (w.heap.size + 1) 25 3 v' (N5 + 1) (xs ++ (zV K A n c B2 m2 d2)) -> (wr.alloc (zC K A n c B2 m2 d2)).grownBy w' (Value.slice B5 N5 d5).ownBlock -> (v'.ownBlock = (Value.slice B5 N5 d5).ownBlock \/ v'.ownBlock = some (wr.alloc (zC K A n c B2 m2 d2)).heap.size) -> aD (fun b => p b \/ w.heap.size < b) (w.heap.size + 1) v' (flatR (l.take (i + 1))) w' /\ Below (w.alloc zR).heap.size (w.alloc zR) w') fun v' w' hown hg hat => ⟨by
     rw [yU.out];exact aD.app (m := 1) HC.out (ai _ _) pY.out vz.out hg hat (by rw [<- bB.out]; exact hown), eH (ah HI.out.2 (ai _ _)) hg (fun g hg => by have h9 := (HO.out.lt _ hg).1; simpa using h9)⟩
    have ab : (K == 4) = false := bF (by omega);clear k4
    go_wp2_with (first
     |(refine aG rfl (.tmp 35) rfl b (o + i * 3) rfl K A B2 n c m2 d2 aP.out ?_)
     |(at_builtin; refine gW rfl (.tmp 32) (.tmp 37) 23 23 rfl (w.heap.size + 1) 25 i0 _ 3 56 Tryz.underlying23 aZ hz0 hz1 hz2 rfl _ _ _ rfl (gu HO.out (ai _ _)) _ 1 (zV K A n c B2 m2 d2) rfl (jR hz1 _ _ _ _ _ _ _ _) hs1 hs2 (Nat.le_trans EP.out (ai _ _).size) ?_; intro v5 w5 ed cB dW; have bf := Lh (iM.out _ _ ed cB dW); clear ed cB dW))
    go_roundg gg
    case rel => exact ⟨i + 1, by omega, by go_num, bf⟩
    case measure => omega
  ·skip
   obtain rfl : m = i := by omega
   obtain ⟨F, hF⟩ := eX (flatR l);have hF0 : flatR (l.take m) = F := by rw [hF, HL.out.mlen, List.take_length]
   obtain ⟨g, hg⟩ := eX wr.heap.size;obtain ⟨WA, BB⟩ := eX (wr.alloc (.cells #[.bool false, .bool false, .bool false, .bool false, .bool false, .bool false, .bool false, .bool false, .bool false, .bool false, .bool false, .bool false, .bool false, .bool false, .bool false, .bool false, .bool false, .bool false, .bool false, .bool false, .bool false, .bool false, .bool false, .bool false, .bool false, .bool false, .bool false, .bool false, .bool false, .bool false, .bool false, .bool false, .bool false, .bool false, .bool false, .bool false, .bool false, .bool false, .bool false, .bool false, .bool false, .bool false, .bool false, .bool false, .bool false, .bool false, .bool false, .bool false, .bool false, .bool false, .bool false, .bool false, .bool false, .bool false, .bool false, .bool false, .bool false, .bool false, .bool false, .bool false, .bool false, .bool false, .bool false, .bool false] 139));have HWA := LH (WA = (wr.alloc (.cells #[.bool false, .bool false, .bool false, .bool false, .bool false, .bool false, .bool false, .bool false, .bool false, .bool false, .bool false, .bool false, .bool false, .bool false, .bool false, .bool false, .bool false, .bool false, .bool false, .bool false, .bool false, .bool false, .bool false, .bool false, .bool false, .bool false, .bool false, .bool false, .bool false, .bool false, .bool false, .bool false, .bool false, .bool false, .bool false, .bool false, .bool false, .bool false, .bool false, .bool false, .bool false, .bool false, .bool false, .bool false, .bool false, .bool false, .bool false, .bool false, .bool false, .bool false, .bool false, .bool false, .bool false, .bool false, .bool false, .bool false, .bool false, .bool false, .bool false, .bool false, .bool false, .bool false, .bool false, .bool false] 139))) BB;have HGE := LH (g = wr.heap.size) hg;have bD := bB.out;rw [hF0] at bD;have mQ := LH ((∀ x ∈ F, NF x /\ x.kind ≠ 4) /\ F = flatR l) ⟨by rw [hF]; exact NF.flatR HNL.out, hF⟩
   have HF := LH (eD (fun b => (p b \/ w.heap.size < b) /\ b ≠ g) WA F B5 N5 d5 /\ g + 1 = WA.heap.size /\ w.heap.size + 1 <= g /\ Bw w WA /\ Below (w.alloc zR).heap.size (w.alloc zR) WA /\ ae WA g (bv (lK [])) 139 /\ N5 = F.length /\ (N5 : Int) <= 1000000000000) (by
    have h0 : Below (w.alloc zR).heap.size (w.alloc zR) WA := by rw [BB]; exact aF HI.out.2 _
    have h5 := HI.out.1;rw [hF0] at h5;have hgw : w.heap.size + 1 <= g := by have := HI.out.2.size; simp at this; omega
    obtain ⟨B6, m6, d6, e6, h6⟩ := Gt (q2 := fun b => p b \/ w.heap.size < b) h5 (fun b hb => hb) (fun b hb => .inr (by omega));rw [Value.slice.injEq] at e6;obtain ⟨rfl, rfl, rfl⟩ := e6;refine ⟨(h6.lt.mono fun b hb => ⟨hb.1, by omega⟩).below (by rw [BB]; exact ai _ _), by rw [BB, hg]; simp, hgw, ah (ai _ _) h0, h0, ?_, bD, by have h1 := NN l; rw [<- hF] at h1; have h2 := iw.out; omega⟩;rw [BB];exact ae.at wr (bv (lK [])) _ 139 _ rfl hg)
   clear hF hF0 bD hg BB;go_wp2_with fail;rw [<- HWA.out, <- HGE.out]
   go_loopg [6, 7, 8, 9] N5 (fun g0 s6 s7 s8 s9 wr => ∃ (i : Nat) (Bo : Option Addr) (mo do_ : Nat) (E T : Bool), i + g0 = N5 /\ s9 = .int .i64 (i : Int) /\ s6 = .slice Bo mo do_ /\ s7 = .bool E /\ s8 = .bool T /\ Hid (eD (fun b => (p b \/ w.heap.size < b) /\ b ≠ g) wr (fw [] (jM (F.take i))) Bo mo do_ /\ E = xU (F.take i) /\ T = xB (F.take i) /\ ae wr g (bv (lK (F.take i))) 139 /\ WA.grownBy wr (some g)))
   case atStart => exact ⟨0, none, 0, 0, false, false, by omega, rfl, rfl, rfl, rfl, Lh ⟨eD.nil _ _, rfl, rfl, HF.out.2.2.2.2.2.1, World.grownBy.refl _ _⟩⟩
   case round =>
    clear HI bB;obtain ⟨i, Bo, mo, do_, E, T, hi, rfl, rfl, rfl, rfl, HI⟩ := hrel
    by_cases hlt : i < N5
    ·obtain ⟨gg, rfl⟩ : ∃ g, gk = g + 1 := ⟨gk - 1, by omega⟩;have HKF := LH (eD (fun b => (p b \/ w.heap.size < b) /\ b ≠ g) wr F B5 N5 d5) (HF.out.1.grown HI.out.2.2.2.2 (fun b hb e => hb.2 (by simpa using e)));obtain ⟨b, o, rfl, A, n, c, B2, m2, d2, hrg, ax⟩ := HKF.out.kid7 hlt;have HIF := LH (i < F.length) (by rw [<- HKF.out.mlen]; exact hlt);have HBG := LH (b ≠ g) (HKF.out.blk (List.ne_nil_of_length_pos (by have := HIF.out; omega)) b o rfl).2;obtain ⟨x, hx⟩ := eX (av F i);rw [<- hx] at hrg ax;obtain ⟨K, hK⟩ := eX x.kind;rw [<- hK] at hrg;have aP := Lh hrg;have gz := Lh ax;have bQ := LH (K = x.kind /\ x = av F i) ⟨hK, hx⟩;have bY : x ∈ F := by rw [hx]; exact gU HIF.out
     have hn64 : n <= 64 := by rw [ax.o.nlen]; exact JE (mQ.out.1 x bY).1.val
     have hN5m : N5 <= 1000000000000 := by have := HF.out.2.2.2.2.2.2.2; omega
     have HMO := LH (mo <= 1000000000000) (by have h1 := HI.out.1.mlen; have h2 := Im (jM (F.take i)) []; have h3 := NH (F.take i); rw [List.length_take] at h3; simp at h2; omega);have mV := LH (∀ s ∈ x.syms, 0 <= s /\ s < 64) (mQ.out.1 x bY).1.sym_in;have HAG := LH (x.syms ≠ [] -> ∀ b o, A = some ⟨b, o, none⟩ -> b ≠ g) fun h b o e => (gz.out.syms h b o e).2
     have hx0 : wr.cell? ⟨b, o + i * 3, none⟩ = some (.int .i64 K) := aP.out 0 _ rfl;have hx1 : wr.cell? ⟨b, o + i * 3 + 1, none⟩ = some (.slice A n c) := aP.out 1 _ rfl;clear hrg ax hx hK bY;go_wp2_with fail;obtain ⟨wq, hwq⟩ := eX wr;subst hwq
     go_loopg [10] n (fun g0 s10 wr => ∃ k : Nat, k + g0 = n /\ s10 = .int .i64 (k : Int) /\ Hid (ae wr g (bv fun s => lK (F.take i) s || (x.syms.take k).contains (s : Int)) 139 /\ wq.grownBy wr (some g)))
     case atStart => exact ⟨0, by omega, rfl, Lh ⟨by
      have h1 := HI.out.2.2.2.1;rw [IA (f := fun s => lK (F.take i) s || (x.syms.take 0).contains (s : Int)) (g := lK (F.take i)) (fun s _ => by simp)];exact h1, World.grownBy.refl _ _⟩⟩
     case round =>
      obtain ⟨k, hk, rfl, HJ⟩ := hrel;have Bp := LH (wr.rangeAt b (o + i * 3) (zV K A n c B2 m2 d2)) (LF aP.out HJ.out.2 (fun g1 e => by obtain rfl := Option.some.inj e; exact HBG.out));have hx0 : wr.cell? ⟨b, o + i * 3, none⟩ = some (.int .i64 K) := Bp.out 0 _ rfl;have hx1 : wr.cell? ⟨b, o + i * 3 + 1, none⟩ = some (.slice A n c) := Bp.out 1 _ rfl
      by_cases hlk : k < n
      · obtain ⟨gg, rfl⟩ : ∃ g, gk = g + 1 := ⟨gk - 1, by omega⟩;have gQ : k < x.syms.length := by rw [<- gz.out.o.nlen]; exact hlk
        obtain ⟨ba, oa, rfl, aH⟩ := vO gz.out.o.syms (by intro e; rw [e] at gQ; simp at gQ);obtain ⟨u, hu⟩ := eX (x.syms.getD k 0);have hu64 : 0 <= u /\ u < 64 := by rw [hu]; exact mV.out _ (by simp [List.getD, gQ])
        obtain ⟨U, rfl⟩ : ∃ U : Nat, u = (U : Int) := ⟨u.toNat, by omega⟩;have hcu : wr.cell? ⟨ba, oa + k, none⟩ = some (.int .i64 (U : Int)) := (HJ.out.2.cell_far ⟨ba, oa + k, none⟩ (World.block_lt_of_cell? wq _ (aH k gQ)) (by simpa using HAG.out (by intro e; rw [e] at gQ; simp at gQ) ba oa rfl)).trans ((aH k gQ).trans (by rw [hu]));have hU : U < 64 := by omega
        have hcell : wr.cell? ⟨g, U, none⟩ = some (.bool (lK (F.take i) U || (x.syms.take k).contains (U : Int))) := HJ.out.1.cell (CQ _ hU);have hfro : wr.frozen? ⟨g, U, none⟩ = false := HJ.out.1.frozen U;have HST := LH (∀ j : Nat, (x.syms.take (k + 1)).contains (j : Int) = ((x.syms.take k).contains (j : Int) || decide ((j : Int) = (U : Int)))) fun j => by rw [Ry gQ, <- hu]
        clear aH hu gQ;go_wp2_with fail
        go_roundg gg
        case rel => exact ⟨k + 1, by omega, by go_num, Lh ⟨by
         have h1 := HJ.out.1.set U (.bool true);rw [UC _ hU] at h1;rw [IA (g := fun j => (lK (F.take i) j || (x.syms.take k).contains (j : Int)) || decide (j = U)) (fun s _ => by rw [HST.out s, <- Bool.or_assoc]; congr 1; exact decide_eq_decide.2 (by omega))];exact h1, Fu HJ.out.2 (Tk _ _ _ _)⟩⟩
        case measure => omega
      · obtain rfl : n = k := by omega
        skip
        have iL := LH (F.take (i + 1) = F.take i ++ [x]) (by rw [GD HIF.out, bQ.out.2]);have HE := LH (ae wr g (bv (lK (F.take (i + 1)))) 139 /\ wq.grownBy wr (some g) /\ WA.grownBy wr (some g)) ⟨by
         have h1 := HJ.out.1;rw [IA (g := lK (F.take (i + 1))) (fun s _ => by rw [iL.out, Vi, gz.out.o.nlen, List.take_length])] at h1;exact h1, HJ.out.2, Fu HI.out.2.2.2.2 HJ.out.2⟩
        have HKO := LH (eD (fun b => (p b \/ w.heap.size < b) /\ b ≠ g) wr (fw [] (jM (F.take i))) Bo mo do_) (HI.out.1.grown HJ.out.2 (fun b hb e => hb.2 (by simpa using e)));have HXQ := LH (ak (fun b => (p b \/ w.heap.size < b) /\ b ≠ g) wr x A n c B2 m2 d2) (gz.out.grown HJ.out.2 (fun b hb e => hb.2 (by simpa using e)))
        by_cases k1 : K = 1
        ·skip
         have ab : (K == 1) = true := bT (by omega);have iZ := LH (K = 1) k1;clear k1;go_wp2_with fail
         go_roundg gg
         case rel => exact ⟨i + 1, Bo, mo, do_, true, T, by omega, by go_num, rfl, rfl, rfl, Lh ⟨by rw [iL.out, FH, if_neg (by rw [<- bQ.out.1]; have := iZ.out; omega)]; exact HKO.out, by rw [iL.out, Gw, <- HI.out.2.1]; simp [<- bQ.out.1, iZ.out], by rw [iL.out, FT, <- HI.out.2.2.1]; simp [<- bQ.out.1, iZ.out], HE.out.1, HE.out.2.2⟩⟩
         case measure => omega
        ·skip
         by_cases k2 : 2 < K
         ·skip
          have ab : (K == 1) = false := bF (by omega);have iZ := LH (K ≠ 1 /\ 2 < K) ⟨k1, k2⟩;have EB := LH (Cz 124 #[.slice Bo mo do_, .agg #[.int .i64 K, .slice A n c, .slice B2 m2 d2]] wr fun e w' => ∃ B' m' d', e = .returned (.slice B' m' d') /\ eD (fun b => (p b \/ w.heap.size < b) /\ b ≠ g) w' (dK (fw [] (jM (F.take i))) x) B' m' d' /\ Bw wr w') (Jd wr (fun b hb => by have h1 := HE.out.1.lt; have h2 := HF.out.2.2.1; exact ⟨.inr (by omega), by omega⟩) _ Bo mo do_ HKO.out (by have := HMO.out; omega) x K bQ.out.1 A B2 n c m2 d2 HXQ.out);have zk := LH (wr.rangeAt b (o + i * 3) (zV K A n c B2 m2 d2)) (LF aP.out HJ.out.2 (fun g1 e => by obtain rfl := Option.some.inj e; exact HBG.out));obtain ⟨V, hV⟩ := eX (aO x);have HV := Lh hV;clear k1 hV
          cases T
          ·skip
           go_wp2_with (first
             |(refine aG rfl (.tmp 79) rfl b (o + i * 3) rfl K A B2 n c m2 d2 zk.out ?_)
             |((with_reducible refine (EB.out).mono ?_); rintro e w5 ⟨B8, m8, d8, rfl, h8, aK⟩; have H5 := Lh (And.intro h8 (And.intro aK True.intro)); have Pn := Lh (iW zk.out aK); clear h8 aK)
             |(refine lY (by rfl) (.tmp 86) rfl b (o + i * 3) rfl K A B2 n c m2 d2 Pn.out ?_)
             |((with_reducible refine (Tq bQ.out.1 (HXQ.out.o.below H5.out.2.1) V HV.out).mono ?_); rintro e w6 hp; obtain ⟨rfl, hb⟩ := aV hp; have H6 := Lh hb; clear hp hb))
           have HB := LH (Bw wr w6) (ah H5.out.2.1 H6.out)
           go_roundg gg
           case rel => exact ⟨i + 1, B8, m8, d8, E, V, by omega, by go_num, rfl, rfl, rfl, Lh ⟨by rw [iL.out, FH, if_pos (by rw [<- bQ.out.1]; exact iZ.out.2)]; exact (H5.out.1.below H6.out), by rw [iL.out, Gw, <- HI.out.2.1]; simp [<- bQ.out.1, iZ.out.1], by rw [iL.out, FT, <- HI.out.2.2.1]; simp [<- bQ.out.1, iZ.out.2, HV.out], (HE.out.1.below HB.out HE.out.1.lt), Fu HE.out.2.2 (vV HB.out)⟩⟩
           case measure => omega
          ·skip
           go_wp2_with (first
             |(refine aG rfl (.tmp 79) rfl b (o + i * 3) rfl K A B2 n c m2 d2 zk.out ?_)
             |((with_reducible refine (EB.out).mono ?_); rintro e w5 ⟨B8, m8, d8, rfl, h8, aK⟩; have H5 := Lh (And.intro h8 (And.intro aK True.intro)); have Pn := Lh (iW zk.out aK); clear h8 aK))
           have HB := LH (Bw wr w5) H5.out.2.1
           go_roundg gg
           case rel => exact ⟨i + 1, B8, m8, d8, E, true, by omega, by go_num, rfl, rfl, rfl, Lh ⟨by rw [iL.out, FH, if_pos (by rw [<- bQ.out.1]; exact iZ.out.2)]; exact H5.out.1, by rw [iL.out, Gw, <- HI.out.2.1]; simp [<- bQ.out.1, iZ.out.1], by rw [iL.out, FT, <- HI.out.2.2.1]; simp, (HE.out.1.below HB.out HE.out.1.lt), Fu HE.out.2.2 (vV HB.out)⟩⟩
           case measure => omega
         ·skip
          have ab : (K == 1) = false := bF (by omega);have iZ := LH (K ≠ 1 /\ ¬ 2 < K) ⟨k1, k2⟩;clear k1;go_wp2_with fail
          go_roundg gg
          case rel => exact ⟨i + 1, Bo, mo, do_, E, T, by omega, by go_num, rfl, rfl, rfl, Lh ⟨by rw [iL.out, FH, if_neg (by rw [<- bQ.out.1]; have := iZ.out.2; omega)]; exact HKO.out, by rw [iL.out, Gw, <- HI.out.2.1]; simp [<- bQ.out.1, iZ.out.1], by rw [iL.out, FT, <- HI.out.2.2.1]; rw [show decide (2 < x.kind) = false from dF (by rw [<- bQ.out.1]; have := iZ.out.2; omega)]; simp, HE.out.1, HE.out.2.2⟩⟩
          case measure => omega
    ·obtain rfl : N5 = i := by omega
     have HFT := LH (F.take N5 = F) (by rw [HF.out.2.2.2.2.2.2.1, List.take_length]);have kg := LH (eD (fun b => (p b \/ w.heap.size < b) /\ b ≠ g) wr (fw [] (jM F)) Bo mo do_ /\ E = xU F /\ T = xB F /\ ae wr g (bv (lK F)) 139 /\ WA.grownBy wr (some g)) (by have h1 := HI.out; rw [HFT.out] at h1; exact h1);clear HI;obtain ⟨wq, hwq⟩ := eX wr;subst hwq;clear hlt;go_wp2_with fail
     go_loopg [11, 12] 64 (fun g0 yG s12 wr => ∃ z : Nat, z + g0 = 64 /\ s12 = .int .i64 (z : Int) /\ Hid (wr.ownsRow wq.heap.size 3 1 yG ((mG F z).length) (iv (mG F z)) /\ Bw wq wr))
     case atStart => exact ⟨0, by omega, rfl, Lh ⟨⟨rfl, .inl ⟨rfl, rfl⟩⟩, Below.refl _ _⟩⟩
     case round =>
      obtain ⟨z, hz, rfl, HJ⟩ := hrel;obtain ⟨A6, c6, fD, hrd6, hnc6, hcm6⟩ := Rd.of_own HJ.out.1;obtain ⟨n6, DV⟩ := eX ((mG F z).length);rw [<- DV] at fD;subst fD;have HN6 := Lh DV;have hn64 : n6 <= z := by rw [DV]; exact UL F z
      have hO6 := HJ.out.1;rw [<- DV] at hO6;have HO := Lh hO6;clear hO6 hrd6 hnc6 hcm6 DV
      by_cases hlz : z < 64
      · obtain ⟨gg, rfl⟩ : ∃ g, gk = g + 1 := ⟨gk - 1, by omega⟩;obtain ⟨X, hX⟩ := eX (lK F z);have hcell : wr.cell? ⟨g, z, none⟩ = some (.bool X) := ((kg.out.2.2.2.1.below HJ.out.2 kg.out.2.2.2.1.lt).cell (CQ _ hlz)).trans (by rw [hX]);have HX := LH (X = lK F z) hX;clear hX
        cases X
        ·have HS := LH (mG F (z + 1) = mG F z) (by rw [KV, <- HX.out]; simp);go_wp2_with fail
         go_roundg gg
         case rel => exact ⟨z + 1, by omega, by go_num, Lh ⟨by rw [HS.out, <- HN6.out]; exact HO.out, HJ.out.2⟩⟩
         case measure => omega
        ·have HS := LH (mG F (z + 1) = mG F z ++ [(z : Int)]) (by rw [KV, <- HX.out]; simp);have iM := LH (∀ v' w', w'.ownsRow wq.heap.size 3 1 v' (n6 + 1) (iv (mG F z) ++ [.int .i64 (z : Int)]) -> (wr.alloc (.cells #[.int .i64 (z : Int)] 3)).grownBy w' (Value.slice A6 n6 c6).ownBlock -> w'.ownsRow wq.heap.size 3 1 v' ((mG F (z + 1)).length) (iv (mG F (z + 1))) /\ Bw wq w') fun v' w' hown hg => ⟨by rw [HS.out, List.length_append, <- HN6.out]; simpa [iv] using hown, eH (aF HJ.out.2 _) hg (fun g hg => (HO.out.lt _ hg).1)⟩
         have hs1 : n6 + 1 <= maxLen := by unfold maxLen; omega
         have hs2 : (n6 + 1) * 8 <= 140737488355328 := by omega
         go_wp2_with (at_builtin; refine gW rfl (.tmp 97) (.tmp 99) 22 22 rfl wq.heap.size 3 j0 _ 1 8 Tryz.underlying22 sG nP iG gY rfl _ _ _ rfl (gu HO.out (ai _ _)) _ 1 [.int .i64 (z : Int)] rfl (FD Tryz.underlying22 iG wr (.int .i64 (z : Int)) 3 rfl) hs1 hs2 (by have := HJ.out.2.size; simp; omega) ?_; intro v9 w9 dJ dN fe; have aR := Lh (iM.out _ _ dJ dN); clear dJ dN fe)
         go_roundg gg
         case rel => exact ⟨z + 1, by omega, by go_num, aR⟩
         case measure => omega
      · obtain rfl : z = 64 := by omega
        obtain ⟨SY, hSY⟩ := eX (dR F);have Kb := HO.out;rw [Uv, <- hSY] at Kb;have mV := LH (SY = dR F /\ n6 = SY.length /\ wr.ownsRow wq.heap.size 3 1 (.slice A6 n6 c6) n6 (iv SY)) ⟨hSY, by rw [hSY]; exact HN6.out, Kb⟩;have ma := LH (eD (fun b => (p b \/ w.heap.size < b) /\ b ≠ g) wr (fw [] (jM F)) Bo mo do_ /\ Below (w.alloc zR).heap.size (w.alloc zR) wr /\ g < wr.heap.size /\ mo <= 1000000000000) ⟨kg.out.1.below HJ.out.2, ah (eH HF.out.2.2.2.2.1 kg.out.2.2.2.2 (fun g1 e => by obtain rfl := Option.some.inj e; have := HF.out.2.2.1; simp; omega)) HJ.out.2, Nat.lt_of_lt_of_le kg.out.2.2.2.1.lt HJ.out.2.size, by have h1 := kg.out.1.mlen; have h2 := Im (jM F) []; have h3 := NH F; have h4 := HF.out.2.2.2.2.2.2; simp at h2; omega⟩;have Fp := LH (g < wq.heap.size /\ w.heap.size + 1 <= g) ⟨kg.out.2.2.2.1.lt, HF.out.2.2.1⟩;have HET := LH (E = xU F /\ T = xB F) ⟨kg.out.2.1, kg.out.2.2.1⟩;have fK := LH (altP l = altEnd (altOut F)) (by unfold altP; rw [mQ.out.2]);clear hSY Kb kg HF HJ HO HN6
        by_cases hs0 : n6 = 0
        rotate_left
        focus
         have fT := LH (¬ dR F = []) (by rw [<- mV.out.1]; intro e; exact hs0 (by rw [mV.out.2.1, e]; rfl));have s0a : decide (0 < n6) = true := dT (by omega);have WP := LH (∀ W, Bw wr W -> Cz 124 #[.slice Bo mo do_, .agg #[.int .i64 2, .slice A6 n6 c6, .slice none 0 0]] W fun e w' => ∃ B' m' d', e = .returned (.slice B' m' d') /\ eD (fun b => (p b \/ w.heap.size < b) /\ b ≠ g) w' (dK (fw [] (jM F)) (.mk 2 SY [])) B' m' d' /\ Bw W w') fun W hW => Jd W (fun b hb => by have h1 := Fp.out; have h2 := hW.size; have h3 := ma.out.2.2.1; exact ⟨.inr (by omega), by omega⟩) _ Bo mo do_ (ma.out.1.below hW) (by have := ma.out.2.2.2; omega) (.mk 2 SY []) 2 rfl A6 none n6 c6 0 0 ((IW (by constructor <;> decide) (fun s hs => by rw [mV.out.1] at hs; have := (qY.1 hs).1; constructor <;> omega) mV.out.2.1 mV.out.2.2 (fun b h1 h2 => by have h3 := Fp.out; exact ⟨.inr (by omega), by omega⟩)).below hW)
         clear hs0
         go_upto_region 32 with (first
          |((with_reducible refine (xN _ _ _ _).mono ?_); rintro e w1 ⟨rfl, hb1⟩; have lV := Lh hb1; have HN1 := Lh (WP.out _ hb1); clear hb1)
          |((with_reducible refine (HN1.out).mono ?_); rintro e wr ⟨Bo, mo, do_, rfl, h3, hb3⟩; have HK4 := LH (eD (fun b => (p b \/ w.heap.size < b) /\ b ≠ g) wr (dK (fw [] (jM F)) (.mk 2 SY [])) Bo mo do_ /\ Below (w.alloc zR).heap.size (w.alloc zR) wr /\ g < wr.heap.size /\ mo <= 1000000000001) ⟨h3, ah (ah ma.out.2.1 lV.out) hb3, Nat.lt_of_lt_of_le (Nat.lt_of_lt_of_le ma.out.2.2.1 lV.out.size) hb3.size, by have h1 := h3.mlen; have h2 := IY (fw [] (jM F)) (.mk 2 SY []); have h4 := ma.out.1.mlen; have h5 := ma.out.2.2.2; omega⟩; clear h3 hb3))
         obtain ⟨O9, rC⟩ := eX (dK (fw [] (jM F)) (.mk 2 SY []));have kP := LH (eD (fun b => (p b \/ w.heap.size < b) /\ b ≠ g) wr (O9) Bo mo do_ /\ Below (w.alloc zR).heap.size (w.alloc zR) wr /\ g < wr.heap.size /\ mo <= 1000000000001) (by rw [rC]; exact ⟨HK4.out.1, HK4.out.2.1, HK4.out.2.2.1, by have := HK4.out.2.2.2; omega⟩);have HA := LH (altOut F = if (E && !T) = true then dK O9 (.mk 1 [] []) else O9) (by rw [rC, MI, <- HET.out.1, <- HET.out.2, if_neg fT.out, <- mV.out.1]);clear rC
        rotate_left
        focus
         have fT := LH (dR F = []) (by rw [<- mV.out.1]; exact List.eq_nil_of_length_eq_zero (mV.out.2.1.symm.trans hs0));have s0a : decide (0 < n6) = false := dF (by omega);clear hs0;obtain ⟨O9, rC⟩ := eX (fw [] (jM F));have kP := LH (eD (fun b => (p b \/ w.heap.size < b) /\ b ≠ g) wr (O9) Bo mo do_ /\ Below (w.alloc zR).heap.size (w.alloc zR) wr /\ g < wr.heap.size /\ mo <= 1000000000001) (by rw [rC]; exact ⟨ma.out.1, ma.out.2.1, ma.out.2.2.1, by have := ma.out.2.2.2; omega⟩);have HA := LH (altOut F = if (E && !T) = true then dK O9 (.mk 1 [] []) else O9) (by rw [rC, MI, <- HET.out.1, <- HET.out.2, if_pos fT.out]);clear rC
        all_goals
         cases E
         rotate_left
         focus
          cases T
          focus
           have nD := LH (Cz 124 #[.slice Bo mo do_, .agg #[.int .i64 1, .slice none 0 0, .slice none 0 0]] wr fun e w' => ∃ B' m' d', e = .returned (.slice B' m' d') /\ eD (fun b => (p b \/ w.heap.size < b) /\ b ≠ g) w' (dK O9 (.mk 1 [] [])) B' m' d' /\ Bw wr w') (Jd wr (fun b hb => by have h1 := Fp.out; have h2 := kP.out.2.1.size; have h3 := kP.out.2.2.1; exact ⟨.inr (by omega), by omega⟩) _ Bo mo do_ kP.out.1 kP.out.2.2.2 (.mk 1 [] []) 1 rfl none none 0 0 0 0 (ak.flat _ _ (by constructor <;> decide)))
           go_upto_region 34 with (((with_reducible refine (nD.out).mono ?_); rintro e wr ⟨Bo, mo, do_, rfl, h4, hb4⟩; have HF4 := LH (eD (fun b => (p b \/ w.heap.size < b) /\ b ≠ g) wr (dK O9 (.mk 1 [] [])) Bo mo do_ /\ Below (w.alloc zR).heap.size (w.alloc zR) wr /\ mo <= 2000000000000) ⟨h4, ah kP.out.2.1 hb4, by have h1 := h4.mlen; have h2 := IY (O9) (.mk 1 [] []); have h3 := kP.out.1.mlen; have h5 := kP.out.2.2.2; omega⟩; clear h4 hb4))
           have HO3 := LH (altOut F = dK O9 (.mk 1 [] [])) (by rw [HA.out, if_pos (by simp)]);obtain ⟨O9, rC⟩ := eX (dK O9 (.mk 1 [] []));have Df := LH (altOut F = O9) (by rw [rC]; exact HO3.out);have qz := LH (eD (fun b => (p b \/ w.heap.size < b) /\ b ≠ g) wr (O9) Bo mo do_ /\ Below (w.alloc zR).heap.size (w.alloc zR) wr /\ mo <= 2000000000000) (by rw [rC]; exact HF4.out);clear rC
          rotate_left
          focus
           have Df := LH (altOut F = O9) (by rw [HA.out, if_neg (by simp)]);have qz := LH (eD (fun b => (p b \/ w.heap.size < b) /\ b ≠ g) wr (O9) Bo mo do_ /\ Below (w.alloc zR).heap.size (w.alloc zR) wr /\ mo <= 2000000000000) ⟨kP.out.1, kP.out.2.1, by have := kP.out.2.2.2; omega⟩
         rotate_left 2
         focus
          have Df := LH (altOut F = O9) (by rw [HA.out, if_neg (by simp)]);have qz := LH (eD (fun b => (p b \/ w.heap.size < b) /\ b ≠ g) wr (O9) Bo mo do_ /\ Below (w.alloc zR).heap.size (w.alloc zR) wr /\ mo <= 2000000000000) ⟨kP.out.1, kP.out.2.1, by have := kP.out.2.2.2; omega⟩
         all_goals
          have nM := LH (mo = (O9).length) qz.out.1.mlen
          by_cases z0 : mo = 0
          ·have oC := LH (altP l = .mk 0 [] []) (by rw [fK.out, Df.out, List.eq_nil_of_length_eq_zero (nM.out.symm.trans z0)]; rfl);have HST := LH (∀ w9, aT wr w9 w.heap.size (List.take 0 zL ++ zL ++ List.drop (0 + 3) zL) 25 -> ae w9 w.heap.size zL 25 /\ dB p w (altP l) (.returned (.agg #[.int .i64 0, .slice none 0 0, .slice none 0 0])) w9) fun w9 hst => ⟨by simpa using hst.1, by rw [oC.out]; exact lI (ak.flat p w9 (by constructor <;> decide)) (fun b hb => .inl hb) (hst.below (ah (ai _ _) qz.out.2.1) (Nat.le_refl _))⟩
           have z0a : decide (mo = 0) = true := dT z0;have z0c : ((mo : Int) == 0) = true := bT (by omega);clear z0
           go_wp2_with (refine wB rfl 25 (.tmp 2) (.tmp 119) rfl w.heap.size 0 rfl zL rfl (HZ.out _ (qz.out.2.1)) 3 au ?_; intro w9 ag; have aB := Lh (HST.out _ ag); clear ag)
           exact cK rfl w.heap.size rfl (C := zL) (T := 25) aB.out.1 _ Tryz.underlying25 rfl au rfl aB.out.2
          ·have z0a : decide (mo = 0) = false := dF z0;have z0c : ((mo : Int) == 0) = false := bF (by omega)
           by_cases z1 : mo = 1
           · obtain ⟨b0, o0, rfl, A8, n8, c8, B8, m8, d8, Er, KA⟩ := qz.out.1.kid7 (i := 0) (by omega);obtain ⟨x8, jO⟩ := eX (av (O9) 0);rw [<- jO] at Er KA;obtain ⟨K8, aX⟩ := eX x8.kind;rw [<- aX] at Er;rw [Nat.zero_mul, Nat.add_zero] at Er;have HRG8 := Lh Er;have bM := LH (ak (fun b => (p b \/ w.heap.size < b) /\ b ≠ g) wr x8 A8 n8 c8 B8 m8 d8 /\ K8 = x8.kind) ⟨KA, aX⟩;have oC := LH (altP l = x8) (by
              rw [fK.out, Df.out, jO]
              match h : (O9), nM.out.symm.trans z1 with
              | [y], _ => rfl)
             have HST := LH (∀ w9, aT wr w9 w.heap.size (List.take 0 zL ++ (zV K8 A8 n8 c8 B8 m8 d8) ++ List.drop (0 + 3) zL) 25 -> ae w9 w.heap.size (zV K8 A8 n8 c8 B8 m8 d8) 25 /\ dB p w (altP l) (.returned (.agg #[.int .i64 K8, .slice A8 n8 c8, .slice B8 m8 d8])) w9) fun w9 hst => ⟨by simpa using hst.1, by rw [oC.out, bM.out.2]; exact ⟨_, _, _, _, _, _, rfl, (il bM.out.1 hst (fun b hb => by have h1 := Fp.out; have h2 := hb.1; rcases h2 with h2 | h2; (have := HP.out b h2; omega); omega)).mono (fun b hb => hb.1.imp id (fun h => by omega)), hst.below (ah (ai _ _) qz.out.2.1) (Nat.le_refl _)⟩⟩
             have z1c : ((mo : Int) == 1) = true := bT (by omega);have l9 : 0 < mo := by omega
             clear z0 z1 Er KA jO aX nM
             go_wp2_with (first
              | (refine aG rfl (.tmp 124) rfl b0 (o0) rfl K8 A8 B8 n8 c8 m8 d8 HRG8.out ?_)
              | (refine wB rfl 25 (.tmp 2) (.tmp 125) rfl w.heap.size 0 rfl (zV K8 A8 n8 c8 B8 m8 d8) rfl (HZ.out _ (qz.out.2.1)) 3 au ?_; intro w9 ag; have aB := Lh (HST.out _ ag); clear ag))
             exact cK rfl w.heap.size rfl (C := (zV K8 A8 n8 c8 B8 m8 d8)) (T := 25) aB.out.1 _ Tryz.underlying25 rfl au rfl aB.out.2
           · have oC := LH (altP l = .mk 4 [] (O9)) (by
              rw [fK.out, Df.out]
              match h : (O9), nM.out with
              | [], e => simp at e; omega
              | [y], e => simp at e; omega
              | y :: y2 :: t, _ => rfl)
             have z1c : ((mo : Int) == 1) = false := bF (by omega);have HST2 := LH (∀ W, Bw wr W -> ∀ w9, aT W w9 w.heap.size (List.take 0 zL ++ (zV 4 none 0 0 Bo mo do_) ++ List.drop (0 + 3) zL) 25 -> ae w9 w.heap.size (zV 4 none 0 0 Bo mo do_) 25 /\ dB p w (altP l) (.returned (.agg #[.int .i64 4, .slice none 0 0, .slice Bo mo do_])) w9) fun W hW w9 hst => ⟨by simpa using hst.1, by
              rw [oC.out];have h1 := (qz.out.1.below hW).keep (W := w9) fun b o hb => World.cell?_of_block (hst.2.1 b (by have h1 := Fp.out; have h2 := hb.1; rcases h2 with h2 | h2; (have := HP.out b h2; show b ≠ _; omega); show b ≠ _; omega))
              exact ⟨_, _, _, _, _, _, rfl, (ak.make (by constructor <;> decide) (fun x hx => by cases hx) rfl (Nat.le_refl _) (Nat.zero_le _) (.inl rfl) (fun h => absurd rfl h) h1.mlen h1.mcap h1.dmax h1.kids h1.blk).mono (fun b hb => hb.1.imp id (fun h => by omega)), hst.below (ah (ah (ai _ _) qz.out.2.1) hW) (Nat.le_refl _)⟩⟩
             clear z0 z1 nM
             go_wp2_with (first
              | ((with_reducible refine (p8 _ _ _ _ _).mono ?_); rintro e w8 ⟨rfl, aK⟩; have DK := Lh aK; have HST := Lh (HST2.out _ aK); clear aK)
              | (refine wB rfl 25 (.tmp 2) (.tmp 127) rfl w.heap.size 0 rfl (zV 4 none 0 0 Bo mo do_) rfl (HZ.out _ (ah qz.out.2.1 DK.out)) 3 au ?_; intro w9 ag; have aB := Lh (HST.out _ ag); clear ag))
             exact cK rfl w.heap.size rfl (C := (zV 4 none 0 0 Bo mo do_)) (T := 25) aB.out.1 _ Tryz.underlying25 rfl au rfl aB.out.2
theorem K4 {q : Nat -> Prop} {w : World} {g : Nat} {x : Rx} {K : Int} {A B : Option Addr} {n c m d : Nat} {T : TypeId} (k : Int) (hk : fM k) (hK : K = x.kind) (h : ak q w x A n c B m d) (hb : ae w g (zV K A n c B m d) T) (hq : q g) : ak q w (.mk k [] [x]) none 0 0 (pt g) 1 1 := by
 subst hK;refine ak.make hk (fun x hx => by cases hx) rfl (Nat.le_refl _) (Nat.zero_le _) (.inl rfl) (fun h => absurd rfl h) rfl (Nat.le_refl _) (by unfold maxLen; omega) (aM.e (aM.one h.q) fun j v hv => by rw [Nat.zero_add]; exact hb.cell hv) (fun _ b o e => ?_);obtain ⟨rfl, rfl⟩ : g = b /\ 0 = o := by simpa using e
 exact hq
theorem Tf {p : Nat -> Prop} (w : World) (hp : ∀ b, p b -> b < w.heap.size) (x : Rx) (hN : NF x) (hc : az x <= 1000000000000) (K : Int) (hK : K = x.kind) (A B : Option Addr) (n c m d : Nat) (h : ak p w x A n c B m d) : Calls Tryz.prog 87 #[.agg #[.int .i64 K, .slice A n c, .slice B m d]] w (dB p w (starP x)) := by
 obtain ⟨i0, aZ, hz0, hz1, hz2⟩ := info_parts lG;have hm : m <= 1000000000000 := by rw [h.o.mlen]; have := vZ x; omega
 have HX := LH (ak p w x A n c B m d /\ (K = x.kind /\ NF x) /\ az x <= 1000000000000 /\ m <= 1000000000000) ⟨h, ⟨hK, hN⟩, hc, hm⟩;have HP := Lh hp;have bK := LH (ae ((w.alloc (zC K A n c B m d)).alloc zR) w.heap.size (zV K A n c B m d) 25) ((ae.at w (zV K A n c B m d) _ 25 _ rfl rfl).alloc _);have HZ := LH (∀ W, Below ((w.alloc (zC K A n c B m d)).alloc zR).heap.size ((w.alloc (zC K A n c B m d)).alloc zR) W -> ae W (w.heap.size + 1) zL 25) fun W hb => (ae.at (w.alloc (zC K A n c B m d)) zL _ 25 _ rfl (by simp)).below hb (by simp)
 have bO := aS bK.out;have hc0 : ((w.alloc (zC K A n c B m d)).alloc zR).cell? ⟨w.heap.size, 0, none⟩ = some (.int .i64 K) := bK.out.cell (j := 0) rfl;have BL0 := LH (Below ((w.alloc (zC K A n c B m d)).alloc zR).heap.size ((w.alloc (zC K A n c B m d)).alloc zR) ((w.alloc (zC K A n c B m d)).alloc zR)) (Below.refl _ _);clear h hK hc hp hN
 by_cases k0 : K = 0 \/ K = 1
 ·have HE := LH (starP x = .mk 1 [] []) (by unfold starP; rw [if_pos (by rw [<- HX.out.2.1.1]; exact k0)]);have HST := LH (∀ w9, aT ((w.alloc (zC K A n c B m d)).alloc zR) w9 (w.heap.size + 1) (List.take 0 zL ++ (zV 1 none 0 0 none 0 0) ++ List.drop (0 + 3) zL) 25 -> ae w9 (w.heap.size + 1) (zV 1 none 0 0 none 0 0) 25 /\ dB p w (starP x) (.returned (.agg #[.int .i64 1, .slice none 0 0, .slice none 0 0])) w9) fun w9 hst => ⟨by simpa using hst.1, by rw [HE.out]; exact lI (ak.flat p w9 (by constructor <;> decide)) (fun b hb => .inl hb) (hst.below (aF (ai _ _) _) (by omega))⟩
  by_cases k00 : K = 0
  ·have aa : decide (K = 0) = true := dT (by omega);have ab : (K == 0) = true := bT (by omega);clear k0 k00;go_enter Tryz.func87, Tryz.ntmps87
   go_wp2_with (refine wB rfl 25 (.tmp 2) (.tmp 13) rfl (w.heap.size + 1) 0 rfl (zV 1 none 0 0 none 0 0) rfl (HZ.out _ (BL0.out)) 3 au ?_; intro w9 ag; have aB := Lh (HST.out _ ag); clear ag)
   exact cK rfl (w.heap.size + 1) rfl (C := (zV 1 none 0 0 none 0 0)) (T := 25) aB.out.1 _ Tryz.underlying25 rfl au rfl aB.out.2
  ·have aa : decide (K = 0) = false := dF (by omega);have ab : (K == 0) = false := bF (by omega);have bb : (K == 1) = true := bT (by omega);clear k0 k00;go_enter Tryz.func87, Tryz.ntmps87
   go_wp2_with (refine wB rfl 25 (.tmp 2) (.tmp 13) rfl (w.heap.size + 1) 0 rfl (zV 1 none 0 0 none 0 0) rfl (HZ.out _ (BL0.out)) 3 au ?_; intro w9 ag; have aB := Lh (HST.out _ ag); clear ag)
   exact cK rfl (w.heap.size + 1) rfl (C := (zV 1 none 0 0 none 0 0)) (T := 25) aB.out.1 _ Tryz.underlying25 rfl au rfl aB.out.2
 ·have aa : decide (K = 0) = false := dF (by omega);have ab : (K == 0) = false := bF (by omega);have bb : (K == 1) = false := bF (by omega)
  by_cases k5 : K = 5
  ·have HE := LH (starP x = x) (by unfold starP; rw [if_neg (by rw [<- HX.out.2.1.1]; exact k0), if_pos (by rw [<- HX.out.2.1.1]; exact k5)]);have HST := LH (∀ w9, aT ((w.alloc (zC K A n c B m d)).alloc zR) w9 (w.heap.size + 1) (List.take 0 zL ++ (zV K A n c B m d) ++ List.drop (0 + 3) zL) 25 -> ae w9 (w.heap.size + 1) (zV K A n c B m d) 25 /\ dB p w (starP x) (.returned (.agg #[.int .i64 K, .slice A n c, .slice B m d])) w9) fun w9 hst => ⟨by simpa using hst.1, by rw [HE.out, HX.out.2.1.1]; exact lI (il (HX.out.1.below (aF (ai _ _) _)) hst (fun b hb => by have := HP.out b hb; omega)) (fun b hb => .inl hb) (hst.below (aF (ai _ _) _) (by omega))⟩
   have ca : decide (K = 5) = true := dT (by omega);have cb : (K == 5) = true := bT (by omega);clear k0 k5;go_enter Tryz.func87, Tryz.ntmps87
   go_wp2_with (first
    |(refine aG rfl (.tmp 1) rfl w.heap.size (0) rfl K A B n c m d bO ?_)
    |(refine wB rfl 25 (.tmp 2) (.tmp 17) rfl (w.heap.size + 1) 0 rfl (zV K A n c B m d) rfl (HZ.out _ (BL0.out)) 3 au ?_; intro w9 ag; have aB := Lh (HST.out _ ag); clear ag))
   exact cK rfl (w.heap.size + 1) rfl (C := (zV K A n c B m d)) (T := 25) aB.out.1 _ Tryz.underlying25 rfl au rfl aB.out.2
  ·have ca : decide (K = 5) = false := dF (by omega);have cb : (K == 5) = false := bF (by omega);have HS5 := LH (starP x = .mk 5 [] [if x.kind = 4 then altP (x.kids.filter fun y => decide (y.kind ≠ 1)) else x]) (by unfold starP; rw [if_neg (by rw [<- HX.out.2.1.1]; exact k0), if_neg (by rw [<- HX.out.2.1.1]; exact k5)])
   by_cases k4 : K = 4
   ·have da : decide (K = 4) = true := dT (by omega);have db : (K == 4) = true := bT (by omega);have HS5 := LH (starP x = .mk 5 [] [altP (x.kids.filter fun y => decide (y.kind ≠ 1))]) (by rw [HS5.out, if_pos (by rw [<- HX.out.2.1.1]; exact k4)]);clear k0 k5 k4;have hb2 : ((w.alloc (zC K A n c B m d)).alloc zR).cell? ⟨w.heap.size, 2, none⟩ = some (.slice B m d) := (bK.out.cell (j := 2) rfl);go_enter Tryz.func87, Tryz.ntmps87;go_wp2_with fail
    go_loopg [3, 4] m (fun g s3 s4 wr => ∃ i : Nat, i + g = m /\ s4 = .int .i64 (i : Int) /\ Hid (aD (fun b => p b \/ w.heap.size + 1 < b) (w.heap.size + 1 + 1) s3 ((x.kids.take i).filter fun y => decide (y.kind ≠ 1)) wr /\ Below ((w.alloc (zC K A n c B m d)).alloc zR).heap.size ((w.alloc (zC K A n c B m d)).alloc zR) wr))
    case atStart => exact ⟨0, by omega, rfl, Lh ⟨aD.nil _ _ _, Below.refl _ _⟩⟩
    case round =>
     obtain ⟨i, hi, rfl, HI⟩ := hrel;have dw := LH (ae wr w.heap.size (zV K A n c B m d) 25) (bK.out.below HI.out.2 (by simp; omega));obtain ⟨B5, d5, hv, sW, uY, vv, wI⟩ := HI.out.1.e;obtain ⟨L5, nS⟩ : ∃ L, L = ((x.kids.take i).filter fun y => decide (y.kind ≠ 1)) := ⟨_, rfl⟩;have zg := LH (L5 = ((x.kids.take i).filter fun y => decide (y.kind ≠ 1))) nS;rw [<- nS] at hv sW;obtain ⟨N5, bD⟩ := eX L5.length;rw [<- bD] at hv;subst hv;have bB := LH (N5 = L5.length /\ N5 <= i) ⟨bD, by rw [bD, nS]; have h1 := List.length_filter_le (fun y : Rx => decide (y.kind ≠ 1)) (x.kids.take i); have h2 := List.length_take_le i x.kids; omega⟩;clear sW uY vv wI bD
     by_cases hlt : i < m
     · obtain ⟨gg, rfl⟩ : ∃ g, gk = g + 1 := ⟨gk - 1, by omega⟩;have AY := HI.out.1;rw [<- nS] at AY;obtain ⟨xs, hC, hO⟩ := AY;rw [<- bB.out.1] at hO;have HC := Lh hC;have HO := Lh hO;have bg := LH (Bw w wr) (ah (aF (ai _ _) _) HI.out.2);have bR := LH (i < x.kids.length) (by rw [<- HX.out.1.o.mlen]; exact hlt);obtain ⟨b, o, rfl⟩ := HX.out.1.kids.1.place (by have := bR.out; omega);obtain ⟨A2, n2, c2, B2, m2, d2, hrg, ax⟩ := HX.out.1.kids.1.kid bR.out;obtain ⟨y, hy⟩ := eX (av x.kids i);rw [<- hy] at hrg ax;obtain ⟨Kx, hKx⟩ := eX y.kind;rw [<- hKx] at hrg;have aP := Lh (iW hrg bg.out);have hc0 : wr.cell? ⟨b, o + i * 3, none⟩ = some (.int .i64 Kx) := aP.out 0 _ rfl;have hb2 : wr.cell? ⟨w.heap.size, 2, none⟩ = some (.slice (some ⟨b, o, none⟩) m d) := dw.out.cell (j := 2) rfl;have iL := LH (((x.kids.take (i + 1)).filter fun y => decide (y.kind ≠ 1)) = L5 ++ if Kx = 1 then [] else [y]) (by
         rw [GD bR.out, List.filter_append, nS, <- hy, hKx]
         by_cases h : y.kind = 1 <;> simp [h])
       have fI := LH (ak p w y A2 n2 c2 B2 m2 d2 /\ Kx = y.kind) ⟨ax, hKx⟩;clear hrg ax hy hKx hC hO nS
       by_cases k1 : Kx = 1
       · have ca : decide (Kx = 1) = true := dT k1;have cb : (Kx == 1) = true := bT k1;have HR6 := LH (aD (fun b => p b \/ w.heap.size + 1 < b) (w.heap.size + 1 + 1) (.slice B5 N5 d5) ((x.kids.take (i + 1)).filter fun y => decide (y.kind ≠ 1)) wr) (by rw [iL.out, if_pos k1, List.append_nil, zg.out]; exact HI.out.1);clear k1;go_wp2_with fail
         go_roundg gg
         case rel => exact ⟨i + 1, by omega, by go_num, Lh ⟨HR6.out, HI.out.2⟩⟩
         case measure => omega
       · have ca : decide (Kx = 1) = false := dF k1;have cb : (Kx == 1) = false := bF k1;have iM := LH (∀ v' w', w'.ownsRow (w.heap.size + 1 + 1) 25 3 v' (N5 + 1) (xs ++ (zV Kx A2 n2 c2 B2 m2 d2)) -> (wr.alloc (zC Kx A2 n2 c2 B2 m2 d2)).grownBy w' (Value.slice B5 N5 d5).ownBlock -> (v'.ownBlock = (Value.slice B5 N5 d5).ownBlock \/ v'.ownBlock = some (wr.alloc (zC Kx A2 n2 c2 B2 m2 d2)).heap.size) -> aD (fun b => p b \/ w.heap.size + 1 < b) (w.heap.size + 1 + 1) v' ((x.kids.take (i + 1)).filter fun y => decide (y.kind ≠ 1)) w' /\ Below ((w.alloc (zC K A n c (some ⟨b, o, none⟩) m d)).alloc zR).heap.size ((w.alloc (zC K A n c (some ⟨b, o, none⟩) m d)).alloc zR) w') fun v' w' hown hg hat => ⟨by
          rw [iL.out, if_neg k1];exact aD.app (m := 1) (ys := (zV Kx A2 n2 c2 B2 m2 d2)) HC.out (ai _ _) (by rw [fI.out.2]; exact aM.one (aY.mono (fun b hb => ⟨.inl hb, fun e => by have h1 := (HO.out.lt b e.symm).1; have := HP.out b hb; omega⟩) _ ((fI.out.1.below (ah bg.out (ai _ _))).q))) rfl hg hat (by rw [<- bB.out.1]; exact hown), eH (aF HI.out.2 _) hg (fun g hg => by have h9 := (HO.out.lt _ hg).1; simpa using h9)⟩
         have hs1 : N5 + 1 <= maxLen := by have h1 := bB.out.2; unfold maxLen; omega
         have hs2 : (N5 + 1) * 56 <= 140737488355328 := by have h1 := bB.out.2; omega
         clear k1
         go_wp2_with (first
          | (refine aG rfl (.tmp 39) rfl b (o + i * 3) rfl Kx A2 B2 n2 c2 m2 d2 aP.out ?_)
          | (at_builtin; refine gW rfl (.tmp 35) (.tmp 41) 23 23 rfl (w.heap.size + 1 + 1) 25 i0 _ 3 56 Tryz.underlying23 aZ hz0 hz1 hz2 rfl _ _ _ rfl (gu HO.out (ai _ _)) _ 1 (zV Kx A2 n2 c2 B2 m2 d2) rfl (jR hz1 _ _ _ _ _ _ _ _) hs1 hs2 (by have := HI.out.2.size; simp at this ⊢; omega) ?_; intro v5 w5 ed cB dW; have bf := Lh (iM.out _ _ ed cB dW); clear ed cB dW))
         go_roundg gg
         case rel => exact ⟨i + 1, by omega, by go_num, bf⟩
         case measure => omega
     · obtain rfl : m = i := by omega
       have oq := LH (L5 = x.kids.filter fun y => decide (y.kind ≠ 1)) (by rw [nS, HX.out.1.o.mlen, List.take_length]);have uM := LH (eD (fun b => (fun b => p b \/ w.heap.size + 1 < b) b /\ b < wr.heap.size) wr L5 B5 N5 d5) (by
         have h1 := HI.out.1;rw [<- nS] at h1;obtain ⟨B6, m6, d6, e6, h6⟩ := Gt (q2 := (fun b => p b \/ w.heap.size + 1 < b)) h1 (fun b hb => hb) (fun b hb => .inr (by omega));rw [Value.slice.injEq] at e6;obtain ⟨rfl, rfl, rfl⟩ := e6;exact h6.lt)
       have xZ := LH (Cz 86 #[.slice B5 N5 d5] wr (dB (fun b => (fun b => p b \/ w.heap.size + 1 < b) b /\ b < wr.heap.size) wr (altP L5))) (OG wr (fun b hb => hb.2) L5 B5 N5 d5 uM.out (fun y hy => by rw [oq.out] at hy; exact HX.out.2.1.2.kids y (List.mem_filter.1 hy).1) (by rw [oq.out]; have h1 := Hy (fun y : Rx => decide (y.kind ≠ 1)) x.kids; have h2 := HX.out.2.2.1; have h3 := fP x; omega));have JI := LH (starP x = .mk 5 [] [altP L5]) (by rw [HS5.out, oq.out]);have hb2 : wr.cell? ⟨w.heap.size, 2, none⟩ = some (.slice B m d) := dw.out.cell (j := 2) rfl;clear nS
       go_upto_region 13 with (first
         |((with_reducible refine (xZ.out).mono ?_); rintro e w6 hp; obtain ⟨A8, n8, c8, B8, m8, d8, rfl, h8, aK⟩ := dV hp; obtain ⟨K8, aX⟩ := eX ((altP L5).kind); rw [<- aX]; have H6 := LH (ak (fun b => p b \/ w.heap.size + 1 < b) w6 (altP L5) A8 n8 c8 B8 m8 d8 /\ Below ((w.alloc (zC K A n c B m d)).alloc zR).heap.size ((w.alloc (zC K A n c B m d)).alloc zR) w6 /\ K8 = (altP L5).kind) ⟨h8.mono (fun b hb => by
            rcases hb with hb | hb
            · exact hb.1
            · exact .inr (by have := HI.out.2.size; simp at this; omega)), ah HI.out.2 aK, aX⟩; have HBX6 := Lh (dw.out.below aK dw.out.lt); clear hp h8 aK aX)
         |(refine wB rfl 25 (.tmp 1) (.tmp 44) rfl w.heap.size 0 rfl (zV K8 A8 n8 c8 B8 m8 d8) rfl HBX6.out 3 au ?_; intro w7 ag; have y9 := Lh ag; clear ag))
       have dw := LH (ae w7 w.heap.size (zV K8 A8 n8 c8 B8 m8 d8) 25) (by simpa using y9.out.1);have HZ7 := LH (ae w7 (w.heap.size + 1) zL 25) (y9.out.other (HZ.out _ H6.out.2.1) (by omega));have JL := LH (Bw w w7 /\ w.heap.size + 1 + 1 <= w7.heap.size) ⟨y9.out.below (ah (aF (ai _ _) _) H6.out.2.1) (Nat.le_refl _), by rw [y9.out.2.2.1]; have := H6.out.2.1.size; simp at this; omega⟩;have HY := LH (ak (fun b => p b \/ w.heap.size + 1 < b) w7 (altP L5) A8 n8 c8 B8 m8 d8 /\ K8 = (altP L5).kind) ⟨il H6.out.1 y9.out (fun b hb => by rcases hb with hb | hb; (have := HP.out b hb; omega); omega), H6.out.2.2⟩;have oF := LH (∀ W, Below (w7.alloc (zC K8 A8 n8 c8 B8 m8 d8)).heap.size (w7.alloc (zC K8 A8 n8 c8 B8 m8 d8)) W -> ae W (w7.heap.size) (zV K8 A8 n8 c8 B8 m8 d8) 25 /\ ak (fun b => p b \/ w.heap.size + 1 < b) W (altP L5) A8 n8 c8 B8 m8 d8 /\ (Bw w W /\ ae W (w.heap.size + 1) zL 25)) fun W hW => ⟨(ae.at w7 (zV K8 A8 n8 c8 B8 m8 d8) _ 25 _ rfl (by simp)).below hW (by simp), HY.out.1.below (ah (ai _ _) hW), ah (aF JL.out.1 _) hW, (HZ7.out.alloc _).below hW (by have := JL.out.2; simp; omega)⟩
       have J2 := LH (∀ W, Below (w7.alloc (zC K8 A8 n8 c8 B8 m8 d8)).heap.size (w7.alloc (zC K8 A8 n8 c8 B8 m8 d8)) W -> ∀ w9, aT W w9 (w.heap.size + 1) (List.take 0 zL ++ (zV 5 none 0 0 (pt w7.heap.size) 1 1) ++ List.drop (0 + 3) zL) 25 -> ae w9 (w.heap.size + 1) (zV 5 none 0 0 (pt w7.heap.size) 1 1) 25 /\ dB p w (starP x) (.returned (.agg #[.int .i64 5, .slice none 0 0, .slice (pt w7.heap.size) 1 1])) w9) fun W hW w9 hst => ⟨by simpa using hst.1, by
         have h1 := oF.out W hW;have hg : w.heap.size + 1 + 1 <= w7.heap.size := by exact JL.out.2
         rw [JI.out];exact ⟨_, _, _, _, _, _, rfl, (K4 (q := (fun b => p b \/ w.heap.size + 1 < b)) 5 (by constructor <;> decide) HY.out.2 (il h1.2.1 hst (fun b hb => by rcases hb with hb | hb; (have := HP.out b hb; omega); omega)) (hst.other h1.1 (by omega)) (.inr (by omega))).mono (fun b hb => hb.imp id (fun h => by omega)), hst.below h1.2.2.1 (by omega)⟩⟩
       have JP := aS dw.out
       go_wp2_with (first
         |(refine aG rfl (.tmp 1) rfl w.heap.size (0) rfl K8 A8 B8 n8 c8 m8 d8 JP ?_)
         |((with_reducible refine (p8 _ _ _ _ _).mono ?_); rintro e w8 ⟨rfl, aK⟩; have DK := Lh (oF.out _ aK); have HST := Lh (J2.out _ aK); clear aK)
         |(refine wB rfl 25 (.tmp 2) (.tmp 47) rfl (w.heap.size + 1) 0 rfl (zV 5 none 0 0 (pt w7.heap.size) 1 1) rfl DK.out.2.2.2 3 au ?_; intro w9 ag; have aB := Lh (HST.out _ ag); clear ag))
       exact cK rfl (w.heap.size + 1) rfl (C := (zV 5 none 0 0 (pt w7.heap.size) 1 1)) (T := 25) aB.out.1 _ Tryz.underlying25 rfl au rfl aB.out.2
   ·have da : decide (K = 4) = false := dF (by omega);have db : (K == 4) = false := bF (by omega);have JI := LH (starP x = .mk 5 [] [x]) (by rw [HS5.out, if_neg (by rw [<- HX.out.2.1.1]; exact k4)]);have dw := bK;have BLX := BL0;have HY := LH (ak (fun b => p b \/ w.heap.size + 1 < b) ((w.alloc (zC K A n c B m d)).alloc zR) x A n c B m d /\ K = x.kind) ⟨(HX.out.1.below (aF (ai _ _) _)).mono (fun b hb => .inl hb), HX.out.2.1.1⟩;clear k0 k5 k4 bO;go_enter Tryz.func87, Tryz.ntmps87;have oF := LH (∀ W, Below (((w.alloc (zC K A n c B m d)).alloc zR).alloc (zC K A n c B m d)).heap.size (((w.alloc (zC K A n c B m d)).alloc zR).alloc (zC K A n c B m d)) W -> ae W (w.heap.size + 1 + 1) (zV K A n c B m d) 25 /\ ak (fun b => p b \/ w.heap.size + 1 < b) W (x) A n c B m d /\ Below ((w.alloc (zC K A n c B m d)).alloc zR).heap.size ((w.alloc (zC K A n c B m d)).alloc zR) W) fun W hW => ⟨(ae.at ((w.alloc (zC K A n c B m d)).alloc zR) (zV K A n c B m d) _ 25 _ rfl (by simp)).below hW (by simp), HY.out.1.below (ah (ai _ _) hW), ah (aF BLX.out _) hW⟩
    have J2 := LH (∀ W, Below (((w.alloc (zC K A n c B m d)).alloc zR).alloc (zC K A n c B m d)).heap.size (((w.alloc (zC K A n c B m d)).alloc zR).alloc (zC K A n c B m d)) W -> ∀ w9, aT W w9 (w.heap.size + 1) (List.take 0 zL ++ (zV 5 none 0 0 (pt (w.heap.size + 1 + 1)) 1 1) ++ List.drop (0 + 3) zL) 25 -> ae w9 (w.heap.size + 1) (zV 5 none 0 0 (pt (w.heap.size + 1 + 1)) 1 1) 25 /\ dB p w (starP x) (.returned (.agg #[.int .i64 5, .slice none 0 0, .slice (pt (w.heap.size + 1 + 1)) 1 1])) w9) fun W hW w9 hst => ⟨by simpa using hst.1, by
     have h1 := oF.out W hW;have hg : w.heap.size + 1 + 1 <= w.heap.size + 1 + 1 := by omega
     rw [JI.out];exact ⟨_, _, _, _, _, _, rfl, (K4 (q := (fun b => p b \/ w.heap.size + 1 < b)) 5 (by constructor <;> decide) HY.out.2 (il h1.2.1 hst (fun b hb => by rcases hb with hb | hb; (have := HP.out b hb; omega); omega)) (hst.other h1.1 (by omega)) (.inr (by omega))).mono (fun b hb => hb.imp id (fun h => by omega)), hst.below (ah (aF (ai _ _) _) h1.2.2) (by omega)⟩⟩
    have JP := aS dw.out
    go_wp2_with (first
     | (refine aG rfl (.tmp 1) rfl w.heap.size (0) rfl K A B n c m d JP ?_)
     | ((with_reducible refine (p8 _ _ _ _ _).mono ?_); rintro e w8 ⟨rfl, aK⟩; have DK := Lh (And.intro (ah (aF BLX.out _) aK) True.intro); have HST := Lh (J2.out _ aK); clear aK)
     | (refine wB rfl 25 (.tmp 2) (.tmp 47) rfl (w.heap.size + 1) 0 rfl (zV 5 none 0 0 (pt (w.heap.size + 1 + 1)) 1 1) rfl (HZ.out _ (DK.out.1)) 3 au ?_; intro w9 ag; have aB := Lh (HST.out _ ag); clear ag))
    exact cK rfl (w.heap.size + 1) rfl (C := (zV 5 none 0 0 (pt (w.heap.size + 1 + 1)) 1 1)) (T := 25) aB.out.1 _ Tryz.underlying25 rfl au rfl aB.out.2
theorem Qm {p : Nat -> Prop} (w : World) (hp : ∀ b, p b -> b < w.heap.size) (l : List Rx) (B : Option Addr) (m d : Nat) (hm : m = l.length) (iA : m <= d) (fG : d <= 9223372036854775807) (hc : aj l <= 1000000000000) (hk : bA p w l B) : Calls Tryz.prog 85 #[.slice B m d] w (dB p w (seqP l)) := by
 obtain ⟨i0, aZ, hz0, hz1, hz2⟩ := info_parts lG;obtain ⟨q, hq⟩ : ∃ q : Nat -> Prop, q = fun b => (p b \/ w.heap.size < b) := ⟨_, rfl⟩
 have HL := LH (m = l.length /\ bA p w l B) ⟨hm, hk⟩;have iw := LH (aj l <= 1000000000000 /\ ∀ i, aj (l.take i) <= aj l) ⟨hc, fun i => vU i⟩;have HQ := LH ((∀ b, p b -> q b) /\ (∀ b, w.heap.size < b -> q b) /\ (∀ b, q b -> b ≠ w.heap.size) /\ (∀ b, q b -> p b \/ w.heap.size <= b) /\ ∀ b, p b -> b < w.heap.size) (by subst hq; exact ⟨fun b h => .inl h, fun b h => .inr h, fun b h => by rcases h with h | h; (have := hp b h; omega); omega, fun b h => by rcases h with h | h; exact .inl h; exact .inr (by omega), hp⟩);have HZ := LH (∀ W, Below (w.alloc zR).heap.size (w.alloc zR) W -> ae W w.heap.size zL 25) fun W hb => (ae.new' w zL _ 25 rfl).below hb (by simp)
 clear hm hk hc hp hq;go_enter Tryz.func85, Tryz.ntmps85;go_wp2_with fail
 go_loopg [3, 4] m (fun g s3 s4 wr => ∃ (i : Nat) (rs : List Rx), i + g = m /\ s4 = .int .i64 (i : Int) /\ Hid (seqGo (l.drop i) rs = seqGo l [] /\ (rs.length : Int) <= aj (l.take i) /\ aD q (w.heap.size + 1) s3 rs wr /\ Below (w.alloc zR).heap.size (w.alloc zR) wr))
 case atStart => exact ⟨0, [], by omega, rfl, Lh ⟨rfl, by simp [aj], aD.nil _ _ _, Below.refl _ _⟩⟩
 case round =>
  obtain ⟨i, rs, hi, rfl, HI⟩ := hrel;obtain ⟨B5, d5, hv, tL, lF, jg⟩ := HI.out.2.2.1.e;obtain ⟨N5, bD⟩ := eX rs.length;rw [<- bD] at hv tL;subst hv;have bB := Lh bD;have Ev := Lh jg;obtain ⟨xs, hC, hO⟩ := HI.out.2.2.1;rw [<- bD] at hO;have HC := Lh hC;have HO := Lh hO;have bg := LH (Bw w wr) (ah (ai _ _) HI.out.2.2.2);have EP := LH (w.heap.size + 1 <= wr.heap.size) (by have := HI.out.2.2.2.size; simpa using this);have rZ := LH (∀ b, p b -> q b /\ some b ≠ (Value.slice B5 N5 d5).ownBlock) fun b hb => ⟨HQ.out.1 b hb, fun e => by
   have h1 := (HO.out.lt b e.symm).1;have := HQ.out.2.2.2.2 b hb;omega⟩
  clear jg hC hO bD
  by_cases hlt : i < m
  ·obtain ⟨gg, rfl⟩ : ∃ g, gk = g + 1 := ⟨gk - 1, by omega⟩;have aH : i < l.length := by rw [<- HL.out.1]; exact hlt
   obtain ⟨b, o, rfl⟩ := HL.out.2.place (by omega);obtain ⟨A, n, c, B2, m2, d2, hrg, ax⟩ := HL.out.2.kid aH;obtain ⟨x, hx⟩ := eX (av l i);rw [<- hx] at hrg ax;obtain ⟨K, hK⟩ := eX x.kind;rw [<- hK] at hrg;have aP := Lh (iW hrg bg.out);have hc0 : wr.cell? ⟨b, o + i * 3, none⟩ = some (.int .i64 K) := aP.out 0 _ rfl;have hc2 : wr.cell? ⟨b, o + i * 3 + 2, none⟩ = some (.slice B2 m2 d2) := aP.out 2 _ rfl;have gz := Lh ax;have bQ := LH (K = x.kind /\ x = av l i) ⟨hK, hx⟩;have HST := LH (seqGo (l.drop i) rs = if x.kind = 0 then none else if x.kind = 3 then seqGo (l.drop (i + 1)) (rs ++ x.kids) else if x.kind = 1 then seqGo (l.drop (i + 1)) rs else seqGo (l.drop (i + 1)) (rs ++ [x])) (by rw [KL aH, hx, gI aH]);have lw := LH (aj (l.take (i + 1)) = aj (l.take i) + az x /\ 1 <= az x /\ aj (l.take (i + 1)) <= 1000000000000) ⟨by rw [zB aH, hx, gI aH], fQ x, by have := iw.out.1; have := iw.out.2 (i + 1); omega⟩;clear hrg ax hx hK aH
   by_cases k0 : K = 0
   ·skip
    have HE := LH (seqP l = .mk 0 [] []) (by
     have h1 := HI.out.1;rw [HST.out, if_pos (by rw [<- bQ.out.1]; exact k0)] at h1;unfold seqP;rw [<- h1])
    have ab : (K == 0) = true := bT (by omega);clear k0
    go_wp2_with (refine wB rfl 25 (.tmp 2) (.tmp 17) rfl w.heap.size 0 rfl zL rfl (HZ.out _ HI.out.2.2.2) 3 au ?_; intro w9 ag; have aB := LH (ae w9 w.heap.size zL 25 /\ Bw w w9) ⟨ag.1, ag.below (ah (ai _ _) HI.out.2.2.2) (Nat.le_refl _)⟩; clear ag)
    exact cK rfl w.heap.size rfl (C := zL) (T := 25) aB.out.1 _ Tryz.underlying25 rfl au rfl (by rw [HE.out]; exact lI (ak.flat p w9 (by constructor <;> decide)) (fun b hb => .inl hb) aB.out.2)
   ·by_cases k3 : K = 3
    ·skip
     have HN := LH (seqGo (l.drop (i + 1)) (rs ++ x.kids) = seqGo l [] /\ ((rs ++ x.kids).length : Int) <= aj (l.take (i + 1))) ⟨by
      have h1 := HI.out.1;rw [HST.out, if_neg (by rw [<- bQ.out.1]; omega), if_pos (by rw [<- bQ.out.1]; exact k3)] at h1;exact h1, by rw [List.length_append]; have := HI.out.2.1; have := lw.out; have := vZ x; omega⟩
     have hs1 : N5 + m2 <= maxLen := by have h1 := HN.out.2; rw [List.length_append, <- gz.out.o.mlen, <- bB.out] at h1; have := lw.out.2.2; unfold maxLen; omega
     have hs2 : (N5 + m2) * 56 <= 140737488355328 := by have h1 := HN.out.2; rw [List.length_append, <- gz.out.o.mlen, <- bB.out] at h1; have := lw.out.2.2; omega
     obtain ⟨ys, gG, jl⟩ := zY (w := wr) (size := i0.size) hz1 gz.out.o.mlen (gz.out.kids.1.below bg.out) (d := d2);have pY := Lh (gG.mono rZ.out);have oI := Lh jl;have ab : (K == 0) = false := bF (by omega);have bb : (K == 3) = true := bT (by omega);clear k0 k3 gG jl
     go_wp2_with (at_builtin; refine gW rfl (.tmp 24) (.tmp 29) 23 23 rfl (w.heap.size + 1) 25 i0 _ 3 56 Tryz.underlying23 aZ hz0 hz1 hz2 rfl _ _ _ rfl HO.out _ m2 ys rfl oI.out hs1 hs2 EP.out ?_; intro v5 w5 ed cB dW; have bf := LH (aD q (w.heap.size + 1) v5 (rs ++ x.kids) w5 /\ Below (w.alloc zR).heap.size (w.alloc zR) w5) ⟨aD.app HC.out (Below.refl _ _) pY.out gz.out.o.mlen cB dW (by rw [<- bB.out]; exact ed), eH HI.out.2.2.2 cB (fun g hg => by have h9 := (HO.out.lt _ hg).1; simpa using h9)⟩; clear ed cB dW)
     go_roundg gg
     case rel => exact ⟨i + 1, rs ++ x.kids, by omega, by go_num, Lh ⟨HN.out.1, HN.out.2, bf.out.1, bf.out.2⟩⟩
     case measure => omega
    ·by_cases k1 : K = 1
     ·skip
      have HN := LH (seqGo (l.drop (i + 1)) rs = seqGo l [] /\ (rs.length : Int) <= aj (l.take (i + 1))) ⟨by
       have h1 := HI.out.1;rw [HST.out, if_neg (by rw [<- bQ.out.1]; omega), if_neg (by rw [<- bQ.out.1]; omega), if_pos (by rw [<- bQ.out.1]; exact k1)] at h1;exact h1, by have := HI.out.2.1; have := lw.out; omega⟩
      have ab : (K == 0) = false := bF (by omega);have bb : (K == 3) = false := bF (by omega);have cb : (K == 1) = true := bT (by omega);clear k0 k3 k1;go_wp2_with fail
      go_roundg gg
      case rel => exact ⟨i + 1, rs, by omega, by go_num, Lh ⟨HN.out.1, HN.out.2, HI.out.2.2.1, HI.out.2.2.2⟩⟩
      case measure => omega
     ·skip
      have HN := LH (seqGo (l.drop (i + 1)) (rs ++ [x]) = seqGo l [] /\ ((rs ++ [x]).length : Int) <= aj (l.take (i + 1))) ⟨by
       have h1 := HI.out.1;rw [HST.out, if_neg (by rw [<- bQ.out.1]; omega), if_neg (by rw [<- bQ.out.1]; omega), if_neg (by rw [<- bQ.out.1]; omega)] at h1;exact h1, by rw [List.length_append]; have := HI.out.2.1; have := lw.out; have := fQ x; simp; omega⟩
      have hs1 : N5 + 1 <= maxLen := by have h1 := HN.out.2; rw [List.length_append, <- bB.out] at h1; have := lw.out.2.2; unfold maxLen; simp at h1; omega
      have hs2 : (N5 + 1) * 56 <= 140737488355328 := by have h1 := HN.out.2; rw [List.length_append, <- bB.out] at h1; have := lw.out.2.2; simp at h1; omega
      have ab : (K == 0) = false := bF (by omega);have bb : (K == 3) = false := bF (by omega);have cb : (K == 1) = false := bF (by omega);clear k0 k3 k1
      go_wp2_with (first
       | (refine aG rfl (.tmp 40) rfl b (o + i * 3) rfl K A B2 n c m2 d2 aP.out ?_)
       | (at_builtin; refine gW rfl (.tmp 37) (.tmp 42) 23 23 rfl (w.heap.size + 1) 25 i0 _ 3 56 Tryz.underlying23 aZ hz0 hz1 hz2 rfl _ _ _ rfl (gu HO.out (ai _ _)) _ 1 (zV K A n c B2 m2 d2) rfl (jR hz1 _ _ _ _ _ _ _ _) hs1 hs2 (Nat.le_trans EP.out (ai _ _).size) ?_; intro v5 w5 ed cB dW; have bf := LH (aD q (w.heap.size + 1) v5 (rs ++ [x]) w5 /\ Below (w.alloc zR).heap.size (w.alloc zR) w5) ⟨aD.app (m := 1) (ys := (zV K A n c B2 m2 d2)) HC.out (ai _ _) (by rw [bQ.out.1]; exact aM.one (aY.mono rZ.out _ ((gz.out.below (ah bg.out (ai _ _))).q))) rfl cB dW (by rw [<- bB.out]; exact ed), eH (aF HI.out.2.2.2 _) cB (fun g hg => by have h9 := (HO.out.lt _ hg).1; simpa using h9)⟩; clear ed cB dW))
      go_roundg gg
      case rel => exact ⟨i + 1, rs ++ [x], by omega, by go_num, Lh ⟨HN.out.1, HN.out.2, bf.out.1, bf.out.2⟩⟩
      case measure => omega
  ·skip
   obtain rfl : m = i := by omega
   have zf := LH (seqP l = seqEnd rs) (by
    have h1 := HI.out.1;rw [HL.out.1, List.drop_length, seqGo] at h1;unfold seqP;rw [<- h1])
   by_cases z0 : N5 = 0
   ·subst z0;have HE := LH (seqP l = .mk 1 [] []) (by rw [zf.out, List.eq_nil_of_length_eq_zero bB.out.symm]; rfl)
    go_wp2_with (refine wB rfl 25 (.tmp 2) (.tmp 47) rfl w.heap.size 0 rfl (zV 1 none 0 0 none 0 0) rfl (HZ.out _ HI.out.2.2.2) 3 au ?_; intro w9 ag; have aB := LH (ae w9 w.heap.size (zV 1 none 0 0 none 0 0) 25 /\ Bw w w9) ⟨ag.1, ag.below (ah (ai _ _) HI.out.2.2.2) (Nat.le_refl _)⟩; clear ag)
    exact cK rfl w.heap.size rfl (C := (zV 1 none 0 0 none 0 0)) (T := 25) aB.out.1 _ Tryz.underlying25 rfl au rfl (by rw [HE.out]; exact lI (ak.flat p w9 (by constructor <;> decide)) (fun b hb => .inl hb) aB.out.2)
   ·by_cases z1 : N5 = 1
    ·subst z1;obtain ⟨x, hx⟩ : ∃ x, rs = [x] := by
      match rs, bB.out with
      |[x], _ => exact ⟨x, rfl⟩
     have HE := LH (seqP l = x) (by rw [zf.out, hx]; rfl);obtain ⟨g, eg, _, _⟩ := Ev.out.2 (by rw [hx]; simp);subst eg;obtain ⟨A1, n1, c1, B1, m1, d1, hrg, ax⟩ := Ev.out.1.kid (i := 0) (by rw [hx]; simp);have Fe : av rs 0 = x := by rw [hx]; rfl
     rw [Fe] at hrg ax;obtain ⟨K1, vC⟩ := eX x.kind;rw [<- vC] at hrg;have aP := Lh hrg;have gz := LH (ak q wr x A1 n1 c1 B1 m1 d1 /\ K1 = x.kind) ⟨ax.mono fun b hb => hb.1, vC⟩;clear hrg ax Fe vC hx
     go_wp2_with (first
      |(refine aG rfl (.tmp 52) rfl g (0 + 0 * 3) rfl K1 A1 B1 n1 c1 m1 d1 aP.out ?_)
      |(refine wB rfl 25 (.tmp 2) (.tmp 53) rfl w.heap.size 0 rfl (zV K1 A1 n1 c1 B1 m1 d1) rfl (HZ.out _ HI.out.2.2.2) 3 au ?_; intro w9 ag; have aB := LH (ae w9 w.heap.size (zV K1 A1 n1 c1 B1 m1 d1) 25 /\ Bw w w9 /\ ak q w9 x A1 n1 c1 B1 m1 d1) ⟨ag.1, ag.below (ah (ai _ _) HI.out.2.2.2) (Nat.le_refl _), il gz.out.1 ag HQ.out.2.2.1⟩; clear ag))
     exact cK rfl w.heap.size rfl (C := (zV K1 A1 n1 c1 B1 m1 d1)) (T := 25) aB.out.1 _ Tryz.underlying25 rfl au rfl (by rw [HE.out, gz.out.2]; exact ⟨_, _, _, _, _, _, rfl, aB.out.2.2.mono HQ.out.2.2.2.1, aB.out.2.1⟩)
    ·have HE := LH (seqP l = .mk 3 [] rs) (by
      rw [zf.out]
      match rs, bB.out with
      |a :: b :: t, _ => rfl
      |[], e => simp at e; omega
      |[a], e => simp at e; omega)
     go_wp2_with (first
      |((with_reducible refine (p8 _ _ _ _ _).mono ?_); rintro e w6 ⟨rfl, eB⟩; have H6 := LH (Below (w.alloc zR).heap.size (w.alloc zR) w6 /\ aD q (w.heap.size + 1) (.slice B5 N5 d5) rs w6) ⟨ah HI.out.2.2.2 eB, HI.out.2.2.1.below eB⟩; clear eB)
      |(refine wB rfl 25 (.tmp 2) (.tmp 55) rfl w.heap.size 0 rfl (zV 3 none 0 0 B5 N5 d5) rfl (HZ.out _ H6.out.1) 3 au ?_; intro w9 ag; have aB := LH (ae w9 w.heap.size (zV 3 none 0 0 B5 N5 d5) 25 /\ Bw w w9 /\ aD q (w.heap.size + 1) (.slice B5 N5 d5) rs w9) ⟨ag.1, ag.below (ah (ai _ _) H6.out.1) (Nat.le_refl _), H6.out.2.other (dG ag) HQ.out.2.2.1 (by omega)⟩; clear ag))
     exact cK rfl w.heap.size rfl (C := (zV 3 none 0 0 B5 N5 d5)) (T := 25) aB.out.1 _ Tryz.underlying25 rfl au rfl (by rw [HE.out]; exact ⟨_, _, _, _, _, _, rfl, (CL (ak.flat q w9 (K := 3) (by constructor <;> decide)) aB.out.2.2 (fun b hb => HQ.out.2.1 b (by omega)) rfl).mono HQ.out.2.2.2.1, aB.out.2.1⟩)
theorem xG {w : World} {r : Rx} {K : Int} {A B : Option Addr} {n c m d : Nat} (hK : K = r.kind) (h : aI w r A n c B m d) (V : Bool) (hV : V = aC r) : Calls Tryz.prog 15 #[.agg #[.int .i64 K, .slice A n c, .slice B m d]] w (aU w V) := by
 subst hK;exact Sr _ r (Nat.le_refl _) V hV A B n c m d w h
theorem TI {w : World} {r : Rx} {K : Int} {A B : Option Addr} {n c m d : Nat} (hK : K = r.kind) (h : aI w r A n c B m d) (V : Bool) (hV : V = aO r) : Calls Tryz.prog 48 #[.agg #[.int .i64 K, .slice A n c, .slice B m d]] w (aU w V) := by
 subst hK;exact Ou _ r (Nat.le_refl _) V hV A B n c m d w h
theorem TL {w : World} (r : Rx) {A B : Option Addr} {n c m d : Nat} (h : aI w r A n c B m d) (E : Bool) (hE : E = (aC r && aO r)) : Calls Tryz.prog 17 #[.agg #[.int .i64 r.kind, .slice A n c, .slice B m d]] w (aU w E) := by
 obtain ⟨K, hK⟩ := eX r.kind;have HX := LH (aI w r A n c B m d /\ K = r.kind) ⟨h, hK⟩;have bK := LH (ae (w.alloc (zC K A n c B m d)) w.heap.size (zV K A n c B m d) 25) (ae.at w (zV K A n c B m d) _ 25 _ rfl rfl);have bO := aS bK.out;rw [<- hK]
 cases hv : aC r with
 |true =>
  have HV := LH (true = aC r) hv.symm;rw [hv, Bool.true_and] at hE;have HE := Lh hE;clear h hK hv hE;go_enter Tryz.func17, Tryz.ntmps17
  go_wp2_with (first
   |(refine aG rfl (.tmp 1) rfl w.heap.size (0) rfl K A B n c m d bO ?_)
   |((with_reducible refine (xG HX.out.2 (HX.out.1.below (ai _ _)) true HV.out).mono ?_); rintro e w1 hp; obtain ⟨rfl, hb⟩ := aV hp; have H1 := LH (Bw w w1) (ah (ai _ _) hb); have nI := aS (bK.out.below hb (by simp)); clear hp hb)
   |(refine lY (by rfl) (.tmp 1) rfl w.heap.size 0 rfl K A B n c m d nI ?_)
   |((with_reducible refine (TI HX.out.2 (HX.out.1.below H1.out) E HE.out).mono ?_); rintro e w2 hp; obtain ⟨rfl, hb⟩ := aV hp; have H2 := LH (Bw w w2) (ah H1.out hb); clear hp hb))
  go_ret;exact ⟨rfl, H2.out⟩
 |false =>
  have HV := LH (false = aC r) hv.symm;rw [hv, Bool.false_and] at hE;subst hE;clear h hK hv;go_enter Tryz.func17, Tryz.ntmps17
  go_wp2_with (first
   |(refine aG rfl (.tmp 1) rfl w.heap.size (0) rfl K A B n c m d bO ?_)
   |((with_reducible refine (xG HX.out.2 (HX.out.1.below (ai _ _)) false HV.out).mono ?_); rintro e w1 hp; obtain ⟨rfl, hb⟩ := aV hp; have H1 := LH (Bw w w1) (ah (ai _ _) hb); clear hp hb))
  go_ret;exact ⟨rfl, H1.out⟩
end Go.Proofs.YtakcjlimbabbfaaGreatDoor
