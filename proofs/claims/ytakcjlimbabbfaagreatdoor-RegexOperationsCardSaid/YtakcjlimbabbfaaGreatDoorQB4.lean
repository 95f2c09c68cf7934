/- Part of the proof. -/
import Derived.Test.YtakcjlimbabbfaaGreatDoorQB3
set_option linter.unusedVariables false
set_option linter.unusedSimpArgs false
set_option maxRecDepth 1000000
set_option maxHeartbeats 8000000
namespace Go.Proofs.YtakcjlimbabbfaaGreatDoor
open Go.RowKit
open Alp
open Rgx
theorem yx {s : Int} : ∀ {ks : List Rx}, (∀ x ∈ ks, NF x) -> ah (ks.map (aT s)) <= ah ks * ah ks
 |[], _ => by simp [ah]
 |r :: rs, h => by
  have ih := yx (s := s) (ks := rs) fun x hx => h x (by simp [hx])
  rw [List.map_cons];simp only [ah];exact vz (cO r) (dN rs) (lJ (h r (by simp)).val) ih
theorem Ce {s : Int} (ks : List Rx) (hN : ∀ x ∈ ks, NF x) (hcm : ah ks + 1 <= 1000000) (ih : ∀ x ∈ ks, jR s x) {p : Nat -> Prop} (w : World) (hp : ∀ b, p b -> b < w.heap.size) (hd : DB w) (B : Option Addr) (m d : Nat) (hm : m = ks.length) (hmd : m <= d) (hdm : d <= 9223372036854775807) (hk : aU p w ks B) : Calls Tryz.prog 90 #[.slice B m d, .int .i64 s] w (D2 p w (altP (ks.map (aT s))) (ks.any aL)) := by
 have HL : Hid (m = ks.length /\ aU p w ks B /\ (∀ x ∈ ks, NF x) /\ ah ks + 1 <= 1000000) := Lh ⟨hm, hk, hN, hcm⟩;have HIH := Lh ih;have HDB := Lh hd;have HP := Lh hp;obtain ⟨R, hR⟩ : ∃ R, R = altP (ks.map (aT s)) := ⟨_, rfl⟩;obtain ⟨VA, hVA⟩ : ∃ V, V = ks.any aL := ⟨_, rfl⟩;rw [<- hR, <- hVA];have HR := Lh hR;have HV := Lh hVA;have HZ : Hid (aa (w.alloc zR) w.heap.size zL 25) := Lh (aa.at w zL _ 25 _ rfl rfl);have hm6 : m <= 1000000 := by have := iF ks; omega
 have hmk := sJ m (by omega);have H1 : Hid (az (fun b => p b \/ w.heap.size + 1 <= b) (w.heap.size + 1) (.slice (some ⟨w.heap.size + 1, 0, none⟩) m m) (List.replicate m (.mk 0 [] [])) ((w.alloc zR).alloc (.cells (madeCells #[.int .i64 0, .slice none 0 0, .slice none 0 0] (m * 3)) 25)) /\ Below (w.alloc zR).heap.size (w.alloc zR) ((w.alloc zR).alloc (.cells (madeCells #[.int .i64 0, .slice none 0 0, .slice none 0 0] (m * 3)) 25)) /\ w.heap.size + 1 < ((w.alloc zR).alloc (.cells (madeCells #[.int .i64 0, .slice none 0 0, .slice none 0 0] (m * 3)) 25)).heap.size) := Lh ⟨vJ (by simp) (by simp) (by unfold maxLen; omega), ag _ _, by simp⟩;clear hm hk hN hcm ih hp hd hR hVA;go_enter Tryz.func90, Tryz.ntmps90;go_wp2_with fail
 go_loopg [7, 17] m (fun g s7 s17 wr => ∃ (i : Nat) (O : Bool) (cur : List Rx), i + g = m /\ s17 = .int .i64 (i : Int) /\ s7 = .bool O /\ Hid (cur.length = m /\ (∀ j, j < i -> ak cur j = aT s (ak ks j)) /\ O = (ks.take i).any aL /\ az (fun b => p b \/ w.heap.size + 1 <= b) (w.heap.size + 1) (.slice (some ⟨w.heap.size + 1, 0, none⟩) m m) cur wr /\ Below (w.alloc zR).heap.size (w.alloc zR) wr /\ w.heap.size + 1 < wr.heap.size))
 case atStart => exact ⟨0, false, List.replicate m (.mk 0 [] []), by omega, rfl, rfl, Lh ⟨by simp, fun j hj => by omega, by simp, H1.out.1, H1.out.2.1, H1.out.2.2⟩⟩
 case round =>
  obtain ⟨i, O, cur, hi, rfl, rfl, HI⟩ := hrel;have HO : Hid (O = (ks.take i).any aL) := Lh HI.out.2.2.1;have HO : Hid ((ks.take i).any aL = O) := Lh HO.out.symm
  by_cases hlt : i < m
  ·obtain ⟨gg, rfl⟩ : ∃ g, gk = g + 1 := ⟨gk - 1, by omega⟩;have HIL : Hid (i < ks.length) := Lh (by rw [<- HL.out.1]; exact hlt);have HBW : Hid (Below w.heap.size w wr) := Lh (ae (ag _ _) HI.out.2.2.2.2.1);have HWR : Hid (w.heap.size + 1 < wr.heap.size) := Lh HI.out.2.2.2.2.2;obtain ⟨b, o, rfl⟩ := HL.out.2.1.place (by have := HIL.out; omega);obtain ⟨A2, n2, c2, B2, m2, d2, hrg, hok⟩ := HL.out.2.1.kid HIL.out;have hrg2 := fK hrg HBW.out;obtain ⟨Kk, hKk⟩ : ∃ K, K = (ak ks i).kind := ⟨_, rfl⟩;rw [<- hKk] at hrg2;have HRG := Lh hrg2;have hmem := dG (ks := ks) HIL.out;have HK : Hid (jR s (ak ks i) /\ Kk = (ak ks i).kind /\ ai p w (ak ks i) A2 n2 c2 B2 m2 d2) := Lh ⟨HIH.out _ hmem, hKk, hok⟩;obtain ⟨D, hD⟩ : ∃ D, D = aT s (ak ks i) := ⟨_, rfl⟩;obtain ⟨V, hV⟩ : ∃ V, V = aL (ak ks i) := ⟨_, rfl⟩;obtain ⟨K8, hK8⟩ : ∃ K, K = D.kind := ⟨_, rfl⟩;have HKD : Hid (K8 = D.kind) := Lh hK8;have HD : Hid (D = aT s (ak ks i) /\ V = aL (ak ks i)) := Lh ⟨hD, hV⟩;clear hrg hok hrg2 hKk hmem hD hV hK8
   cases O
   ·skip
    go_wp2_with (first
     | (refine aA rfl (.tmp 20) rfl b (o + i * 3) rfl Kk A2 B2 n2 c2 m2 d2 HRG.out ?_)
     | (refine wB rfl 25 (.tmp 9) (.tmp 21) rfl wr.heap.size 0 rfl (zV Kk A2 n2 c2 B2 m2 d2) rfl (aa.new' wr zL _ 25 rfl) 3 au ?_; intro w4 hst9; have Hw4 : Hid (aa w4 wr.heap.size (zV Kk A2 n2 c2 B2 m2 d2) 25 /\ Below wr.heap.size wr w4) := Lh (aZ hst9); clear hst9; have hrx4 := aM Hw4.out.1)
     | (refine aA rfl (.tmp 9) rfl wr.heap.size (0) rfl Kk A2 B2 n2 c2 m2 d2 hrx4 ?_)
     | ((with_reducible refine (ky (p := p) HK.out.2.1 HK.out.1 (fun b hb => by have h1 := HP.out b hb; have h2 := HBW.out.size; have h3 := Hw4.out.2.size; omega) (HDB.out.below (ae HBW.out Hw4.out.2)) (HK.out.2.2.below (ae HBW.out Hw4.out.2)) D V HD.out.1 HD.out.2).mono ?_); rintro e w5 ⟨A8, n8, c8, B8, m8, d8, rfl, h8, hb8⟩; rw [<- HKD.out]; have H5 : Hid (ai (fun b => (fun b => p b \/ w.heap.size + 1 <= b) b /\ some b ≠ some (w.heap.size + 1)) w5 D A8 n8 c8 B8 m8 d8 /\ Below wr.heap.size wr w5) := Lh ⟨h8.mono (fun b hb => by
         rcases hb with hb | hb
         ·have h1 := HP.out b hb;exact ⟨.inl hb, fun e => by simp at e; omega⟩
         ·have h1 := HWR.out;have h2 := Hw4.out.2.size;exact ⟨.inr (by omega), fun e => by simp at e; omega⟩), ae Hw4.out.2 hb8⟩; clear h8 hb8)
     | (refine wB rfl 25 (.tmp 10) (.tmp 26) rfl w5.heap.size 0 rfl (zV K8 A8 n8 c8 B8 m8 d8) rfl (aa.new' w5 zL _ 25 rfl) 3 au ?_; intro w6 hst9; have Hw6 : Hid (aa w6 w5.heap.size (zV K8 A8 n8 c8 B8 m8 d8) 25 /\ Below w5.heap.size w5 w6) := Lh (aZ hst9); clear hst9; have hrx6 := aM Hw6.out.1; have HB6 : Hid (Below wr.heap.size wr w6) := Lh (ae H5.out.2 Hw6.out.2))
     | (refine aA rfl (.tmp 10) rfl w5.heap.size (0) rfl K8 A8 B8 n8 c8 m8 d8 hrx6 ?_)
     | (refine kT rfl (.tmp 31) (.tmp 30) rfl (HI.out.2.2.2.1.below HB6.out) HI.out.1.symm hlt rfl D K8 HKD.out A8 B8 n8 c8 m8 d8 rfl (H5.out.1.below Hw6.out.2).q ?_; intro w9 hw9; have H9 : Hid (az (fun b => p b \/ w.heap.size + 1 <= b) (w.heap.size + 1) (.slice (some ⟨w.heap.size + 1, 0, none⟩) m m) (cur.set i D) w9 /\ w6.grownBy w9 (some (w.heap.size + 1))) := Lh hw9; clear hw9))
    go_roundg gg
    case rel => exact ⟨i + 1, V, cur.set i D, by omega, by go_num, by first | rfl | go_num, Lh ⟨by rw [List.length_set]; exact HI.out.1, fun j hj => by
     by_cases e : j = i
     · subst e; rw [nM (by rw [HI.out.1]; exact hlt)]; exact HD.out.1
     · rw [mr e]; exact HI.out.2.1 j (by omega), by
     rw [List.take_succ_eq_append_getElem HIL.out, List.any_append, HO.out, <- dO HIL.out]; simp [HD.out.2], H9.out.1, dJ (ae HI.out.2.2.2.2.1 HB6.out) H9.out.2 (fun g hg => by simp at hg; simp; omega), Nat.lt_of_lt_of_le (Nat.lt_of_lt_of_le HI.out.2.2.2.2.2 HB6.out.size) H9.out.2.size⟩⟩
    case measure => omega
   ·skip
    go_wp2_with (first
     | (refine aA rfl (.tmp 20) rfl b (o + i * 3) rfl Kk A2 B2 n2 c2 m2 d2 HRG.out ?_)
     | (refine wB rfl 25 (.tmp 9) (.tmp 21) rfl wr.heap.size 0 rfl (zV Kk A2 n2 c2 B2 m2 d2) rfl (aa.new' wr zL _ 25 rfl) 3 au ?_; intro w4 hst9; have Hw4 : Hid (aa w4 wr.heap.size (zV Kk A2 n2 c2 B2 m2 d2) 25 /\ Below wr.heap.size wr w4) := Lh (aZ hst9); clear hst9; have hrx4 := aM Hw4.out.1)
     | (refine aA rfl (.tmp 9) rfl wr.heap.size (0) rfl Kk A2 B2 n2 c2 m2 d2 hrx4 ?_)
     | ((with_reducible refine (ky (p := p) HK.out.2.1 HK.out.1 (fun b hb => by have h1 := HP.out b hb; have h2 := HBW.out.size; have h3 := Hw4.out.2.size; omega) (HDB.out.below (ae HBW.out Hw4.out.2)) (HK.out.2.2.below (ae HBW.out Hw4.out.2)) D V HD.out.1 HD.out.2).mono ?_); rintro e w5 ⟨A8, n8, c8, B8, m8, d8, rfl, h8, hb8⟩; rw [<- HKD.out]; have H5 : Hid (ai (fun b => (fun b => p b \/ w.heap.size + 1 <= b) b /\ some b ≠ some (w.heap.size + 1)) w5 D A8 n8 c8 B8 m8 d8 /\ Below wr.heap.size wr w5) := Lh ⟨h8.mono (fun b hb => by
         rcases hb with hb | hb
         ·have h1 := HP.out b hb;exact ⟨.inl hb, fun e => by simp at e; omega⟩
         ·have h1 := HWR.out;have h2 := Hw4.out.2.size;exact ⟨.inr (by omega), fun e => by simp at e; omega⟩), ae Hw4.out.2 hb8⟩; clear h8 hb8)
     | (refine wB rfl 25 (.tmp 10) (.tmp 26) rfl w5.heap.size 0 rfl (zV K8 A8 n8 c8 B8 m8 d8) rfl (aa.new' w5 zL _ 25 rfl) 3 au ?_; intro w6 hst9; have Hw6 : Hid (aa w6 w5.heap.size (zV K8 A8 n8 c8 B8 m8 d8) 25 /\ Below w5.heap.size w5 w6) := Lh (aZ hst9); clear hst9; have hrx6 := aM Hw6.out.1; have HB6 : Hid (Below wr.heap.size wr w6) := Lh (ae H5.out.2 Hw6.out.2))
     | (refine aA rfl (.tmp 10) rfl w5.heap.size (0) rfl K8 A8 B8 n8 c8 m8 d8 hrx6 ?_)
     | (refine kT rfl (.tmp 31) (.tmp 30) rfl (HI.out.2.2.2.1.below HB6.out) HI.out.1.symm hlt rfl D K8 HKD.out A8 B8 n8 c8 m8 d8 rfl (H5.out.1.below Hw6.out.2).q ?_; intro w9 hw9; have H9 : Hid (az (fun b => p b \/ w.heap.size + 1 <= b) (w.heap.size + 1) (.slice (some ⟨w.heap.size + 1, 0, none⟩) m m) (cur.set i D) w9 /\ w6.grownBy w9 (some (w.heap.size + 1))) := Lh hw9; clear hw9))
    go_roundg gg
    case rel => exact ⟨i + 1, true, cur.set i D, by omega, by go_num, by first | rfl | go_num, Lh ⟨by rw [List.length_set]; exact HI.out.1, fun j hj => by
     by_cases e : j = i
     · subst e; rw [nM (by rw [HI.out.1]; exact hlt)]; exact HD.out.1
     · rw [mr e]; exact HI.out.2.1 j (by omega), by
     rw [List.take_succ_eq_append_getElem HIL.out, List.any_append, HO.out, <- dO HIL.out]; simp [HD.out.2], H9.out.1, dJ (ae HI.out.2.2.2.2.1 HB6.out) H9.out.2 (fun g hg => by simp at hg; simp; omega), Nat.lt_of_lt_of_le (Nat.lt_of_lt_of_le HI.out.2.2.2.2.2 HB6.out.size) H9.out.2.size⟩⟩
    case measure => omega
  ·obtain rfl : m = i := by omega
   have HALL : Hid (O = ks.any aL) := Lh (by
    have h1 := HO.out;rw [List.take_of_length_le (by rw [HL.out.1]; exact Nat.le_refl _)] at h1;exact h1.symm)
   have HCUR : Hid (cur = ks.map (aT s)) := Lh (mD (by rw [List.length_map]; exact HI.out.1.trans HL.out.1) fun j hj => by
    rw [List.length_map] at hj;rw [HI.out.2.1 j (by rw [HL.out.1]; exact hj), dO hj, dO (by simpa using hj), List.getElem_map])
   have HALT : Hid ((∀ y ∈ cur, NF y) /\ ah cur <= 1000000000000 /\ aU (fun b => (fun b => p b \/ w.heap.size + 1 <= b) b /\ b < wr.heap.size) wr cur (some ⟨w.heap.size + 1, 0, none⟩)) := Lh ⟨fun y hy => by
    rw [HCUR.out] at hy;obtain ⟨x, hx, rfl⟩ := List.mem_map.1 hy;exact NF.dp s (HL.out.2.2.1 x hx).val, by
    have h1 := yx (s := s) HL.out.2.2.1;have h2 := iN (a := ah ks) (b := 1000000) (dN ks) (by have := HL.out.2.2.2; omega);rw [HCUR.out]; omega, by
    obtain ⟨Bz, dz, hvz, _, _, hzc, _⟩ := HI.out.2.2.2.1.e;rw [Value.slice.injEq] at hvz;rw [hvz.1];exact (hzc.mono fun b hb => hb.1).lt⟩
   go_wp2_with (first
    |((with_reducible refine (mP (p := fun b => (fun b => p b \/ w.heap.size + 1 <= b) b /\ b < wr.heap.size) wr (fun b hb => hb.2) (HDB.out.below (ae (ag _ _) HI.out.2.2.2.2.1)) cur _ m m HI.out.1.symm (Nat.le_refl _) (by omega) HALT.out.1 HALT.out.2.1 HALT.out.2.2).mono ?_); rintro e w11 hp; obtain ⟨A9, n9, c9, B9, m9, d9, rfl, h9, hb9⟩ := bV hp; have H11 : Hid (ai (fun b => p b \/ w.heap.size + 1 <= b) w11 (altP cur) A9 n9 c9 B9 m9 d9 /\ Below (w.alloc zR).heap.size (w.alloc zR) w11) := Lh ⟨h9.mono (fun b hb => by
       rcases hb with hb | hb
       · exact hb.1
       · exact .inr (by have h1 := HI.out.2.2.2.2.2; omega)), ae HI.out.2.2.2.2.1 hb9⟩; clear hp h9 hb9)
    |(refine wB rfl 25 (.tmp 4) (.tmp 38) rfl w.heap.size 0 rfl [.int .i64 (altP cur).kind, .slice A9 n9 c9, .slice B9 m9 d9] rfl (HZ.out.below H11.out.2 (by simp)) 3 au ?_; intro w9 hst9; have Hw9 : Hid (aa w9 w.heap.size [.int .i64 (altP cur).kind, .slice A9 n9 c9, .slice B9 m9 d9] 25 /\ Below w.heap.size w w9 /\ ai (fun b => p b \/ w.heap.size + 1 <= b) w9 (altP cur) A9 n9 c9 B9 m9 d9) := Lh ⟨hst9.1, hst9.below (ae (ag _ _) H11.out.2) (Nat.le_refl _), fO H11.out.1 hst9 (fun b hb => by rcases hb with hb | hb; (have := HP.out b hb; omega); omega)⟩; clear hst9))
   exact dw rfl w.heap.size rfl (C := [.int .i64 (altP cur).kind, .slice A9 n9 c9, .slice B9 m9 d9]) (T := 25) Hw9.out.1 _ Tryz.underlying25 rfl au rfl (.bool O) rfl (by
    rw [HR.out, HV.out, <- HCUR.out, <- HALL.out];exact ⟨_, _, _, _, _, _, rfl, Hw9.out.2.2.mono (fun b hb => by rcases hb with h | h; exact .inl h; exact .inr (by omega)), Hw9.out.2.1⟩)
theorem xA : ∀ ks : List Rx, j4 ks = ks.all aL
 |[] => by rw [j4]; rfl
 |r :: rs => by rw [j4, xA rs]; rfl
theorem uZ : ∀ ks : List Rx, j5 ks = ks.any aL
 |[] => by rw [j5]; rfl
 |r :: rs => by rw [j5, uZ rs]; rfl
theorem lW (x : Rx) : aL x = if x.kind = 3 then x.kids.all aL else if x.kind = 4 then x.kids.any aL else decide (x.kind = 1 \/ x.kind = 5) := by
 cases x with
 |mk k s ks => rw [aL, xA, uZ]; rfl
theorem BH {s : Int} (x : Rx) (hNF : NF x) (hcm : av x <= 1000000) (ih : ∀ y ∈ x.kids, jR s y) : jR s x := by
 intro p w A B n c m d hpb hd hop;obtain ⟨K, hK⟩ : ∃ K, K = x.kind := ⟨_, rfl⟩;have HX : Hid (ai p w x A n c B m d /\ K = x.kind /\ NF x /\ av x <= 1000000) := Lh ⟨hop, hK, hNF, hcm⟩;have HIH := Lh ih;have HDB := Lh hd;have HP := Lh hpb;have HNG : Hid (∀ b, (p b \/ w.heap.size + 2 <= b) -> b ≠ w.heap.size + 1) := Lh (fun b h => by rcases h with h | h; (have := hpb b h; omega); omega);have HB1 : Hid (aa ((w.alloc (zC K A n c B m d)).alloc zR) w.heap.size (zV K A n c B m d) 25) := Lh ((aa.at w (zV K A n c B m d) _ 25 _ rfl rfl).alloc _);have HZ : Hid (aa ((w.alloc (zC K A n c B m d)).alloc zR) (w.heap.size + 1) zL 25) := Lh (aa.at (w.alloc (zC K A n c B m d)) zL _ 25 _ rfl (by simp));have hmd := hop.o.mcap;have hdm := hop.o.dmax;have hr := hNF.rng;rw [<- hK] at hr ⊢;have hks : K = 0 \/ K = 1 \/ K = 2 \/ K = 3 \/ K = 4 \/ K = 5 := by omega
 clear hr
 rcases hks with hk | hk | hk | hk | hk | hk
 ·skip
  have ab : (K == 1) = false := bF (by omega);have bb : (K == 2) = false := bF (by omega);have cb : (K == 3) = false := bF (by omega);have db : (K == 4) = false := bF (by omega);have eb : (K == 5) = false := bF (by omega);have HAC : Hid (aL x = false) := Lh (by
   rw [lW]; simp [<- hK, hk])
  have HDP : Hid (aT s x = .mk 0 [] []) := Lh (dp1 hNF (by omega));clear hpb hd hop hNF hcm ih hK hk;go_enter Tryz.func56, Tryz.ntmps56
  go_wp2_with (refine wB rfl 25 (.tmp 4) (.tmp 51) rfl (w.heap.size + 1) 0 rfl zL rfl HZ.out 3 au ?_; intro w9 hst9; have Hw9 : Hid (aa w9 (w.heap.size + 1) zL 25 /\ Below w.heap.size w w9) := Lh ⟨hst9.1, hst9.below (aB (ag _ _) _) (by omega)⟩; clear hst9)
  exact dw rfl (w.heap.size + 1) rfl (C := zL) (T := 25) Hw9.out.1 _ Tryz.underlying25 rfl au rfl (.bool false) rfl (by
   rw [HAC.out, HDP.out]; exact ⟨_, _, _, _, _, _, rfl, ai.flat _ w9 (by constructor <;> decide), Hw9.out.2⟩)
 ·skip
  have ab : (K == 1) = true := bT (by omega);have HAC : Hid (aL x = true) := Lh (by
   rw [lW]; simp [<- hK, hk])
  have HDP : Hid (aT s x = .mk 0 [] []) := Lh (dp1 hNF (by omega));clear hpb hd hop hNF hcm ih hK hk;go_enter Tryz.func56, Tryz.ntmps56
  go_wp2_with (refine wB rfl 25 (.tmp 4) (.tmp 12) rfl (w.heap.size + 1) 0 rfl zL rfl HZ.out 3 au ?_; intro w9 hst9; have Hw9 : Hid (aa w9 (w.heap.size + 1) zL 25 /\ Below w.heap.size w w9) := Lh ⟨hst9.1, hst9.below (aB (ag _ _) _) (by omega)⟩; clear hst9)
  exact dw rfl (w.heap.size + 1) rfl (C := zL) (T := 25) Hw9.out.1 _ Tryz.underlying25 rfl au rfl (.bool true) rfl (by
   rw [HAC.out, HDP.out]; exact ⟨_, _, _, _, _, _, rfl, ai.flat _ w9 (by constructor <;> decide), Hw9.out.2⟩)
 ·skip
  have ab : (K == 1) = false := bF (by omega);have bb : (K == 2) = true := bT (by omega);have HAC : Hid (aL x = false) := Lh (by
   rw [lW]; simp [<- hK, hk])
  have hne : iv x.syms ≠ [] := by
   have h2 := (hNF.k2 (hK.symm.trans hk)).2;intro e;have e2 : x.syms = [] := by simpa [iv] using e
   rw [e2] at h2;simp [dI] at h2
  obtain ⟨sb, so, rfl, hsc⟩ := hop.o.syms.open hne;have hb1 := HB1.out.cell (j := 1) rfl;clear hne
  cases hcs : x.syms.contains s with
  |true =>
   have HDP : Hid (aT s x = .mk 1 [] []) := Lh (by rw [dp2 (hK.symm.trans hk), hcs]; rfl);have HCT : Hid (∀ W0 : Unit, Calls Tryz.prog 63 #[.slice (some ⟨sb, so, none⟩) n c, .int .i64 s] ((w.alloc (zC K (some ⟨sb, so, none⟩) n c B m d)).alloc zR) fun e w' => e = .returned (.bool true) /\ w' = ((w.alloc (zC K (some ⟨sb, so, none⟩) n c B m d)).alloc zR)) := Lh fun _ => by
    have h := Tryz.slices_Contains_int sb so n c x.syms s ((w.alloc (zC K (some ⟨sb, so, none⟩) n c B m d)).alloc zR) (by rw [hop.o.nlen]; exact Nat.le_refl _) (by have := hop.o.ncap; have := hop.o.cmax; omega) (fun j hj => (aB (ag w _) _).cell (p := ⟨sb, so + j, none⟩) (World.block_lt_of_cell? w _ (hsc j _ (nJ hj))) |>.trans (hsc j _ (nJ hj)));rw [List.take_of_length_le (by rw [hop.o.nlen]; exact Nat.le_refl _), hcs] at h;exact h
   clear hpb hd hop hNF hcm ih hK hk hsc hcs;go_enter Tryz.func56, Tryz.ntmps56
   go_wp2_with (first
    | ((with_reducible refine (HCT.out ()).mono ?_); rintro e w1 ⟨rfl, rfl⟩)
    | (refine wB rfl 25 (.tmp 4) (.tmp 19) rfl (w.heap.size + 1) 0 rfl (zV 1 none 0 0 none 0 0) rfl HZ.out 3 au ?_; intro w9 hst9; have Hw9 : Hid (aa w9 (w.heap.size + 1) (zV 1 none 0 0 none 0 0) 25 /\ Below w.heap.size w w9) := Lh ⟨hst9.1, hst9.below (aB (ag _ _) _) (by omega)⟩; clear hst9))
   exact dw rfl (w.heap.size + 1) rfl (C := (zV 1 none 0 0 none 0 0)) (T := 25) Hw9.out.1 _ Tryz.underlying25 rfl au rfl (.bool false) rfl (by
    rw [HAC.out, HDP.out]; exact ⟨_, _, _, _, _, _, rfl, ai.flat _ w9 (by constructor <;> decide), Hw9.out.2⟩)
  |false =>
   have HDP : Hid (aT s x = .mk 0 [] []) := Lh (by rw [dp2 (hK.symm.trans hk), hcs]; rfl);have HCT : Hid (∀ W0 : Unit, Calls Tryz.prog 63 #[.slice (some ⟨sb, so, none⟩) n c, .int .i64 s] ((w.alloc (zC K (some ⟨sb, so, none⟩) n c B m d)).alloc zR) fun e w' => e = .returned (.bool false) /\ w' = ((w.alloc (zC K (some ⟨sb, so, none⟩) n c B m d)).alloc zR)) := Lh fun _ => by
    have h := Tryz.slices_Contains_int sb so n c x.syms s ((w.alloc (zC K (some ⟨sb, so, none⟩) n c B m d)).alloc zR) (by rw [hop.o.nlen]; exact Nat.le_refl _) (by have := hop.o.ncap; have := hop.o.cmax; omega) (fun j hj => (aB (ag w _) _).cell (p := ⟨sb, so + j, none⟩) (World.block_lt_of_cell? w _ (hsc j _ (nJ hj))) |>.trans (hsc j _ (nJ hj)));rw [List.take_of_length_le (by rw [hop.o.nlen]; exact Nat.le_refl _), hcs] at h;exact h
   clear hpb hd hop hNF hcm ih hK hk hsc hcs;go_enter Tryz.func56, Tryz.ntmps56
   go_wp2_with (first
    | ((with_reducible refine (HCT.out ()).mono ?_); rintro e w1 ⟨rfl, rfl⟩)
    | (refine wB rfl 25 (.tmp 4) (.tmp 51) rfl (w.heap.size + 1) 0 rfl zL rfl HZ.out 3 au ?_; intro w9 hst9; have Hw9 : Hid (aa w9 (w.heap.size + 1) zL 25 /\ Below w.heap.size w w9) := Lh ⟨hst9.1, hst9.below (aB (ag _ _) _) (by omega)⟩; clear hst9))
   exact dw rfl (w.heap.size + 1) rfl (C := zL) (T := 25) Hw9.out.1 _ Tryz.underlying25 rfl au rfl (.bool false) rfl (by
    rw [HAC.out, HDP.out]; exact ⟨_, _, _, _, _, _, rfl, ai.flat _ w9 (by constructor <;> decide), Hw9.out.2⟩)
 ·skip
  have ab : (K == 1) = false := bF (by omega);have bb : (K == 2) = false := bF (by omega);have cb : (K == 3) = true := bT (by omega);have HDP : Hid (aT s x = altP (eB s x.kids)) := Lh (dp3 hNF (hK.symm.trans hk));have HAC : Hid (aL x = x.kids.all aL) := Lh (by rw [lW]; simp [<- hK, hk]);clear hpb hd hop hNF hcm ih hK hk;go_enter Tryz.func56, Tryz.ntmps56
  go_wp2_with (first
   |((with_reducible refine (zh (s := s) x.kids HX.out.2.2.1.kids (by have := dA x; have := HX.out.2.2.2; omega) HIH.out (p := p) ((w.alloc (zC K A n c B m d)).alloc zR) (fun b hb => by have := HP.out b hb; simp; omega) (HDB.out.below (aB (ag _ _) _)) B m d HX.out.1.o.mlen hmd hdm (HX.out.1.kids.1.below (aB (ag _ _) _))).mono ?_); rintro e w5 ⟨A8, n8, c8, B8, m8, d8, rfl, h8, hb8⟩; rw [<- HDP.out] at h8 ⊢; obtain ⟨K8, hK8⟩ : ∃ K, K = (aT s x).kind := ⟨_, rfl⟩; rw [<- hK8]; have H8 : Hid (ai (fun b => p b \/ w.heap.size + 2 <= b) w5 (aT s x) A8 n8 c8 B8 m8 d8 /\ Below ((w.alloc (zC K A n c B m d)).alloc zR).heap.size ((w.alloc (zC K A n c B m d)).alloc zR) w5 /\ K8 = (aT s x).kind) := Lh ⟨h8.mono (fun b hb => by simpa using hb), hb8, hK8⟩; clear h8 hb8 hK8)
   |(refine wB rfl 25 (.tmp 4) (.tmp 26) rfl (w.heap.size + 1) 0 rfl (zV K8 A8 n8 c8 B8 m8 d8) rfl (HZ.out.below H8.out.2.1 (by simp)) 3 au ?_; intro w9 hst9; have Hw9 : Hid (aa w9 (w.heap.size + 1) (zV K8 A8 n8 c8 B8 m8 d8) 25 /\ Below w.heap.size w w9 /\ ai (fun b => p b \/ w.heap.size + 2 <= b) w9 (aT s x) A8 n8 c8 B8 m8 d8) := Lh ⟨hst9.1, hst9.below (ae (aB (ag _ _) _) H8.out.2.1) (by omega), fO H8.out.1 hst9 HNG.out⟩; clear hst9))
  exact dw rfl (w.heap.size + 1) rfl (C := (zV K8 A8 n8 c8 B8 m8 d8)) (T := 25) Hw9.out.1 _ Tryz.underlying25 rfl au rfl (.bool (x.kids.all aL)) rfl (by
   rw [HAC.out, H8.out.2.2]; exact ⟨_, _, _, _, _, _, rfl, Hw9.out.2.2.mono (fun b hb => by rcases hb with h | h; exact .inl h; exact .inr (by omega)), Hw9.out.2.1⟩)
 ·skip
  have ab : (K == 1) = false := bF (by omega);have bb : (K == 2) = false := bF (by omega);have cb : (K == 3) = false := bF (by omega);have db : (K == 4) = true := bT (by omega);have HDP : Hid (aT s x = altP (x.kids.map (aT s))) := Lh (dp4 (hK.symm.trans hk));have HAC : Hid (aL x = x.kids.any aL) := Lh (by rw [lW]; simp [<- hK, hk]);clear hpb hd hop hNF hcm ih hK hk;go_enter Tryz.func56, Tryz.ntmps56
  go_wp2_with (first
   |((with_reducible refine (Ce (s := s) x.kids HX.out.2.2.1.kids (by have := dA x; have := HX.out.2.2.2; omega) HIH.out (p := p) ((w.alloc (zC K A n c B m d)).alloc zR) (fun b hb => by have := HP.out b hb; simp; omega) (HDB.out.below (aB (ag _ _) _)) B m d HX.out.1.o.mlen hmd hdm (HX.out.1.kids.1.below (aB (ag _ _) _))).mono ?_); rintro e w5 ⟨A8, n8, c8, B8, m8, d8, rfl, h8, hb8⟩; rw [<- HDP.out] at h8 ⊢; obtain ⟨K8, hK8⟩ : ∃ K, K = (aT s x).kind := ⟨_, rfl⟩; rw [<- hK8]; have H8 : Hid (ai (fun b => p b \/ w.heap.size + 2 <= b) w5 (aT s x) A8 n8 c8 B8 m8 d8 /\ Below ((w.alloc (zC K A n c B m d)).alloc zR).heap.size ((w.alloc (zC K A n c B m d)).alloc zR) w5 /\ K8 = (aT s x).kind) := Lh ⟨h8.mono (fun b hb => by simpa using hb), hb8, hK8⟩; clear h8 hb8 hK8)
   |(refine wB rfl 25 (.tmp 4) (.tmp 34) rfl (w.heap.size + 1) 0 rfl (zV K8 A8 n8 c8 B8 m8 d8) rfl (HZ.out.below H8.out.2.1 (by simp)) 3 au ?_; intro w9 hst9; have Hw9 : Hid (aa w9 (w.heap.size + 1) (zV K8 A8 n8 c8 B8 m8 d8) 25 /\ Below w.heap.size w w9 /\ ai (fun b => p b \/ w.heap.size + 2 <= b) w9 (aT s x) A8 n8 c8 B8 m8 d8) := Lh ⟨hst9.1, hst9.below (ae (aB (ag _ _) _) H8.out.2.1) (by omega), fO H8.out.1 hst9 HNG.out⟩; clear hst9))
  exact dw rfl (w.heap.size + 1) rfl (C := (zV K8 A8 n8 c8 B8 m8 d8)) (T := 25) Hw9.out.1 _ Tryz.underlying25 rfl au rfl (.bool (x.kids.any aL)) rfl (by
   rw [HAC.out, H8.out.2.2]; exact ⟨_, _, _, _, _, _, rfl, Hw9.out.2.2.mono (fun b hb => by rcases hb with h | h; exact .inl h; exact .inr (by omega)), Hw9.out.2.1⟩)
 ·skip
  have ab : (K == 1) = false := bF (by omega);have bb : (K == 2) = false := bF (by omega);have cb : (K == 3) = false := bF (by omega);have db : (K == 4) = false := bF (by omega);have eb : (K == 5) = true := bT (by omega);obtain ⟨y, hy, hNy, _⟩ := hNF.k5 (hK.symm.trans hk);have hyk : x.kids = [y] := by rw [hy]; rfl
  have hm1 : m = 1 := by rw [hop.o.mlen, hyk]; rfl
  have HDP : Hid (aT s x = seqP [aT s y, x]) := Lh (dp5 hNF (hK.symm.trans hk) hyk);have HAC : Hid (aL x = true) := Lh (by
   rw [lW]; simp [<- hK, hk])
  subst hm1;obtain ⟨b, o, rfl⟩ := hop.kids.1.place (by rw [hyk]; simp);obtain ⟨A2, n2, c2, B2, m2, d2, hrg, hok⟩ := hop.kids.1.kid (i := 0) (by rw [hyk]; simp);have hky : ak x.kids 0 = y := by rw [hyk]; rfl
  rw [hky] at hrg hok;obtain ⟨Ky, hKy⟩ : ∃ K, K = y.kind := ⟨_, rfl⟩;rw [<- hKy] at hrg;obtain ⟨D, hD⟩ : ∃ D, D = aT s y := ⟨_, rfl⟩;obtain ⟨VV, hVV⟩ : ∃ V, V = aL y := ⟨_, rfl⟩;obtain ⟨K8, hK8⟩ : ∃ K, K = D.kind := ⟨_, rfl⟩;rw [<- hD] at HDP;have HY : Hid (ai p w y A2 n2 c2 B2 m2 d2 /\ Ky = y.kind /\ jR s y /\ D = aT s y /\ VV = aL y) := Lh ⟨hok, hKy, ih y (by rw [hyk]; simp), hD, hVV⟩;have HKD : Hid (K8 = D.kind) := Lh hK8;have HND : Hid (NF D /\ av D + av x <= 1000000000000) := Lh ⟨by rw [hD]; exact NF.dp s hNy.val, by
   have h1 := lJ (s := s) hNy.val;have h2 := dA x;rw [hyk] at h2;simp only [ah] at h2;have h3 := iN (a := av y) (b := 999999) (by have := cO y; omega) (by omega);rw [hD]; omega⟩
  have HRG : Hid (((w.alloc (zC K A n c (some ⟨b, o, none⟩) 1 d)).alloc zR).rangeAt b (o + 0 * 3) (zV Ky A2 n2 c2 B2 m2 d2)) := Lh (fK hrg (aB (ag _ _) _));have hb2 := HB1.out.cell (j := 2) rfl;clear hpb hd hop hNF hcm ih hK hk hy hNy hyk hrg hok hky hKy hD hVV hK8;go_enter Tryz.func56, Tryz.ntmps56
  go_wp2_with (first
   |(refine aA rfl (.tmp 41) rfl b (o + 0 * 3) rfl Ky A2 B2 n2 c2 m2 d2 HRG.out ?_)
   |((with_reducible refine (ky (p := p) HY.out.2.1 HY.out.2.2.1 (fun b hb => by have := HP.out b hb; simp; omega) (HDB.out.below (aB (ag _ _) _)) (HY.out.1.below (aB (ag _ _) _)) D VV HY.out.2.2.2.1 HY.out.2.2.2.2).mono ?_); rintro e w5 ⟨A8, n8, c8, B8, m8, d8, rfl, h8, hb8⟩; rw [<- HKD.out]; have H5 : Hid (ai (fun b => p b \/ w.heap.size + 2 <= b) w5 D A8 n8 c8 B8 m8 d8 /\ Below ((w.alloc (zC K A n c (some ⟨b, o, none⟩) 1 d)).alloc zR).heap.size ((w.alloc (zC K A n c (some ⟨b, o, none⟩) 1 d)).alloc zR) w5) := Lh ⟨h8.mono (fun b hb => by simpa using hb), hb8⟩; clear h8 hb8)
   |(refine wB rfl 25 (.tmp 6) (.tmp 45) rfl w5.heap.size 0 rfl (zV K8 A8 n8 c8 B8 m8 d8) rfl (aa.new' w5 zL _ 25 rfl) 3 au ?_; intro w6 hst9; have Hw6 : Hid (aa w6 w5.heap.size (zV K8 A8 n8 c8 B8 m8 d8) 25 /\ Below w5.heap.size w5 w6) := Lh (aZ hst9); clear hst9; have hrx6 := aM Hw6.out.1; have H6 : Hid (Below ((w.alloc (zC K A n c (some ⟨b, o, none⟩) 1 d)).alloc zR).heap.size ((w.alloc (zC K A n c (some ⟨b, o, none⟩) 1 d)).alloc zR) w6) := Lh (ae H5.out.2 Hw6.out.2); have hrx26 := aM (HB1.out.below H6.out (by simp; omega)))
   |(refine aA rfl (.tmp 6) rfl w5.heap.size (0) rfl K8 A8 B8 n8 c8 m8 d8 hrx6 ?_)
   |(refine aA rfl (.tmp 2) rfl w.heap.size (0) rfl K A (some ⟨b, o, none⟩) n c 1 d hrx26 ?_)
   |((with_reducible refine (pV (p := fun z9 => (p z9 \/ w.heap.size + 2 <= z9) /\ z9 < (w6.alloc (.cells #[.int .i64 K8, .slice A8 n8 c8, .slice B8 m8 d8, .int .i64 K, .slice A n c, .slice (some ⟨b, o, none⟩) 1 d] 25)).heap.size) (w6.alloc (.cells #[.int .i64 K8, .slice A8 n8 c8, .slice B8 m8 d8, .int .i64 K, .slice A n c, .slice (some ⟨b, o, none⟩) 1 d] 25)) (fun b hb => hb.2) [D, x] (some ⟨w6.heap.size, 0, none⟩) 2 2 rfl (Nat.le_refl _) (by omega) (fun z hz => by
        rcases List.mem_cons.1 hz with rfl | hz
        ·exact HND.out.1
        ·rw [show z = x by simpa using hz]; exact HX.out.2.2.1) (by have := HND.out.2; simp only [ah]; omega) (by
        have hB : aa (w6.alloc (.cells #[.int .i64 K8, .slice A8 n8 c8, .slice B8 m8 d8, .int .i64 K, .slice A n c, .slice (some ⟨b, o, none⟩) 1 d] 25)) w6.heap.size [.int .i64 D.kind, .slice A8 n8 c8, .slice B8 m8 d8, .int .i64 x.kind, .slice A n c, .slice (some ⟨b, o, none⟩) 1 d] 25 := by rw [<- HKD.out, <- HX.out.2.1]; exact aa.at w6 [.int .i64 K8, .slice A8 n8 c8, .slice B8 m8 d8, .int .i64 K, .slice A n c, .slice (some ⟨b, o, none⟩) 1 d] _ 25 _ rfl rfl
        have h1 := H5.out.1.below (ae Hw6.out.2 (ag w6 (.cells #[.int .i64 K8, .slice A8 n8 c8, .slice B8 m8 d8, .int .i64 K, .slice A n c, .slice (some ⟨b, o, none⟩) 1 d] 25)));have h2 := (HX.out.1.below (ae (ae (aB (ag _ _) _) H6.out) (ag w6 (.cells #[.int .i64 K8, .slice A8 n8 c8, .slice B8 m8 d8, .int .i64 K, .slice A n c, .slice (some ⟨b, o, none⟩) 1 d] 25)))).mono (q := fun b => p b \/ w.heap.size + 2 <= b) (fun b hb => .inl hb);exact aG.e ((aG.one (h1.and h1.o.toP).q).app (aG.one (h2.and h2.o.toP).q)) fun j v hv => by rw [Nat.zero_add]; rw [List.cons_append, List.cons_append, List.cons_append, List.nil_append] at hv; exact hB.cell hv)).mono ?_); rintro e w8 hp; obtain ⟨A10, n10, c10, B10, m10, d10, rfl, h10, hb10⟩ := bV hp; rw [<- HDP.out] at h10 ⊢; obtain ⟨K10, hK10⟩ : ∃ K, K = (aT s x).kind := ⟨_, rfl⟩; rw [<- hK10]; have H8 : Hid (ai (fun b => p b \/ w.heap.size + 2 <= b) w8 (aT s x) A10 n10 c10 B10 m10 d10 /\ Below ((w.alloc (zC K A n c (some ⟨b, o, none⟩) 1 d)).alloc zR).heap.size ((w.alloc (zC K A n c (some ⟨b, o, none⟩) 1 d)).alloc zR) w8 /\ K10 = (aT s x).kind) := Lh ⟨h10.mono (fun b hb => by
        rcases hb with hb | hb
        ·exact hb.1
        ·exact .inr (by have h1 := H6.out.size; simp at hb h1; omega)), ae (aB H6.out _) hb10, hK10⟩; clear hp h10 hb10 hK10)
   |(refine wB rfl 25 (.tmp 4) (.tmp 50) rfl (w.heap.size + 1) 0 rfl (zV K10 A10 n10 c10 B10 m10 d10) rfl (HZ.out.below H8.out.2.1 (by simp)) 3 au ?_; intro w9 hst9; have Hw9 : Hid (aa w9 (w.heap.size + 1) (zV K10 A10 n10 c10 B10 m10 d10) 25 /\ Below w.heap.size w w9 /\ ai (fun b => p b \/ w.heap.size + 2 <= b) w9 (aT s x) A10 n10 c10 B10 m10 d10) := Lh ⟨hst9.1, hst9.below (ae (aB (ag _ _) _) H8.out.2.1) (by omega), fO H8.out.1 hst9 HNG.out⟩; clear hst9))
  exact dw rfl (w.heap.size + 1) rfl (C := (zV K10 A10 n10 c10 B10 m10 d10)) (T := 25) Hw9.out.1 _ Tryz.underlying25 rfl au rfl (.bool true) rfl (by
   rw [HAC.out, H8.out.2.2]; exact ⟨_, _, _, _, _, _, rfl, Hw9.out.2.2.mono (fun b hb => by rcases hb with h | h; exact .inl h; exact .inr (by omega)), Hw9.out.2.1⟩)
theorem yT {s : Int} : ∀ (z : Nat) (x : Rx), SizeOf.sizeOf x <= z -> NF x -> av x <= 1000000 -> jR s x
 |0, x, hz, hv, hc => by cases x; simp at hz
 |z + 1, x, hz, hv, hc => BH x hv hc fun y hy => yT z y (by have := gB hy; omega) (hv.kids y hy) (by have h1 := dA x; have h2 := l5 hy; omega)
def fZ (s : Int) (r : Rx) : Rx := if ay r = true then aT s (normR false r) else .mk 0 [] []
theorem BU (s : Int) (r : Rx) : NF (fZ s r) := by
 unfold fZ
 split
 ·rename_i h; exact NF.dp s (NF.normR false h).val
 ·exact NF.none
theorem DR {p : Nat -> Prop} {s : Int} {w : World} {x : Rx} {K : Int} {A B : Option Addr} {n c m d : Nat} (hK : K = x.kind) (hN : NF x) (hc : av x <= 1000000) (hp : ∀ b, p b -> b < w.heap.size) (hd : DB w) (hx : ai p w x A n c B m d) (y : Rx) (V : Bool) (hy : y = aT s x) (hV : V = aL x) : Calls Tryz.prog 56 #[.agg #[.int .i64 K, .slice A n c, .slice B m d], .int .i64 s] w (D2 p w y V) := ky hK (yT _ x (Nat.le_refl _) hN hc) hp hd hx y V hy hV
theorem rG {w : World} (hd : DB w) (s : Int) (r : Rx) (hc : av r <= 1000000) {A B : Option Addr} {n c m d : Nat} (h : aC w r A n c B m d) : Calls Tryz.prog 24 #[.agg #[.int .i64 r.kind, .slice A n c, .slice B m d], .int .i64 s] w (dn (fun _ => False) w (fZ s r)) := by
 obtain ⟨K, hK⟩ : ∃ K, K = r.kind := ⟨_, rfl⟩;have HX : Hid (aC w r A n c B m d /\ K = r.kind /\ av r <= 1000000) := Lh ⟨h, hK, hc⟩;have HDB := Lh hd;have HB1 : Hid (aa ((w.alloc (zC K A n c B m d)).alloc zR) w.heap.size (zV K A n c B m d) 25) := Lh ((aa.at w (zV K A n c B m d) _ 25 _ rfl rfl).alloc _);have HZ : Hid (aa ((w.alloc (zC K A n c B m d)).alloc zR) (w.heap.size + 1) zL 25) := Lh (aa.at (w.alloc (zC K A n c B m d)) zL _ 25 _ rfl (by simp));have hrx := aM HB1.out;rw [<- hK]
 by_cases hv : ay r = true
 ·have HV : Hid (true = ay r) := Lh hv.symm;have HR : Hid (fZ s r = aT s (normR false r)) := Lh (by unfold fZ; rw [if_pos hv]);obtain ⟨X, hX⟩ : ∃ X, X = normR false r := ⟨_, rfl⟩;obtain ⟨VV, hVV⟩ : ∃ V, V = aL X := ⟨_, rfl⟩;obtain ⟨K2, hK2⟩ : ∃ K, K = X.kind := ⟨_, rfl⟩;obtain ⟨D, hD⟩ : ∃ D, D = fZ s r := ⟨_, rfl⟩;have hcX : av X <= 1000000 := by have h1 := kM false hv; rw [hX]; omega
  have HN : Hid (X = normR false r /\ NF X /\ av X <= 1000000 /\ VV = aL X /\ K2 = X.kind /\ D = aT s X) := Lh ⟨hX, by rw [hX]; exact NF.normR false hv, hcX, hVV, hK2, by rw [hD, HR.out, hX]⟩;obtain ⟨K8, hK8⟩ : ∃ K, K = D.kind := ⟨_, rfl⟩;have HD : Hid (D = fZ s r /\ NF D /\ av D <= 1000000000000 /\ K8 = D.kind) := Lh ⟨hD, by rw [hD]; exact BU s r, by
   have h1 := lJ (s := s) HN.out.2.1.val;have h2 := iN (a := av X) (b := 1000000) (by have := cO X; omega) hcX;rw [HN.out.2.2.2.2.2]; omega, hK8⟩
  rw [<- hD];clear h hK hc hd hv hX hVV hK2 hD hcX hK8;go_enter Tryz.func24, Tryz.ntmps24
  go_wp2_with (first
   |(refine aA rfl (.tmp 2) rfl w.heap.size (0) rfl K A B n c m d hrx ?_)
   |((with_reducible refine (jw HX.out.2.1 (HX.out.1.below (aB (ag _ _) _)) true HV.out).mono ?_); rintro e w1 hp; obtain ⟨rfl, hb⟩ := aN hp; have H1 : Hid (Below w.heap.size w w1) := Lh (ae (aB (ag _ _) _) hb); have HZ1 := Lh (HZ.out.below hb (by simp)); have hrx1 := aM (HB1.out.below hb (by simp; omega)); clear hp hb)
   |(refine aA rfl (.tmp 2) rfl w.heap.size (0) rfl K A B n c m d hrx1 ?_)
   |((with_reducible refine (qD (p := fun b => b < w.heap.size) (fun b hb => by have := H1.out.size; omega) (HDB.out.below H1.out) r HX.out.2.1 HV.out.symm (by have := HX.out.2.2; omega) (HX.out.1.toP.below H1.out)).mono ?_); rintro e w2 hp; obtain ⟨A2, n2, c2, B2, m2, d2, rfl, h2, hb2⟩ := bV hp; rw [<- HN.out.1] at h2 ⊢; rw [<- HN.out.2.2.2.2.1]; have H2 : Hid (aC w2 X A2 n2 c2 B2 m2 d2 /\ Below w1.heap.size w1 w2) := Lh ⟨h2.o, hb2⟩; clear hp h2 hb2)
   |((with_reducible refine (DR (p := fun b => b < w2.heap.size) HN.out.2.2.2.2.1 HN.out.2.1 HN.out.2.2.1 (fun b hb => hb) (HDB.out.below (ae H1.out H2.out.2)) H2.out.1.toP D VV HN.out.2.2.2.2.2 HN.out.2.2.2.1).mono ?_); rintro e w3 ⟨A8, n8, c8, B8, m8, d8, rfl, h8, hb8⟩; rw [<- HD.out.2.2.2]; have H3 : Hid (aC w3 D A8 n8 c8 B8 m8 d8 /\ Below w1.heap.size w1 w3) := Lh ⟨h8.o, ae H2.out.2 hb8⟩; clear h8 hb8)
   |(refine wB rfl 25 (.tmp 5) (.tmp 16) rfl w3.heap.size 0 rfl (zV K8 A8 n8 c8 B8 m8 d8) rfl (aa.new' w3 zL _ 25 rfl) 3 au ?_; intro w4 hst9; have Hw4 : Hid (aa w4 w3.heap.size (zV K8 A8 n8 c8 B8 m8 d8) 25 /\ Below w3.heap.size w3 w4) := Lh (aZ hst9); clear hst9; have hrx4 := aM Hw4.out.1; have H4 : Hid (Below w1.heap.size w1 w4) := Lh (ae H3.out.2 Hw4.out.2))
   |(refine aA rfl (.tmp 5) rfl w3.heap.size (0) rfl K8 A8 B8 n8 c8 m8 d8 hrx4 ?_)
   |((with_reducible refine (Cf HD.out.2.2.2 HD.out.2.1.val HD.out.2.2.1 (H3.out.1.below Hw4.out.2)).mono ?_); rintro e w8 hp; obtain ⟨A9, n9, c9, B9, m9, d9, rfl, h9, hb9⟩ := bV hp; rw [<- HD.out.2.2.2]; have H8 : Hid (ai (fun b => w4.heap.size <= b) w8 D A9 n9 c9 B9 m9 d9 /\ Below w1.heap.size w1 w8) := Lh ⟨h9.mono (fun b hb => hb.elim (fun h => h.elim) id), ae H4.out hb9⟩; clear hp h9 hb9)
   |(refine wB rfl 25 (.tmp 4) (.tmp 19) rfl (w.heap.size + 1) 0 rfl (zV K8 A9 n9 c9 B9 m9 d9) rfl (HZ1.out.below H8.out.2 HZ1.out.lt) 3 au ?_; intro w9 hst9; have Hw9 : Hid (aa w9 (w.heap.size + 1) (zV K8 A9 n9 c9 B9 m9 d9) 25 /\ Below w.heap.size w w9 /\ ai (fun b => w4.heap.size <= b) w9 D A9 n9 c9 B9 m9 d9) := Lh ⟨hst9.1, hst9.below (ae H1.out H8.out.2) (by omega), fO H8.out.1 hst9 (fun b hb => by have h1 := HZ1.out.lt; have h2 := H4.out.size; omega)⟩; clear hst9))
  exact bM rfl (w.heap.size + 1) rfl (C := (zV K8 A9 n9 c9 B9 m9 d9)) (T := 25) Hw9.out.1 _ Tryz.underlying25 rfl au rfl (by
   rw [HD.out.2.2.2];exact ⟨_, _, _, _, _, _, rfl, Hw9.out.2.2.mono (fun b hb => .inr (by have h1 := H1.out.size; have h2 := H4.out.size; omega)), Hw9.out.2.1⟩)
 ·have HV : Hid (false = ay r) := Lh (by simpa using hv);have HR : Hid (fZ s r = .mk 0 [] []) := Lh (by unfold fZ; rw [if_neg hv]);clear h hK hc hd hv;go_enter Tryz.func24, Tryz.ntmps24
  go_wp2_with (first
   |(refine aA rfl (.tmp 2) rfl w.heap.size (0) rfl K A B n c m d hrx ?_)
   |((with_reducible refine (jw HX.out.2.1 (HX.out.1.below (aB (ag _ _) _)) false HV.out).mono ?_); rintro e w1 hp; obtain ⟨rfl, hb⟩ := aN hp; have H1 : Hid (Below w.heap.size w w1) := Lh (ae (aB (ag _ _) _) hb); have HZ1 := Lh (HZ.out.below hb (by simp)); have hrx1 := aM (HB1.out.below hb (by simp; omega)); clear hp hb)
   |(refine wB rfl 25 (.tmp 4) (.tmp 10) rfl (w.heap.size + 1) 0 rfl zL rfl HZ1.out 3 au ?_; intro w9 hst9; have Hw9 : Hid (aa w9 (w.heap.size + 1) zL 25 /\ Below w.heap.size w w9 ) := Lh ⟨hst9.1, hst9.below H1.out (by omega)⟩; clear hst9))
  exact bM rfl (w.heap.size + 1) rfl (C := zL) (T := 25) Hw9.out.1 _ Tryz.underlying25 rfl au rfl (by rw [HR.out]; exact jF (ai.flat _ w9 (by constructor <;> decide)) (fun b hb => .inl hb) Hw9.out.2)
def aX (pb : Nat) (v : Value) (A : Option Addr) (n c : Nat) (w : World) (fl : Bool) (t : Alp.B) (v1 : Value) (w1 : World) : Prop := dh pb v1 A n c fl t w1 /\ Kp pb v w w1 /\ Nw w v v1
theorem aX.post {pb : Nat} {v v1 : Value} {A : Option Addr} {n c : Nat} {w w1 : World} {fl : Bool} {t : Alp.B} (h : aX pb v A n c w fl t v1 w1) : aH pb v A n c fl t w (.returned (.tuple #[])) w1 := ⟨rfl, v1, h.1, h.2.1, h.2.2⟩
theorem aX.step {pb : Nat} {v v1 : Value} {A : Option Addr} {n c : Nat} {w w1 w2 : World} {fl fl2 : Bool} {t t2 : Alp.B} {e : Ending} (h : aX pb v A n c w fl t v1 w1) (hp : aH pb v1 A n c fl2 t2 w1 e w2) : e = .returned (.tuple #[]) /\ ∃ v2, aX pb v A n c w fl2 t2 v2 w2 := by
 obtain ⟨he, v2, h1, h2, h3⟩ := hp;exact ⟨he, v2, h1, h.2.1.tr h.2.2 h2, h.2.2.tr h.2.1.size h3⟩
theorem aX.below {pb : Nat} {v v1 : Value} {A : Option Addr} {n c : Nat} {w w1 w2 : World} {fl : Bool} {t : Alp.B} (h : aX pb v A n c w fl t v1 w1) (hb : Below w1.heap.size w1 w2) : aX pb v A n c w fl t v1 w2 := ⟨h.1.below hb, h.2.1.tr h.2.2 (Kp.of_below hb), h.2.2⟩
theorem aX.refl {pb : Nat} {v : Value} {A : Option Addr} {n c : Nat} {w : World} {fl : Bool} {t : Alp.B} (h : dh pb v A n c fl t w) : aX pb v A n c w fl t v w := ⟨h, Kp.refl _ _ _, Nw.refl _ _⟩
theorem aX.lt {pb : Nat} {v v1 : Value} {A : Option Addr} {n c : Nat} {w w1 : World} {fl : Bool} {t : Alp.B} (h : aX pb v A n c w fl t v1 w1) : pb < w1.heap.size /\ ∀ g, v1.ownBlock = some g -> pb < g /\ g < w1.heap.size := h.1.lt
theorem qw {l : List Int} {n : Nat} (h : n < l.length) : (iv l)[n]? = some (.int .i64 (l.getD n 0)) := by unfold iv; simp [List.getD, h]
theorem oU {L : List Lt} {s : List Int} {i : Nat} (h : i < s.length) (f : Bool) : bH L f (s.drop i) = (if f then [] else [124]) ++ bZ L (s.getD i 0) ++ bH L false (s.drop (i + 1)) := by
 rw [List.drop_eq_getElem_cons h, bH, List.getD_eq_getElem?_getD, List.getElem?_eq_getElem h]
 rfl
theorem pU {L : List Lt} {s : List Int} {i : Nat} (h : i < s.length) : (s.drop i).any (bC L) = (bC L (s.getD i 0) || (s.drop (i + 1)).any (bC L)) := by
 rw [List.drop_eq_getElem_cons h, List.any_cons, List.getD_eq_getElem?_getD, List.getElem?_eq_getElem h]
 rfl
theorem Cy (w : World) {pb : Nat} {v : Value} {A : Option Addr} {n c : Nat} {fl : Bool} {t : Alp.B} (h : dh pb v A n c fl t w) (L : List Lt) (hL : dY w pb A n c L) (s : List Int) (b o ns cs : Nat) (hns : ns = s.length) (hc : ns <= cs) (hm : cs <= 9223372036854775807) (hcs : ∀ k v, (iv s)[k]? = some v -> w.cell? ⟨b, o + k, none⟩ = some v) (hb1 : b ≠ pb) (hb2 : some b ≠ v.ownBlock) (hpos : ∀ x ∈ s, 0 <= x) (h1 : s.length = 1) (ht : t.length + (bZ L (s.getD 0 0)).length <= 1000000000) : Calls Tryz.prog 103 #[.pointer (some ⟨pb, 0, none⟩), .slice (some ⟨b, o, none⟩) ns cs] w (aH pb v A n c (fl || bC L (s.getD 0 0)) (t ++ bZ L (s.getD 0 0)) w) := by
 obtain ⟨x, rfl⟩ : ∃ x, s = [x] := by
  match s, h1 with
  |[x], _ => exact ⟨x, rfl⟩
 have h3 := hcs 0 (.int .i64 x) rfl;rw [Nat.add_zero] at h3;have HS : Hid (Calls Tryz.prog 134 #[.pointer (some ⟨pb, 0, none⟩), .int .i64 x] w (aH pb v A n c (fl || bC L (([x] : List Int).getD 0 0)) (t ++ bZ L (([x] : List Int).getD 0 0)) w)) := Lh (mJ w h L hL x (hpos x (by simp)) (by omega));have hn1 : ns = 1 := by rw [hns]; rfl
 subst hn1;clear h hL hns hcs hpos h1 ht hb1 hb2;go_enter Tryz.func103, Tryz.ntmps103
 go_wp2_with ((with_reducible refine HS.out.mono ?_); rintro e x4 hp; have H4 := Lh hp; obtain ⟨rfl, _⟩ := iw hp; clear hp)
 go_end0;exact H4.out
theorem AZ (w : World) {pb : Nat} {v : Value} {A : Option Addr} {n c : Nat} {fl : Bool} {t : Alp.B} (h : dh pb v A n c fl t w) (L : List Lt) (hL : dY w pb A n c L) (s : List Int) (b o ns cs : Nat) (hns : ns = s.length) (hc : ns <= cs) (hm : cs <= 9223372036854775807) (hcs : ∀ k v, (iv s)[k]? = some v -> w.cell? ⟨b, o + k, none⟩ = some v) (hb1 : b ≠ pb) (hb2 : some b ≠ v.ownBlock) (hpos : ∀ x ∈ s, 0 <= x) (h1 : ns ≠ 1) (h2 : ns = n) (k : Nat) (hk : ns = k + 1) (h3 : s.getD k 0 = (k : Int)) (ht : t.length <= 1000000000) : Calls Tryz.prog 103 #[.pointer (some ⟨pb, 0, none⟩), .slice (some ⟨b, o, none⟩) ns cs] w (aH pb v A n c fl (t ++ [46]) w) := by
 have hc3 := hcs k (.int .i64 (k : Int)) (by rw [<- h3]; exact qw (by omega));have HS : Hid (Calls Tryz.prog 107 #[.pointer (some ⟨pb, 0, none⟩), .int .u8 46] w (aH pb v A n c fl (t ++ [46]) w)) := Lh (gK w h 46 ht);have hb0 : w.cell? ⟨pb, 0, none⟩ = some (.slice A n c) := h.box.cell (j := 0) rfl;subst h2;obtain ⟨M, hM⟩ : ∃ M : Nat, M = ns := ⟨_, rfl⟩;have e1 : ((ns : Int) == 1) = false := bF (by omega);have e4 : (ns : Int) - 1 = (k : Int) := by omega
 have hkl : k < ns := by omega
 have hn9 : ns <= 9223372036854775807 := by omega
 clear h hL hns hcs hpos h1 ht hb1 hb2 hk h3 hM;go_enter Tryz.func103, Tryz.ntmps103
 go_wp2_with ((with_reducible refine HS.out.mono ?_); rintro e x4 hp; have H4 := Lh hp; obtain ⟨rfl, _⟩ := iw hp; clear hp)
 go_end0;exact H4.out
theorem Db (w : World) {pb : Nat} {v : Value} {A : Option Addr} {n c : Nat} {fl : Bool} {t : Alp.B} (h : dh pb v A n c fl t w) (L : List Lt) (hL : dY w pb A n c L) (s : List Int) (b o ns cs : Nat) (hns : ns = s.length) (hc : ns <= cs) (hm : cs <= 9223372036854775807) (hcs : ∀ k v, (iv s)[k]? = some v -> w.cell? ⟨b, o + k, none⟩ = some v) (hb1 : b ≠ pb) (hb2 : some b ≠ v.ownBlock) (hpos : ∀ x ∈ s, 0 <= x) (h1 : ns ≠ 1) (h2 : ns ≠ n) (ht : t.length + (([40] ++ bH L true s ++ [41] : Alp.B)).length <= 1000000000) : Calls Tryz.prog 103 #[.pointer (some ⟨pb, 0, none⟩), .slice (some ⟨b, o, none⟩) ns cs] w (aH pb v A n c (fl || s.any (bC L)) (t ++ ([40] ++ bH L true s ++ [41])) w) := by
 simp only [List.length_append, List.length_cons, List.length_nil] at ht;have HLK : Hid (∀ v1 w1, ∀ {f : Bool} {T : Alp.B}, aX pb v A n c w f T v1 w1 -> dY w1 pb A n c L) := Lh fun v1 w1 f T hp => hL.kp hp.2.1 h.lt
 have HS : Hid (Calls Tryz.prog 107 #[.pointer (some ⟨pb, 0, none⟩), .int .u8 40] w (aH pb v A n c fl (t ++ [40]) w)) := Lh (gK w h 40 (by omega));have HS0 : Hid (∀ e w2, aH pb v A n c fl (t ++ [40]) w e w2 -> e = .returned (.tuple #[]) /\ ∃ v2, aX pb v A n c w fl (t ++ [40]) v2 w2 /\ (t ++ [40]) ++ bH L (decide (0 = 0)) (s.drop 0) = t ++ [40] ++ bH L true s /\ (fl || (s.drop 0).any (bC L)) = (fl || s.any (bC L))) := Lh fun e w2 hp => by
  obtain ⟨he, v2, h2⟩ := (aX.refl h).step hp;exact ⟨he, v2, h2, by simp, by simp⟩
 have HCS : Hid (∀ v1 w1, ∀ {f : Bool} {T : Alp.B}, aX pb v A n c w f T v1 w1 -> ∀ k v, (iv s)[k]? = some v -> w1.cell? ⟨b, o + k, none⟩ = some v) := Lh fun v1 w1 f T hp k u hu => (hp.2.1.cell (World.block_lt_of_cell? w _ (hcs k u hu)) hb1 hb2).trans (hcs k u hu)
 have HX : Hid (ns = s.length /\ (∀ x ∈ s, 0 <= x) /\ t.length + (1 + (bH L true s).length + 1) <= 1000000000) := Lh ⟨hns, hpos, by omega⟩;have hb0 : w.cell? ⟨pb, 0, none⟩ = some (.slice A n c) := h.box.cell (j := 0) rfl;have e1 : ((ns : Int) == 1) = false := bF (by omega);have hn9 : ns <= 9223372036854775807 := by omega
 have e4 : ((ns : Int) == (n : Int)) = false := bF (by omega);clear h hL hns hcs hpos h1 ht hb1 hb2 h2;go_enter Tryz.func103, Tryz.ntmps103
 go_wp2_with ((with_reducible refine HS.out.mono ?_); rintro e w2 hp; obtain ⟨rfl, v2, h2⟩ := HS0.out e w2 hp; have H2 := Lh h2; clear hp h2)
 go_loopg [13] ns (fun gq s13 wr => ∃ (i : Nat) (f : Bool) (T : Alp.B) (v1 : Value), i + gq = ns /\ s13 = .int .i64 (i : Int) /\ Hid (aX pb v A n c w f T v1 wr /\ T ++ bH L (decide (i = 0)) (s.drop i) = t ++ [40] ++ bH L true s /\ (f || (s.drop i).any (bC L)) = (fl || s.any (bC L))))
 case atStart => exact ⟨0, fl, t ++ [40], v2, by omega, rfl, H2⟩
 case round =>
  obtain ⟨i, f, T, v1, hi, rfl, HI⟩ := hrel;have hTl : T.length <= 999999999 := by have h1 := congrArg List.length HI.out.2.1; have h2 := HX.out.2.2; simp at h1; omega
  by_cases hlt : i < ns
  ·obtain ⟨gg, rfl⟩ : ∃ g, gk = g + 1 := ⟨gk - 1, by omega⟩;obtain ⟨x, hx⟩ : ∃ x, x = s.getD i 0 := ⟨_, rfl⟩;have hil : i < s.length := by rw [<- HX.out.1]; exact hlt
   have hcx : wr.cell? ⟨b, o + i, none⟩ = some (.int .i64 x) := HCS.out v1 wr HI.out.1 i _ (by rw [hx]; exact qw hil);have hx0 : 0 <= x := HX.out.2.1 x (by rw [hx, List.getD_eq_getElem?_getD, List.getElem?_eq_getElem hil]; exact List.getElem_mem hil)
   by_cases hi0 : i = 0
   ·have e1 : decide (0 < i) = false := dF (by omega);have HBS : Hid (bH L (decide (i = 0)) (s.drop i) = bZ L x ++ bH L false (s.drop (i + 1)) /\ decide (i + 1 = 0) = false) := Lh ⟨by rw [oU hil, dT (by omega), hx]; simp, by simp⟩;have HS1 : Hid (Calls Tryz.prog 134 #[.pointer (some ⟨pb, 0, none⟩), .int .i64 x] wr (aH pb v1 A n c (f || bC L x) (T ++ bZ L x) wr)) := Lh (mJ wr HI.out.1.1 L (HLK.out v1 wr HI.out.1) x hx0 (by omega));have HF1 : Hid (∀ e w2, aH pb v1 A n c (f || bC L x) (T ++ bZ L x) wr e w2 -> e = .returned (.tuple #[]) /\ ∃ v2, aX pb v A n c w (f || bC L x) (T ++ bZ L x) v2 w2 /\ (T ++ bZ L x) ++ bH L (decide ((i + 1) = 0)) (s.drop (i + 1)) = t ++ [40] ++ bH L true s /\ ((f || bC L x) || (s.drop (i + 1)).any (bC L)) = (fl || s.any (bC L))) := Lh fun e w2 hp => by
     obtain ⟨he, v2, h2⟩ := HI.out.1.step hp;refine ⟨he, v2, h2, ?_, ?_⟩
     ·rw [HBS.out.2, <- HI.out.2.1, HBS.out.1]; simp
     ·rw [<- HI.out.2.2, pU hil, hx, Bool.or_assoc]
    clear hi0 hil hx hx0
    go_wp2_with ((with_reducible refine HS1.out.mono ?_); rintro e w2 hp; obtain ⟨rfl, v2, h2⟩ := HF1.out e w2 hp; have H2 := Lh h2; clear hp h2)
    go_roundg gg
    case rel => exact ⟨i + 1, f || bC L x, T ++ bZ L x, v2, by omega, by go_num, H2⟩
    case measure => omega
   ·have e1 : decide (0 < i) = true := dT (by omega);have HBS : Hid (bH L (decide (i = 0)) (s.drop i) = [124] ++ bZ L x ++ bH L false (s.drop (i + 1)) /\ decide (i + 1 = 0) = false) := Lh ⟨by rw [oU hil, dF (by omega), hx]; simp, by simp⟩;have HS1 : Hid (Calls Tryz.prog 107 #[.pointer (some ⟨pb, 0, none⟩), .int .u8 124] wr (aH pb v1 A n c f (T ++ [124]) wr)) := Lh (gK wr HI.out.1.1 124 (by omega));have HF0 : Hid (∀ e w2, aH pb v1 A n c f (T ++ [124]) wr e w2 -> e = .returned (.tuple #[]) /\ ∃ v2, aX pb v A n c w f (T ++ [124]) v2 w2 /\ Calls Tryz.prog 134 #[.pointer (some ⟨pb, 0, none⟩), .int .i64 x] w2 (aH pb v2 A n c (f || bC L x) (T ++ [124] ++ bZ L x) w2)) := Lh fun e w2 hp => by
     obtain ⟨he, v2, h2⟩ := HI.out.1.step hp;exact ⟨he, v2, h2, mJ w2 h2.1 L (HLK.out v2 w2 h2) x hx0 (by simp; omega)⟩
    have HF1 : Hid (∀ v2 w2 e w3, aX pb v A n c w f (T ++ [124]) v2 w2 -> aH pb v2 A n c (f || bC L x) (T ++ [124] ++ bZ L x) w2 e w3 -> e = .returned (.tuple #[]) /\ ∃ v3, aX pb v A n c w (f || bC L x) (T ++ [124] ++ bZ L x) v3 w3 /\ (T ++ [124] ++ bZ L x) ++ bH L (decide ((i + 1) = 0)) (s.drop (i + 1)) = t ++ [40] ++ bH L true s /\ ((f || bC L x) || (s.drop (i + 1)).any (bC L)) = (fl || s.any (bC L))) := Lh fun v2 w2 e w3 h2 hp => by
     obtain ⟨he, v3, h3⟩ := h2.step hp;refine ⟨he, v3, h3, ?_, ?_⟩
     ·rw [HBS.out.2, <- HI.out.2.1, HBS.out.1]; simp
     ·rw [<- HI.out.2.2, pU hil, hx, Bool.or_assoc]
    clear hi0 hil hx hx0
    go_wp2_with (first
     |((with_reducible refine HS1.out.mono ?_); rintro e w2 hp; obtain ⟨rfl, v2, h2, hc2⟩ := HF0.out e w2 hp; have H2 := Lh h2; have HC2 := Lh hc2; clear hp h2 hc2)
     |((with_reducible refine HC2.out.mono ?_); rintro e w3 hp; obtain ⟨rfl, v3, h3⟩ := HF1.out v2 w2 e w3 H2.out hp; have H3 := Lh h3; clear hp h3))
    go_roundg gg
    case rel => exact ⟨i + 1, f || bC L x, T ++ [124] ++ bZ L x, v3, by omega, by go_num, H3⟩
    case measure => omega
  ·obtain rfl : ns = i := by omega
   have HS9 : Hid (Calls Tryz.prog 107 #[.pointer (some ⟨pb, 0, none⟩), .int .u8 41] wr (aH pb v1 A n c f (T ++ [41]) wr)) := Lh (gK wr HI.out.1.1 41 (by omega));have HF9 : Hid (∀ e w2, aH pb v1 A n c f (T ++ [41]) wr e w2 -> aH pb v A n c (fl || s.any (bC L)) (t ++ ([40] ++ bH L true s ++ [41])) w e w2) := Lh fun e w2 hp => by
    obtain ⟨rfl, v2, h2⟩ := HI.out.1.step hp;have h3 := HI.out.2.1;have h4 := HI.out.2.2;rw [HX.out.1, List.drop_length] at h3 h4;rw [bH, List.append_nil] at h3;rw [List.any_nil, Bool.or_false] at h4;rw [h3, h4] at h2;have h5 := h2.post;rw [show t ++ ([40] ++ bH L true s ++ [41]) = t ++ [40] ++ bH L true s ++ [41] by simp];exact h5
   go_wp2_with ((with_reducible refine HS9.out.mono ?_); rintro e w2 hp; have H9 := Lh (HF9.out e w2 hp); obtain ⟨rfl, _⟩ := iw hp; clear hp)
   go_end0;exact H9.out
theorem AY (w : World) {pb : Nat} {v : Value} {A : Option Addr} {n c : Nat} {fl : Bool} {t : Alp.B} (h : dh pb v A n c fl t w) (L : List Lt) (hL : dY w pb A n c L) (s : List Int) (b o ns cs : Nat) (hns : ns = s.length) (hc : ns <= cs) (hm : cs <= 9223372036854775807) (hcs : ∀ k v, (iv s)[k]? = some v -> w.cell? ⟨b, o + k, none⟩ = some v) (hb1 : b ≠ pb) (hb2 : some b ≠ v.ownBlock) (hpos : ∀ x ∈ s, 0 <= x) (h1 : ns ≠ 1) (h2 : ns = n) (k : Nat) (hk : ns = k + 1) (y : Int) (hy : y = s.getD k 0) (h3 : y ≠ (k : Int)) (ht : t.length + (([40] ++ bH L true s ++ [41] : Alp.B)).length <= 1000000000) : Calls Tryz.prog 103 #[.pointer (some ⟨pb, 0, none⟩), .slice (some ⟨b, o, none⟩) ns cs] w (aH pb v A n c (fl || s.any (bC L)) (t ++ ([40] ++ bH L true s ++ [41])) w) := by
 simp only [List.length_append, List.length_cons, List.length_nil] at ht;have HLK : Hid (∀ v1 w1, ∀ {f : Bool} {T : Alp.B}, aX pb v A n c w f T v1 w1 -> dY w1 pb A n c L) := Lh fun v1 w1 f T hp => hL.kp hp.2.1 h.lt
 have HS : Hid (Calls Tryz.prog 107 #[.pointer (some ⟨pb, 0, none⟩), .int .u8 40] w (aH pb v A n c fl (t ++ [40]) w)) := Lh (gK w h 40 (by omega));have HS0 : Hid (∀ e w2, aH pb v A n c fl (t ++ [40]) w e w2 -> e = .returned (.tuple #[]) /\ ∃ v2, aX pb v A n c w fl (t ++ [40]) v2 w2 /\ (t ++ [40]) ++ bH L (decide (0 = 0)) (s.drop 0) = t ++ [40] ++ bH L true s /\ (fl || (s.drop 0).any (bC L)) = (fl || s.any (bC L))) := Lh fun e w2 hp => by
  obtain ⟨he, v2, h2⟩ := (aX.refl h).step hp;exact ⟨he, v2, h2, by simp, by simp⟩
 have HCS : Hid (∀ v1 w1, ∀ {f : Bool} {T : Alp.B}, aX pb v A n c w f T v1 w1 -> ∀ k v, (iv s)[k]? = some v -> w1.cell? ⟨b, o + k, none⟩ = some v) := Lh fun v1 w1 f T hp k u hu => (hp.2.1.cell (World.block_lt_of_cell? w _ (hcs k u hu)) hb1 hb2).trans (hcs k u hu)
 have HX : Hid (ns = s.length /\ (∀ x ∈ s, 0 <= x) /\ t.length + (1 + (bH L true s).length + 1) <= 1000000000) := Lh ⟨hns, hpos, by omega⟩;have hb0 : w.cell? ⟨pb, 0, none⟩ = some (.slice A n c) := h.box.cell (j := 0) rfl;have e1 : ((ns : Int) == 1) = false := bF (by omega);have hn9 : ns <= 9223372036854775807 := by omega
 have hc3 := hcs k (.int .i64 y) (by rw [hy]; exact qw (by omega));have e4 : (ns : Int) - 1 = (k : Int) := by omega
 have e5 : (y == (k : Int)) = false := bF h3;have hkl : k < ns := by omega
 have e7 : ((ns : Int) == (n : Int)) = true := bT (by omega);clear h hL hns hcs hpos h1 ht hb1 hb2 hk hy h3 h2;go_enter Tryz.func103, Tryz.ntmps103
 go_wp2_with ((with_reducible refine HS.out.mono ?_); rintro e w2 hp; obtain ⟨rfl, v2, h2⟩ := HS0.out e w2 hp; have H2 := Lh h2; clear hp h2)
 go_loopg [13] ns (fun gq s13 wr => ∃ (i : Nat) (f : Bool) (T : Alp.B) (v1 : Value), i + gq = ns /\ s13 = .int .i64 (i : Int) /\ Hid (aX pb v A n c w f T v1 wr /\ T ++ bH L (decide (i = 0)) (s.drop i) = t ++ [40] ++ bH L true s /\ (f || (s.drop i).any (bC L)) = (fl || s.any (bC L))))
 case atStart => exact ⟨0, fl, t ++ [40], v2, by omega, rfl, H2⟩
 case round =>
  obtain ⟨i, f, T, v1, hi, rfl, HI⟩ := hrel;have hTl : T.length <= 999999999 := by have h1 := congrArg List.length HI.out.2.1; have h2 := HX.out.2.2; simp at h1; omega
  by_cases hlt : i < ns
  ·obtain ⟨gg, rfl⟩ : ∃ g, gk = g + 1 := ⟨gk - 1, by omega⟩;obtain ⟨x, hx⟩ : ∃ x, x = s.getD i 0 := ⟨_, rfl⟩;have hil : i < s.length := by rw [<- HX.out.1]; exact hlt
   have hcx : wr.cell? ⟨b, o + i, none⟩ = some (.int .i64 x) := HCS.out v1 wr HI.out.1 i _ (by rw [hx]; exact qw hil);have hx0 : 0 <= x := HX.out.2.1 x (by rw [hx, List.getD_eq_getElem?_getD, List.getElem?_eq_getElem hil]; exact List.getElem_mem hil)
   by_cases hi0 : i = 0
   ·have e1 : decide (0 < i) = false := dF (by omega);have HBS : Hid (bH L (decide (i = 0)) (s.drop i) = bZ L x ++ bH L false (s.drop (i + 1)) /\ decide (i + 1 = 0) = false) := Lh ⟨by rw [oU hil, dT (by omega), hx]; simp, by simp⟩;have HS1 : Hid (Calls Tryz.prog 134 #[.pointer (some ⟨pb, 0, none⟩), .int .i64 x] wr (aH pb v1 A n c (f || bC L x) (T ++ bZ L x) wr)) := Lh (mJ wr HI.out.1.1 L (HLK.out v1 wr HI.out.1) x hx0 (by omega));have HF1 : Hid (∀ e w2, aH pb v1 A n c (f || bC L x) (T ++ bZ L x) wr e w2 -> e = .returned (.tuple #[]) /\ ∃ v2, aX pb v A n c w (f || bC L x) (T ++ bZ L x) v2 w2 /\ (T ++ bZ L x) ++ bH L (decide ((i + 1) = 0)) (s.drop (i + 1)) = t ++ [40] ++ bH L true s /\ ((f || bC L x) || (s.drop (i + 1)).any (bC L)) = (fl || s.any (bC L))) := Lh fun e w2 hp => by
     obtain ⟨he, v2, h2⟩ := HI.out.1.step hp;refine ⟨he, v2, h2, ?_, ?_⟩
     ·rw [HBS.out.2, <- HI.out.2.1, HBS.out.1]; simp
     ·rw [<- HI.out.2.2, pU hil, hx, Bool.or_assoc]
    clear hi0 hil hx hx0
    go_wp2_with ((with_reducible refine HS1.out.mono ?_); rintro e w2 hp; obtain ⟨rfl, v2, h2⟩ := HF1.out e w2 hp; have H2 := Lh h2; clear hp h2)
    go_roundg gg
    case rel => exact ⟨i + 1, f || bC L x, T ++ bZ L x, v2, by omega, by go_num, H2⟩
    case measure => omega
   ·have e1 : decide (0 < i) = true := dT (by omega);have HBS : Hid (bH L (decide (i = 0)) (s.drop i) = [124] ++ bZ L x ++ bH L false (s.drop (i + 1)) /\ decide (i + 1 = 0) = false) := Lh ⟨by rw [oU hil, dF (by omega), hx]; simp, by simp⟩;have HS1 : Hid (Calls Tryz.prog 107 #[.pointer (some ⟨pb, 0, none⟩), .int .u8 124] wr (aH pb v1 A n c f (T ++ [124]) wr)) := Lh (gK wr HI.out.1.1 124 (by omega));have HF0 : Hid (∀ e w2, aH pb v1 A n c f (T ++ [124]) wr e w2 -> e = .returned (.tuple #[]) /\ ∃ v2, aX pb v A n c w f (T ++ [124]) v2 w2 /\ Calls Tryz.prog 134 #[.pointer (some ⟨pb, 0, none⟩), .int .i64 x] w2 (aH pb v2 A n c (f || bC L x) (T ++ [124] ++ bZ L x) w2)) := Lh fun e w2 hp => by
     obtain ⟨he, v2, h2⟩ := HI.out.1.step hp;exact ⟨he, v2, h2, mJ w2 h2.1 L (HLK.out v2 w2 h2) x hx0 (by simp; omega)⟩
    have HF1 : Hid (∀ v2 w2 e w3, aX pb v A n c w f (T ++ [124]) v2 w2 -> aH pb v2 A n c (f || bC L x) (T ++ [124] ++ bZ L x) w2 e w3 -> e = .returned (.tuple #[]) /\ ∃ v3, aX pb v A n c w (f || bC L x) (T ++ [124] ++ bZ L x) v3 w3 /\ (T ++ [124] ++ bZ L x) ++ bH L (decide ((i + 1) = 0)) (s.drop (i + 1)) = t ++ [40] ++ bH L true s /\ ((f || bC L x) || (s.drop (i + 1)).any (bC L)) = (fl || s.any (bC L))) := Lh fun v2 w2 e w3 h2 hp => by
     obtain ⟨he, v3, h3⟩ := h2.step hp;refine ⟨he, v3, h3, ?_, ?_⟩
     ·rw [HBS.out.2, <- HI.out.2.1, HBS.out.1]; simp
     ·rw [<- HI.out.2.2, pU hil, hx, Bool.or_assoc]
    clear hi0 hil hx hx0
    go_wp2_with (first
     |((with_reducible refine HS1.out.mono ?_); rintro e w2 hp; obtain ⟨rfl, v2, h2, hc2⟩ := HF0.out e w2 hp; have H2 := Lh h2; have HC2 := Lh hc2; clear hp h2 hc2)
     |((with_reducible refine HC2.out.mono ?_); rintro e w3 hp; obtain ⟨rfl, v3, h3⟩ := HF1.out v2 w2 e w3 H2.out hp; have H3 := Lh h3; clear hp h3))
    go_roundg gg
    case rel => exact ⟨i + 1, f || bC L x, T ++ [124] ++ bZ L x, v3, by omega, by go_num, H3⟩
    case measure => omega
  ·obtain rfl : ns = i := by omega
   have HS9 : Hid (Calls Tryz.prog 107 #[.pointer (some ⟨pb, 0, none⟩), .int .u8 41] wr (aH pb v1 A n c f (T ++ [41]) wr)) := Lh (gK wr HI.out.1.1 41 (by omega));have HF9 : Hid (∀ e w2, aH pb v1 A n c f (T ++ [41]) wr e w2 -> aH pb v A n c (fl || s.any (bC L)) (t ++ ([40] ++ bH L true s ++ [41])) w e w2) := Lh fun e w2 hp => by
    obtain ⟨rfl, v2, h2⟩ := HI.out.1.step hp;have h3 := HI.out.2.1;have h4 := HI.out.2.2;rw [HX.out.1, List.drop_length] at h3 h4;rw [bH, List.append_nil] at h3;rw [List.any_nil, Bool.or_false] at h4;rw [h3, h4] at h2;have h5 := h2.post;rw [show t ++ ([40] ++ bH L true s ++ [41]) = t ++ [40] ++ bH L true s ++ [41] by simp];exact h5
   go_wp2_with ((with_reducible refine HS9.out.mono ?_); rintro e w2 hp; have H9 := Lh (HF9.out e w2 hp); obtain ⟨rfl, _⟩ := iw hp; clear hp)
   go_end0;exact H9.out
theorem Ag (w : World) {pb : Nat} {v : Value} {A : Option Addr} {n c : Nat} {fl : Bool} {t : Alp.B} (h : dh pb v A n c fl t w) (L : List Lt) (hL : dY w pb A n c L) (s : List Int) (b o ns cs : Nat) (hns : ns = s.length) (hc : ns <= cs) (hm : cs <= 9223372036854775807) (hcs : ∀ k v, (iv s)[k]? = some v -> w.cell? ⟨b, o + k, none⟩ = some v) (hb1 : b ≠ pb) (hb2 : some b ≠ v.ownBlock) (hpos : ∀ x ∈ s, 0 <= x) (hne : s ≠ []) (ht : t.length + (jB L s).length <= 1000000000) : Calls Tryz.prog 103 #[.pointer (some ⟨pb, 0, none⟩), .slice (some ⟨b, o, none⟩) ns cs] w (aH pb v A n c (fl || nG L s) (t ++ jB L s) w) := by
 have hl : 0 < s.length := List.length_pos_iff.2 hne;have hLn := hL.nl;unfold jB at ht ⊢;unfold nG
 by_cases h1 : s.length = 1
 ·rw [if_pos h1] at ht;rw [if_pos h1, if_pos h1];exact Cy w h L hL s b o ns cs hns hc hm hcs hb1 hb2 hpos h1 ht
 rw [if_neg h1] at ht;rw [if_neg h1, if_neg h1]
 by_cases h2 : pM L s = true
 ·rw [if_pos h2] at ht;rw [if_pos h2, if_pos h2, Bool.or_false];have h3 := of_decide_eq_true h2;exact AZ w h L hL s b o ns cs hns hc hm hcs hb1 hb2 hpos (by omega) (by omega) (ns - 1) (by omega) (by rw [hns, h3.2]; omega) (by omega)
 rw [if_neg h2] at ht;rw [if_neg h2, if_neg h2]
 by_cases h3 : ns = n
 ·refine AY w h L hL s b o ns cs hns hc hm hcs hb1 hb2 hpos (by omega) h3 (ns - 1) (by omega) _ rfl (fun e => h2 ?_) ht;unfold pM;rw [<- hns];exact dT ⟨by omega, by rw [e]; omega⟩
 ·exact Db w h L hL s b o ns cs hns hc hm hcs hb1 hb2 hpos (by omega) h3 ht
theorem jU {pb : Nat} {v : Value} {A : Option Addr} {n c : Nat} {fl : Bool} {t : Alp.B} {w w1 w2 : World} {e : Ending} (hb : Below w.heap.size w w1) (h : aH pb v A n c fl t w1 e w2) : aH pb v A n c fl t w e w2 := by
 obtain ⟨he, v', h1, h2, h3⟩ := h;exact ⟨he, v', h1, (Kp.of_below hb).tr (Nw.refl _ _) h2, h3.of hb.size⟩
def jK (r : Rx) : Prop := ∀ (L : List Lt) (pb : Nat) (v : Value) (A : Option Addr) (n c : Nat) (fl : Bool) (t : Alp.B) (w : World) (Ky : Int) (A2 B2 : Option Addr) (n2 c2 m2 d2 : Nat), Ky = r.kind -> dh pb v A n c fl t w -> dY w pb A n c L -> ai (fun b => b ≠ pb /\ some b ≠ v.ownBlock) w r A2 n2 c2 B2 m2 d2 -> t.length + (aF L r).length <= 1000000000 -> Calls Tryz.prog 72 #[.pointer (some ⟨pb, 0, none⟩), .agg #[.int .i64 Ky, .slice A2 n2 c2, .slice B2 m2 d2]] w (aH pb v A n c (fl || aO L r) (t ++ aF L r) w)
theorem mY {r : Rx} (H : jK r) {L : List Lt} {pb : Nat} {v : Value} {A : Option Addr} {n c : Nat} {fl : Bool} {t : Alp.B} {w : World} {Ky : Int} {A2 B2 : Option Addr} {n2 c2 m2 d2 : Nat} (hK : Ky = r.kind) (h : dh pb v A n c fl t w) (hL : dY w pb A n c L) (hr : ai (fun b => b ≠ pb /\ some b ≠ v.ownBlock) w r A2 n2 c2 B2 m2 d2) (ht : t.length + (aF L r).length <= 1000000000) : Calls Tryz.prog 72 #[.pointer (some ⟨pb, 0, none⟩), .agg #[.int .i64 Ky, .slice A2 n2 c2, .slice B2 m2 d2]] w (aH pb v A n c (fl || aO L r) (t ++ aF L r) w) := H L pb v A n c fl t w Ky A2 B2 n2 c2 m2 d2 hK h hL hr ht
theorem mM {r : Rx} (H : jK r) {L : List Lt} {pb : Nat} {v : Value} {A : Option Addr} {n c : Nat} {fl : Bool} {t : Alp.B} {w : World} {Ky : Int} {A2 B2 : Option Addr} {n2 c2 m2 d2 : Nat} (hK : Ky = r.kind) (h : dh pb v A n c fl t w) (hL : dY w pb A n c L) (hr : ai (fun b => b ≠ pb /\ some b ≠ v.ownBlock) w r A2 n2 c2 B2 m2 d2) (ht : t.length + (aF L r).length <= 1000000000) : Calls Tryz.prog 106 #[.pointer (some ⟨pb, 0, none⟩), .agg #[.int .i64 Ky, .slice A2 n2 c2, .slice B2 m2 d2], .bool false] w (aH pb v A n c (fl || aO L r) (t ++ aF L r) w) := by
 have hb1 : Below w.heap.size w (w.alloc (zC Ky A2 n2 c2 B2 m2 d2)) := ag w _;have hr1 : (w.alloc (zC Ky A2 n2 c2 B2 m2 d2)).rangeAt w.heap.size 0 (zV Ky A2 n2 c2 B2 m2 d2) := fun j u hu => by rw [Nat.zero_add]; exact iX (Below.refl _ _) j u hu
 have HEX : Hid (Calls Tryz.prog 72 #[.pointer (some ⟨pb, 0, none⟩), .agg #[.int .i64 Ky, .slice A2 n2 c2, .slice B2 m2 d2]] (w.alloc (zC Ky A2 n2 c2 B2 m2 d2)) (aH pb v A n c (fl || aO L r) (t ++ aF L r) (w.alloc (zC Ky A2 n2 c2 B2 m2 d2)))) := Lh (mY H hK (h.below hb1) (hL.below hb1) (hr.below hb1) ht);have HB := Lh hb1;clear H hK h hL hr ht hb1;go_enter Tryz.func106, Tryz.ntmps106
 go_wp2_with (first
  |(refine aA rfl (.tmp 4) rfl w.heap.size (0) rfl Ky A2 B2 n2 c2 m2 d2 hr1 ?_)
  |((with_reducible refine HEX.out.mono ?_); rintro e x4 hp; have H4 := Lh (jU HB.out hp); obtain ⟨rfl, _⟩ := iw hp; clear hp))
 go_end0;exact H4.out
theorem kg {r : Rx} (H : jK r) {L : List Lt} {pb : Nat} {v : Value} {A : Option Addr} {n c : Nat} {fl : Bool} {t : Alp.B} {w : World} {Ky : Int} {A2 B2 : Option Addr} {n2 c2 m2 d2 : Nat} (hK : Ky = r.kind) (h : dh pb v A n c fl t w) (hL : dY w pb A n c L) (hr : ai (fun b => b ≠ pb /\ some b ≠ v.ownBlock) w r A2 n2 c2 B2 m2 d2) (ht : t.length + ((aF L r).length + 2) <= 1000000000) : Calls Tryz.prog 106 #[.pointer (some ⟨pb, 0, none⟩), .agg #[.int .i64 Ky, .slice A2 n2 c2, .slice B2 m2 d2], .bool true] w (aH pb v A n c (fl || aO L r) (t ++ ([40] ++ aF L r ++ [41])) w) := by
 have hb1 : Below w.heap.size w (w.alloc (zC Ky A2 n2 c2 B2 m2 d2)) := ag w _;have hbk : aa (w.alloc (zC Ky A2 n2 c2 B2 m2 d2)) w.heap.size (zV Ky A2 n2 c2 B2 m2 d2) 25 := aa.at w _ _ 25 _ rfl rfl;have h1 : aX pb v A n c (w.alloc (zC Ky A2 n2 c2 B2 m2 d2)) fl t v (w.alloc (zC Ky A2 n2 c2 B2 m2 d2)) := aX.refl (h.below hb1);have hl := h.lt;have HM : Hid (Calls Tryz.prog 107 #[.pointer (some ⟨pb, 0, none⟩), .int .u8 40] (w.alloc (zC Ky A2 n2 c2 B2 m2 d2)) (aH pb v A n c fl (t ++ [40]) (w.alloc (zC Ky A2 n2 c2 B2 m2 d2)))) := Lh (gK _ h1.1 40 (by omega));have HM1 : Hid (∀ e w2, aH pb v A n c fl (t ++ [40]) (w.alloc (zC Ky A2 n2 c2 B2 m2 d2)) e w2 -> e = .returned (.tuple #[]) /\ w2.rangeAt w.heap.size 0 (zV Ky A2 n2 c2 B2 m2 d2) /\ ∃ v1, aX pb v A n c (w.alloc (zC Ky A2 n2 c2 B2 m2 d2)) fl (t ++ [40]) v1 w2 /\ Calls Tryz.prog 72 #[.pointer (some ⟨pb, 0, none⟩), .agg #[.int .i64 Ky, .slice A2 n2 c2, .slice B2 m2 d2]] w2 (aH pb v1 A n c (fl || aO L r) (t ++ [40] ++ aF L r) w2)) := Lh fun e w2 hp => by
  obtain ⟨he, v1, h2⟩ := h1.step hp;exact ⟨he, aM (h2.2.1.blk hbk (by omega) (fun e => by have := (hl.2 _ e.symm).2; omega)), v1, h2, mY H hK h2.1 ((hL.below hb1).kp h2.2.1 h1.lt) (gG hr hb1 h2.2.1 h2.2.2) (by simp; omega)⟩
 have HM2 : Hid (∀ v1 w2 e w3, aX pb v A n c (w.alloc (zC Ky A2 n2 c2 B2 m2 d2)) fl (t ++ [40]) v1 w2 -> aH pb v1 A n c (fl || aO L r) (t ++ [40] ++ aF L r) w2 e w3 -> e = .returned (.tuple #[]) /\ ∃ v3, aX pb v A n c (w.alloc (zC Ky A2 n2 c2 B2 m2 d2)) (fl || aO L r) (t ++ [40] ++ aF L r) v3 w3 /\ Calls Tryz.prog 107 #[.pointer (some ⟨pb, 0, none⟩), .int .u8 41] w3 (aH pb v3 A n c (fl || aO L r) (t ++ [40] ++ aF L r ++ [41]) w3)) := Lh fun v1 w2 e w3 h2 hp => by
  obtain ⟨he, v3, h3⟩ := h2.step hp;exact ⟨he, v3, h3, gK _ h3.1 41 (by simp; omega)⟩
 have HM3 : Hid (∀ v3 w3 e w4, aX pb v A n c (w.alloc (zC Ky A2 n2 c2 B2 m2 d2)) (fl || aO L r) (t ++ [40] ++ aF L r) v3 w3 -> aH pb v3 A n c (fl || aO L r) (t ++ [40] ++ aF L r ++ [41]) w3 e w4 -> e = .returned (.tuple #[]) /\ aH pb v A n c (fl || aO L r) (t ++ ([40] ++ aF L r ++ [41])) w (.returned (.tuple #[])) w4) := Lh fun v3 w3 e w4 h3 hp => by
  obtain ⟨he, v4, h4⟩ := h3.step hp;refine ⟨he, jU hb1 ?_⟩;have h5 := h4.post;rw [show t ++ ([40] ++ aF L r ++ [41]) = t ++ [40] ++ aF L r ++ [41] by simp];exact h5
 clear H hK h hL hr ht hb1 hbk h1 hl;go_enter Tryz.func106, Tryz.ntmps106
 go_wp2_with (first
  |(refine aA rfl (.tmp 4) rfl w.heap.size (0) rfl Ky A2 B2 n2 c2 m2 d2 H2.out.1 ?_)
  |((with_reducible refine HM.out.mono ?_); rintro e w2 hp; obtain ⟨rfl, hrg, v1, h2, hc2⟩ := HM1.out e w2 hp; have H2 := Lh (And.intro hrg h2); have HC2 := Lh hc2; clear hp hrg h2 hc2)
  |((with_reducible refine HC2.out.mono ?_); rintro e w3 hp; obtain ⟨rfl, v3, h3, hc3⟩ := HM2.out v1 w2 e w3 H2.out.2 hp; have H3 := Lh h3; have HC3 := Lh hc3; clear hp h3 hc3)
  |((with_reducible refine HC3.out.mono ?_); rintro e w4 hp; obtain ⟨rfl, h4⟩ := HM3.out v3 w3 e w4 H3.out hp; have H4 := Lh h4; clear hp h4))
 go_end0;exact H4.out
theorem qR {L : List Lt} {ks : List Rx} {i : Nat} (h : i < ks.length) (f : Bool) : dU L f (ks.drop i) = (if f then [] else [124]) ++ aF L (ak ks i) ++ dU L false (ks.drop (i + 1)) := by
 rw [qO h, dU]
theorem pW {L : List Lt} {ks : List Rx} {i : Nat} (h : i < ks.length) : dE L (ks.drop i) = (aO L (ak ks i) || dE L (ks.drop (i + 1))) := by
 rw [qO h, dE]
theorem CX (w : World) {pb : Nat} {v : Value} {A : Option Addr} {n c : Nat} {fl : Bool} {t : Alp.B} (h : dh pb v A n c fl t w) (L : List Lt) (hL : dY w pb A n c L) (ks : List Rx) (ih : ∀ x ∈ ks, jK x) (B : Option Addr) (m d : Nat) (hm : m = ks.length) (hmd : m <= d) (hdm : d <= 9223372036854775807) (hK : aU (fun b => b ≠ pb /\ some b ≠ v.ownBlock) w ks B) (hB : ks ≠ [] -> ∀ b o, B = some ⟨b, o, none⟩ -> b ≠ pb /\ some b ≠ v.ownBlock) (ht : t.length + (dU L true ks).length <= 1000000000) : Calls Tryz.prog 105 #[.pointer (some ⟨pb, 0, none⟩), .slice B m d] w (aH pb v A n c (fl || dE L ks) (t ++ dU L true ks) w) := by
 have HLK : Hid (∀ v1 w1, ∀ {f : Bool} {T : Alp.B}, aX pb v A n c w f T v1 w1 -> dY w1 pb A n c L) := Lh fun v1 w1 f T hp => hL.kp hp.2.1 h.lt
 have HIH := Lh ih;have HX : Hid (m = ks.length /\ aU (fun b => b ≠ pb /\ some b ≠ v.ownBlock) w ks B /\ (ks ≠ [] -> ∀ b o, B = some ⟨b, o, none⟩ -> b ≠ pb /\ some b ≠ v.ownBlock) /\ t.length + (dU L true ks).length <= 1000000000) := Lh ⟨hm, hK, hB, ht⟩;have H0 : Hid (aX pb v A n c w fl t v w /\ t ++ dU L (decide (0 = 0)) (ks.drop 0) = t ++ dU L true ks /\ (fl || dE L (ks.drop 0)) = (fl || dE L ks)) := Lh ⟨aX.refl h, by simp, by simp⟩;have hm9 : m <= 9223372036854775807 := by omega
 clear h hL ih hm hK hB ht;go_enter Tryz.func105, Tryz.ntmps105;go_wp2_with fail
 go_loopg [8] m (fun gq s8 wr => ∃ (i : Nat) (f : Bool) (T : Alp.B) (v1 : Value), i + gq = m /\ s8 = .int .i64 (i : Int) /\ Hid (aX pb v A n c w f T v1 wr /\ T ++ dU L (decide (i = 0)) (ks.drop i) = t ++ dU L true ks /\ (f || dE L (ks.drop i)) = (fl || dE L ks)))
 case atStart => exact ⟨0, fl, t, v, by omega, rfl, H0⟩
 case round =>
  obtain ⟨i, f, T, v1, hi, rfl, HI⟩ := hrel
  by_cases hlt : i < m
  ·obtain ⟨gg, rfl⟩ : ∃ g, gk = g + 1 := ⟨gk - 1, by omega⟩;have hil : i < ks.length := by rw [<- HX.out.1]; exact hlt
   obtain ⟨b, o, hBe⟩ := HX.out.2.1.place (by omega);have hpb := HX.out.2.2.1 (List.ne_nil_of_length_pos (by omega)) b o hBe;subst hBe;obtain ⟨A2, n2, c2, B2, m2, d2, hrg, hok⟩ := HX.out.2.1.kid hil;obtain ⟨y, hy⟩ : ∃ y, y = ak ks i := ⟨_, rfl⟩;rw [<- hy] at hrg hok;obtain ⟨Ky, hKy⟩ : ∃ K, K = y.kind := ⟨_, rfl⟩;rw [<- hKy] at hrg;have hmem : y ∈ ks := by rw [hy]; exact dG hil
   have HRG : Hid (wr.rangeAt b (o + i * 3) (zV Ky A2 n2 c2 B2 m2 d2)) := Lh fun j u hu => by
    have h1 := hrg j u hu;exact (HI.out.1.2.1.cell (World.block_lt_of_cell? w _ h1) hpb.1 hpb.2).trans h1
   have hlen : T.length + (if i = 0 then 0 else 1) + (aF L y).length <= 1000000000 := by
    have h1 := congrArg List.length HI.out.2.1;have h2 := HX.out.2.2.2;rw [qR hil, <- hy] at h1
    by_cases h0 : i = 0
    ·rw [if_pos h0]; simp [h0] at h1 h2; omega
    ·rw [if_neg h0]; simp [h0] at h1 h2; omega
   clear hpb
   by_cases hi0 : i = 0
   ·skip
    rw [if_pos hi0] at hlen;have e1 : decide (0 < i) = false := dF (by omega);have HBS : Hid (dU L (decide (i = 0)) (ks.drop i) = aF L y ++ dU L false (ks.drop (i + 1)) /\ decide (i + 1 = 0) = false) := Lh ⟨by rw [qR hil, dT (by omega), hy]; simp, by simp⟩;have HFY : Hid (∀ w4, aa w4 wr.heap.size (zV Ky A2 n2 c2 B2 m2 d2) 25 -> Below wr.heap.size wr w4 -> w4.rangeAt wr.heap.size 0 (zV Ky A2 n2 c2 B2 m2 d2) /\ aX pb v A n c w f T v1 w4 /\ Calls Tryz.prog 72 #[.pointer (some ⟨pb, 0, none⟩), .agg #[.int .i64 Ky, .slice A2 n2 c2, .slice B2 m2 d2]] w4 (aH pb v1 A n c (f || aO L y) (T ++ aF L y) w4)) := Lh fun w4 hb4 hbl => by
     have h4 := HI.out.1.below hbl;exact ⟨aM hb4, h4, mY (HIH.out y hmem) hKy h4.1 (HLK.out v1 w4 h4) ((gG hok (Below.refl _ _) HI.out.1.2.1 HI.out.1.2.2).below hbl) (by omega)⟩
    have HF1 : Hid (∀ w4 e w5, aX pb v A n c w f T v1 w4 -> aH pb v1 A n c (f || aO L y) (T ++ aF L y) w4 e w5 -> e = .returned (.tuple #[]) /\ ∃ v2, aX pb v A n c w (f || aO L y) (T ++ aF L y) v2 w5 /\ (T ++ aF L y) ++ dU L (decide ((i + 1) = 0)) (ks.drop (i + 1)) = t ++ dU L true ks /\ ((f || aO L y) || dE L (ks.drop (i + 1))) = (fl || dE L ks)) := Lh fun w4 e w5 h4 hp => by
     obtain ⟨he, v2, h9⟩ := h4.step hp;refine ⟨he, v2, h9, ?_, ?_⟩
     ·rw [HBS.out.2, <- HI.out.2.1, HBS.out.1]; simp
     ·rw [<- HI.out.2.2, pW hil, hy, Bool.or_assoc]
    clear hi0 hil hy hmem hok hKy hlen hrg
    go_wp2_with (first
     |(refine aA rfl (.tmp 11) rfl b (o + i * 3) rfl Ky A2 B2 n2 c2 m2 d2 HRG.out ?_)
     |(refine wB rfl 25 (.tmp 5) (.tmp 12) rfl wr.heap.size 0 rfl (zV Ky A2 n2 c2 B2 m2 d2) rfl (aa.new' wr zL _ 25 rfl) 3 au ?_; intro w4 hst9; have Hw4 : Hid (aa w4 wr.heap.size (zV Ky A2 n2 c2 B2 m2 d2) 25 /\ Below wr.heap.size wr w4) := Lh (aZ hst9); clear hst9; have H40 := HFY.out w4 Hw4.out.1 Hw4.out.2; have hk2 := H40.1; have H4 := Lh H40.2.1; have HC4 := Lh H40.2.2; clear H40)
     |(refine aA rfl (.tmp 5) rfl wr.heap.size (0) rfl Ky A2 B2 n2 c2 m2 d2 hk2 ?_)
     |((with_reducible refine HC4.out.mono ?_); rintro e w5 hp; obtain ⟨rfl, v2, h5⟩ := HF1.out w4 e w5 H4.out hp; have H5 := Lh h5; clear hp h5))
    go_roundg gg
    case rel => exact ⟨i + 1, f || aO L y, T ++ aF L y, v2, by omega, by go_num, H5⟩
    case measure => omega
   ·skip
    rw [if_neg hi0] at hlen;have e1 : decide (0 < i) = true := dT (by omega);have HBS : Hid (dU L (decide (i = 0)) (ks.drop i) = [124] ++ aF L y ++ dU L false (ks.drop (i + 1)) /\ decide (i + 1 = 0) = false) := Lh ⟨by rw [qR hil, dF (by omega), hy]; simp, by simp⟩;have HFY : Hid (∀ w4, aa w4 wr.heap.size (zV Ky A2 n2 c2 B2 m2 d2) 25 -> Below wr.heap.size wr w4 -> aX pb v A n c w f T v1 w4 /\ aa w4 wr.heap.size (zV Ky A2 n2 c2 B2 m2 d2) 25 /\ ai (fun b => b ≠ pb /\ some b ≠ v1.ownBlock) w4 y A2 n2 c2 B2 m2 d2 /\ wr.heap.size ≠ pb /\ v1.ownBlock ≠ some wr.heap.size /\ Calls Tryz.prog 107 #[.pointer (some ⟨pb, 0, none⟩), .int .u8 124] w4 (aH pb v1 A n c f (T ++ [124]) w4)) := Lh fun w4 hb4 hbl => by
     have h4 := HI.out.1.below hbl;have h5 := HI.out.1.lt;exact ⟨h4, hb4, (gG hok (Below.refl _ _) HI.out.1.2.1 HI.out.1.2.2).below hbl, by omega, fun e => by have := (h5.2 _ e).2; omega, gK w4 h4.1 124 (by omega)⟩
    have HF0 : Hid (∀ w4 e w5, (aX pb v A n c w f T v1 w4 /\ aa w4 wr.heap.size (zV Ky A2 n2 c2 B2 m2 d2) 25 /\ ai (fun b => b ≠ pb /\ some b ≠ v1.ownBlock) w4 y A2 n2 c2 B2 m2 d2 /\ wr.heap.size ≠ pb /\ v1.ownBlock ≠ some wr.heap.size) -> aH pb v1 A n c f (T ++ [124]) w4 e w5 -> e = .returned (.tuple #[]) /\ w5.rangeAt wr.heap.size 0 (zV Ky A2 n2 c2 B2 m2 d2) /\ ∃ v2, aX pb v A n c w f (T ++ [124]) v2 w5 /\ Calls Tryz.prog 72 #[.pointer (some ⟨pb, 0, none⟩), .agg #[.int .i64 Ky, .slice A2 n2 c2, .slice B2 m2 d2]] w5 (aH pb v2 A n c (f || aO L y) (T ++ [124] ++ aF L y) w5)) := Lh fun w4 e w5 h4 hp => by
     obtain ⟨rfl, v2, g1, g2, g3⟩ := iw hp;have h2 : aX pb v A n c w f (T ++ [124]) v2 w5 := ⟨g1, h4.1.2.1.tr h4.1.2.2 g2, h4.1.2.2.tr h4.1.2.1.size g3⟩;exact ⟨rfl, aM (g2.blk h4.2.1 h4.2.2.2.1 (fun e => h4.2.2.2.2 e.symm)), v2, h2, mY (HIH.out y hmem) hKy h2.1 (HLK.out v2 w5 h2) (gG h4.2.2.1 (Below.refl _ _) g2 g3) (by simp; omega)⟩
    have HF1 : Hid (∀ v2 w4 e w5, aX pb v A n c w f (T ++ [124]) v2 w4 -> aH pb v2 A n c (f || aO L y) (T ++ [124] ++ aF L y) w4 e w5 -> e = .returned (.tuple #[]) /\ ∃ v3, aX pb v A n c w (f || aO L y) (T ++ [124] ++ aF L y) v3 w5 /\ (T ++ [124] ++ aF L y) ++ dU L (decide ((i + 1) = 0)) (ks.drop (i + 1)) = t ++ dU L true ks /\ ((f || aO L y) || dE L (ks.drop (i + 1))) = (fl || dE L ks)) := Lh fun v2 w4 e w5 h4 hp => by
     obtain ⟨he, v3, h9⟩ := h4.step hp;refine ⟨he, v3, h9, ?_, ?_⟩
     ·rw [HBS.out.2, <- HI.out.2.1, HBS.out.1]; simp
     ·rw [<- HI.out.2.2, pW hil, hy, Bool.or_assoc]
    clear hi0 hil hy hmem hok hKy hlen hrg
    go_wp2_with (first
     |(refine aA rfl (.tmp 11) rfl b (o + i * 3) rfl Ky A2 B2 n2 c2 m2 d2 HRG.out ?_)
     |(refine wB rfl 25 (.tmp 5) (.tmp 12) rfl wr.heap.size 0 rfl (zV Ky A2 n2 c2 B2 m2 d2) rfl (aa.new' wr zL _ 25 rfl) 3 au ?_; intro w4 hst9; have Hw4 : Hid (aa w4 wr.heap.size (zV Ky A2 n2 c2 B2 m2 d2) 25 /\ Below wr.heap.size wr w4) := Lh (aZ hst9); clear hst9; have H40 := HFY.out w4 Hw4.out.1 Hw4.out.2; have HM4 := Lh H40.2.2.2.2.2; have H4 := Lh (And.intro H40.1 (And.intro H40.2.1 (And.intro H40.2.2.1 (And.intro H40.2.2.2.1 H40.2.2.2.2.1)))); clear H40)
     |((with_reducible refine HM4.out.mono ?_); rintro e w5 hp; obtain ⟨rfl, hk2, v2, h2, hc2⟩ := HF0.out w4 e w5 H4.out hp; have H2 := Lh h2; have HC2 := Lh hc2; clear hp h2 hc2)
     |(refine aA rfl (.tmp 5) rfl wr.heap.size (0) rfl Ky A2 B2 n2 c2 m2 d2 hk2 ?_)
     |((with_reducible refine HC2.out.mono ?_); rintro e w6 hp; obtain ⟨rfl, v3, h5⟩ := HF1.out v2 w5 e w6 H2.out hp; have H5 := Lh h5; clear hp h5))
    go_roundg gg
    case rel => exact ⟨i + 1, f || aO L y, T ++ [124] ++ aF L y, v3, by omega, by go_num, H5⟩
    case measure => omega
  ·obtain rfl : m = i := by omega
   have HF : Hid (aH pb v A n c (fl || dE L ks) (t ++ dU L true ks) w (.returned (.tuple #[])) wr) := Lh (by
    have h3 := HI.out.2.1;have h4 := HI.out.2.2;rw [HX.out.1, List.drop_length] at h3 h4;rw [dU, List.append_nil] at h3;rw [dE, Bool.or_false] at h4;have h5 := HI.out.1;rw [h3, h4] at h5;exact h5.post)
   go_wp2_with fail;go_end0;exact HF.out
abbrev dC (wr W : World) (C : List Value) : Prop := aa W wr.heap.size C 25 /\ Below wr.heap.size wr W
namespace Rgx
def ji (L : List Lt) (ks : List Rx) (i : Nat) : Bool := decide (0 < i) && jI L (ak ks (i - 1))
end Rgx
theorem BP {L : List Lt} {ks : List Rx} {i : Nat} (h : i < ks.length) (f : Bool) : ed L f (ks.drop i) = iy L f (ak ks i) (aF L (ak ks i)) ++ ed L (jI L (ak ks i)) (ks.drop (i + 1)) := by
 rw [qO h, ed]
theorem vS (L : List Lt) (ks : List Rx) (i : Nat) : ji L ks (i + 1) = jI L (ak ks i) := by unfold ji; simp
theorem EX {r : Rx} (h : ay r = true) : ∀ x ∈ r.syms, 0 <= x := by
 rcases eT h with rfl | rfl | ⟨s, rfl, hs⟩ | ⟨ks, rfl, _⟩ | ⟨ks, rfl, _⟩ | ⟨x, rfl, _⟩
 ·intro x hx; cases hx
 ·intro x hx; cases hx
 ·intro x hx; exact (gW.1 hs).2.2 x hx |>.1
 ·intro x hx; cases hx
 ·intro x hx; cases hx
 ·intro x hx; cases hx
theorem AJ {r : Rx} (h : ay r = true) {N : Nat} (hl : iT r N = true) : r.kind = 2 := by
 have h1 := (of_decide_eq_true hl).1
 rcases eT h with rfl | rfl | ⟨s, rfl, hs⟩ | ⟨ks, rfl, _⟩ | ⟨ks, rfl, _⟩ | ⟨x, rfl, _⟩ <;> first | rfl | simp [Rx.syms] at h1
theorem q8 {r : Rx} (h : ay r = true) (hk : r.kind = 5) : ∃ y, r = .mk 5 [] [y] /\ ay y = true := by
 have hv := eF h
 rcases eT h with rfl | rfl | ⟨s, rfl, hs⟩ | ⟨ks, rfl, _⟩ | ⟨ks, rfl, _⟩ | ⟨x, rfl, _⟩ <;> first | exact ⟨_, rfl, hv _ (by simp [Rx.kids])⟩ | simp [Rx.kind] at hk
theorem CU (w : World) {pb : Nat} {v : Value} {A : Option Addr} {n c : Nat} {fl : Bool} {t : Alp.B} (h : dh pb v A n c fl t w) (L : List Lt) (hL : dY w pb A n c L) (ks : List Rx) (ih : ∀ x ∈ ks, jK x) (ih2 : ∀ x ∈ ks, ∀ y ∈ x.kids, jK y) (hval : ∀ x ∈ ks, ay x = true) (B : Option Addr) (m d : Nat) (hm : m = ks.length) (hmd : m <= d) (hdm : d <= 9223372036854775807) (hK : aU (fun b => b ≠ pb /\ some b ≠ v.ownBlock) w ks B) (hB : ks ≠ [] -> ∀ b o, B = some ⟨b, o, none⟩ -> b ≠ pb /\ some b ≠ v.ownBlock) (ht : t.length + (ed L false ks).length <= 1000000000) : Calls Tryz.prog 104 #[.pointer (some ⟨pb, 0, none⟩), .slice B m d] w (aH pb v A n c (fl || dE L ks) (t ++ ed L false ks) w) := by
 have HLK : Hid (∀ v1 w1, ∀ {f : Bool} {T : Alp.B}, aX pb v A n c w f T v1 w1 -> dY w1 pb A n c L) := Lh fun v1 w1 f T hp => hL.kp hp.2.1 h.lt
 have HIH := Lh ih;have HIH2 := Lh ih2;have HVL := Lh hval;have HX : Hid (m = ks.length /\ aU (fun b => b ≠ pb /\ some b ≠ v.ownBlock) w ks B /\ (ks ≠ [] -> ∀ b o, B = some ⟨b, o, none⟩ -> b ≠ pb /\ some b ≠ v.ownBlock) /\ t.length + (ed L false ks).length <= 1000000000) := Lh ⟨hm, hK, hB, ht⟩;have H0 : Hid (aX pb v A n c w fl t v w /\ t ++ ed L (ji L ks 0) (ks.drop 0) = t ++ ed L false ks /\ (fl || dE L (ks.drop 0)) = (fl || dE L ks)) := Lh ⟨aX.refl h, by simp [ji], by simp⟩;have hm9 : m <= 9223372036854775807 := by omega
 clear h hL ih ih2 hval hm hK hB ht;go_enter Tryz.func104, Tryz.ntmps104;go_wp2_with fail
 go_loopg [9] m (fun gq s9 wr => ∃ (i : Nat) (f : Bool) (T : Alp.B) (v1 : Value), i + gq = m /\ s9 = .int .i64 (i : Int) /\ Hid (aX pb v A n c w f T v1 wr /\ T ++ ed L (ji L ks i) (ks.drop i) = t ++ ed L false ks /\ (f || dE L (ks.drop i)) = (fl || dE L ks)))
 case atStart => exact ⟨0, fl, t, v, by omega, rfl, H0⟩
 case round =>
  obtain ⟨i, f, T, v1, hi, rfl, HI⟩ := hrel
  by_cases hlt : i < m
  ·obtain ⟨gg, rfl⟩ : ∃ g, gk = g + 1 := ⟨gk - 1, by omega⟩;have hil : i < ks.length := by rw [<- HX.out.1]; exact hlt
   obtain ⟨b, o, hBe⟩ := HX.out.2.1.place (by omega);have hpb := HX.out.2.2.1 (List.ne_nil_of_length_pos (by omega)) b o hBe;subst hBe;obtain ⟨A2, n2, c2, B2, m2, d2, hrg, hok⟩ := HX.out.2.1.kid hil;obtain ⟨y, hy⟩ : ∃ y, y = ak ks i := ⟨_, rfl⟩;rw [<- hy] at hrg hok;obtain ⟨Ky, hKy⟩ : ∃ K, K = y.kind := ⟨_, rfl⟩;rw [<- hKy] at hrg;have hmem : y ∈ ks := by rw [hy]; exact dG hil
   have hvy : ay y = true := HVL.out y hmem;have HRG : Hid (wr.rangeAt b (o + i * 3) (zV Ky A2 n2 c2 B2 m2 d2)) := Lh fun j u hu => by
    have h1 := hrg j u hu;exact (HI.out.1.2.1.cell (World.block_lt_of_cell? w _ h1) hpb.1 hpb.2).trans h1
   obtain ⟨ap, hap⟩ : ∃ a, a = ji L ks i := ⟨_, rfl⟩;obtain ⟨KO, hKO⟩ : ∃ k, k = iy L ap y (aF L y) := ⟨_, rfl⟩;have HBS : Hid (ed L (ji L ks i) (ks.drop i) = KO ++ ed L (ji L ks (i + 1)) (ks.drop (i + 1))) := Lh (by rw [BP hil, vS, hKO, hap, hy]);have hlen : T.length + KO.length <= 1000000000 := by
    have h1 := congrArg List.length HI.out.2.1;have h2 := HX.out.2.2.2;rw [HBS.out] at h1;simp at h1;omega
   have hNn : n = L.length := (HLK.out v1 wr HI.out.1).nl;have hne1 : wr.heap.size ≠ pb /\ some wr.heap.size ≠ v1.ownBlock := ⟨by have := HI.out.1.lt.1; omega, fun e => by have := (HI.out.1.lt.2 _ e.symm).2; omega⟩;have HSW : Hid (∀ W, aa W wr.heap.size (zV Ky A2 n2 c2 B2 m2 d2) 25 -> (fun w' => w'.cell? ⟨wr.heap.size, 0, none⟩ = some (.int .i64 Ky) /\ w'.rangeAt wr.heap.size 0 (zV Ky A2 n2 c2 B2 m2 d2)) W) := Lh fun W hb => ⟨hb.cell (j := 0) rfl, aM hb⟩
   have HOY : Hid (∀ W, Below wr.heap.size wr W -> ai (fun b => b ≠ pb /\ some b ≠ v1.ownBlock) W y A2 n2 c2 B2 m2 d2) := Lh fun W hb => (gG hok (Below.refl _ _) HI.out.1.2.1 HI.out.1.2.2).below hb
   have HPB : Hid (∀ W, Below wr.heap.size wr W -> W.cell? ⟨pb, 0, none⟩ = some (.slice A n c)) := Lh fun W hb => (HI.out.1.below hb).1.box.cell (j := 0) rfl
   have HIL : Hid (∀ W, (dC wr W (zV Ky A2 n2 c2 B2 m2 d2)) -> Calls Tryz.prog 136 #[.pointer (some ⟨pb, 0, none⟩), .agg #[.int .i64 Ky, .slice A2 n2 c2, .slice B2 m2 d2]] W (aI W (iT y n))) := Lh fun W hw => by
    rw [hKy];exact rF y A2 B2 n2 c2 m2 d2 W (HOY.out W hw.2).o pb A n c (HPB.out W hw.2)
   have HAY : Hid (∀ W, (dC wr W (zV Ky A2 n2 c2 B2 m2 d2)) -> (dC wr W (zV Ky A2 n2 c2 B2 m2 d2))) := Lh fun W h => h
   have HF1 : Hid (∀ W e w9, (dC wr W (zV Ky A2 n2 c2 B2 m2 d2)) -> aH pb v1 A n c (f || aO L y) (T ++ KO) W e w9 -> e = .returned (.tuple #[]) /\ (fun w' => w'.cell? ⟨wr.heap.size, 0, none⟩ = some (.int .i64 Ky) /\ w'.rangeAt wr.heap.size 0 (zV Ky A2 n2 c2 B2 m2 d2)) w9 /\ ∃ v2, aX pb v A n c w (f || aO L y) (T ++ KO) v2 w9 /\ (T ++ KO) ++ ed L (ji L ks (i + 1)) (ks.drop (i + 1)) = t ++ ed L false ks /\ ((f || aO L y) || dE L (ks.drop (i + 1))) = (fl || dE L ks)) := Lh fun W e w9 hw hp => by
    obtain ⟨rfl, v2, g1, g2, g3⟩ := iw hp;have h4 := HI.out.1.below hw.2;refine ⟨rfl, HSW.out _ (g2.blk hw.1 hne1.1 hne1.2), v2, ⟨g1, h4.2.1.tr h4.2.2 g2, h4.2.2.tr h4.2.1.size g3⟩, ?_, ?_⟩
    ·rw [<- HI.out.2.1, HBS.out]; simp
    ·rw [<- HI.out.2.2, pW hil, hy, Bool.or_assoc]
   obtain ⟨U, hU⟩ : ∃ U, U = iT y n := ⟨_, rfl⟩;rw [<- hU] at HIL
   by_cases hi0 : i = 0
   ·skip
    have e1 : decide (0 < i) = false := dF (by omega);obtain rfl : ap = false := by rw [hap]; unfold ji; rw [e1]; rfl
    by_cases k4 : Ky = 4
    ·skip
     have hKOe : KO = [40] ++ aF L y ++ [41] := by rw [hKO]; unfold iy jE; rw [<- hKy, k4]; simp
     have HKD : Hid (∀ W, (dC wr W (zV Ky A2 n2 c2 B2 m2 d2)) -> Calls Tryz.prog 106 #[.pointer (some ⟨pb, 0, none⟩), .agg #[.int .i64 Ky, .slice A2 n2 c2, .slice B2 m2 d2], .bool true] W (aH pb v1 A n c (f || aO L y) (T ++ KO) W)) := Lh fun W hw => by
      have h4 := HI.out.1.below hw.2;rw [hKOe];exact kg (HIH.out y hmem) hKy h4.1 (HLK.out v1 W h4) ((gG hok (Below.refl _ _) HI.out.1.2.1 HI.out.1.2.2).below hw.2) (by rw [hKOe] at hlen; simp at hlen; omega)
     have kq4b : (Ky == 4) = true := bT (by omega);clear hKOe;clear k4;clear hlen hNn hil hy hmem hok hKy hvy hrg hpb hKO hap hU hne1;clear hi0
     go_upto_region 3 with (first
      |(refine aA rfl (.tmp 12) rfl b (o + i * 3) rfl Ky A2 B2 n2 c2 m2 d2 HRG.out ?_)
      |(refine wB rfl 25 (.tmp 5) (.tmp 13) rfl wr.heap.size 0 rfl (zV Ky A2 n2 c2 B2 m2 d2) rfl (aa.new' wr zL _ 25 rfl) 3 au ?_; intro w4 hst9; have Hw4 : Hid (aa w4 wr.heap.size (zV Ky A2 n2 c2 B2 m2 d2) 25 /\ Below wr.heap.size wr w4) := Lh (aZ hst9); clear hst9; ))
     go_upto_region 7 with fail
     have HB0 : Hid (dC wr w4.drew (zV Ky A2 n2 c2 B2 m2 d2)) := Lh ⟨Hw4.out.1.below (below_drewN (Below.refl _ _) 1) Hw4.out.1.lt, Hw4.out.2.trans (below_drewN (Below.refl _ _) 1 |>.mono Hw4.out.2.size)⟩;refine wp_region_held_drew (S := fun w' => w'.cell? ⟨wr.heap.size, 0, none⟩ = some (.int .i64 Ky) /\ w'.rangeAt wr.heap.size 0 (zV Ky A2 n2 c2 B2 m2 d2)) (by kernel_rfl) ((HSW.out _ HB0.out.1)) (fun hS0 => ?_);refine aJ 0 ?_;refine wX 1 rfl (yieldsIf_load_mid (by rfl) _ _ rfl _ _ rfl _ _ (fun w h => h.2) Tryz.underlying25 rfl au) ?_;refine aJ 2 ?_;refine aJ 3 ?_;refine aJ 4 ?_;refine aJ 5 ?_;refine wS 6 ?_;refine wS 7 ?_;refine wS 8 ?_;refine wS 9 ?_;refine wS 10 ?_;refine wS 11 ?_;refine aJ 12 ?_;refine wpAnyH_ready (rs := [13]) (by kernel_rfl) (by simp) ?_;refine wA rfl (fun KK hK => ?_) AllReadyH.nil
     go_simp;go_at_call 106;refine (HKD.out _ HB0.out).mono ?_;rintro e w9 hp;obtain ⟨rfl, hS9, v2, h9⟩ := HF1.out _ e w9 HB0.out hp;have H9 := Lh h9;clear hp h9;refine hK.out _ _ hS9 (fun hS2 => ?_);clear hK KK;(try simp only [Act.put, pP]);refine wpAnyH_done (by kernel_rfl) ?_ _;go_wp2_with fail
     go_roundg gg
     case rel => exact ⟨i + 1, f || aO L y, T ++ KO, v2, by omega, by go_num, H9⟩
     case measure => omega
    ·skip
     have hKOe : KO = aF L y := by rw [hKO]; unfold iy; rw [<- hKy]; simp [k4]
     have HKD : Hid (∀ W, (dC wr W (zV Ky A2 n2 c2 B2 m2 d2)) -> Calls Tryz.prog 106 #[.pointer (some ⟨pb, 0, none⟩), .agg #[.int .i64 Ky, .slice A2 n2 c2, .slice B2 m2 d2], .bool false] W (aH pb v1 A n c (f || aO L y) (T ++ KO) W)) := Lh fun W hw => by
      have h4 := HI.out.1.below hw.2;rw [hKOe];exact mM (HIH.out y hmem) hKy h4.1 (HLK.out v1 W h4) ((gG hok (Below.refl _ _) HI.out.1.2.1 HI.out.1.2.2).below hw.2) (by rw [hKOe] at hlen; omega)
     have kq4b : (Ky == 4) = false := bF (by omega);clear hKOe;clear k4;clear hlen hNn hil hy hmem hok hKy hvy hrg hpb hKO hap hU hne1;clear hi0
     go_upto_region 3 with (first
      |(refine aA rfl (.tmp 12) rfl b (o + i * 3) rfl Ky A2 B2 n2 c2 m2 d2 HRG.out ?_)
      |(refine wB rfl 25 (.tmp 5) (.tmp 13) rfl wr.heap.size 0 rfl (zV Ky A2 n2 c2 B2 m2 d2) rfl (aa.new' wr zL _ 25 rfl) 3 au ?_; intro w4 hst9; have Hw4 : Hid (aa w4 wr.heap.size (zV Ky A2 n2 c2 B2 m2 d2) 25 /\ Below wr.heap.size wr w4) := Lh (aZ hst9); clear hst9; ))
     go_upto_region 7 with fail
     have HB0 : Hid (dC wr w4.drew (zV Ky A2 n2 c2 B2 m2 d2)) := Lh ⟨Hw4.out.1.below (below_drewN (Below.refl _ _) 1) Hw4.out.1.lt, Hw4.out.2.trans (below_drewN (Below.refl _ _) 1 |>.mono Hw4.out.2.size)⟩;refine wp_region_held_drew (S := fun w' => w'.cell? ⟨wr.heap.size, 0, none⟩ = some (.int .i64 Ky) /\ w'.rangeAt wr.heap.size 0 (zV Ky A2 n2 c2 B2 m2 d2)) (by kernel_rfl) ((HSW.out _ HB0.out.1)) (fun hS0 => ?_);refine aJ 0 ?_;refine wX 1 rfl (yieldsIf_load_mid (by rfl) _ _ rfl _ _ rfl _ _ (fun w h => h.2) Tryz.underlying25 rfl au) ?_;refine aJ 2 ?_;refine aJ 3 ?_;refine aJ 4 ?_;refine aJ 5 ?_;refine aJ 6 ?_;refine aJ 7 ?_;refine wS 8 ?_;refine wS 9 ?_;refine wS 10 ?_;refine aJ 11 ?_;refine aJ 12 ?_;refine wpAnyH_ready (rs := [13]) (by kernel_rfl) (by simp) ?_;refine wA rfl (fun KK hK => ?_) AllReadyH.nil
     go_simp;go_at_call 106;refine (HKD.out _ HB0.out).mono ?_;rintro e w9 hp;obtain ⟨rfl, hS9, v2, h9⟩ := HF1.out _ e w9 HB0.out hp;have H9 := Lh h9;clear hp h9;refine hK.out _ _ hS9 (fun hS2 => ?_);clear hK KK;(try simp only [Act.put, pP]);refine wpAnyH_done (by kernel_rfl) ?_ _;go_wp2_with fail
     go_roundg gg
     case rel => exact ⟨i + 1, f || aO L y, T ++ KO, v2, by omega, by go_num, H9⟩
     case measure => omega
   ·obtain ⟨j, hj⟩ : ∃ j, i = j + 1 := ⟨i - 1, by omega⟩;have e1 : decide (0 < i) = true := dT (by omega);have e4 : (i : Int) - 1 = (j : Int) := by omega
    have hjm : j < m := by omega
    obtain ⟨A5, n5, c5, B5, m5, d5, hrg5, hok5⟩ := HX.out.2.1.kid (i := j) (by omega);obtain ⟨x5, hx5⟩ : ∃ x, x = ak ks j := ⟨_, rfl⟩;rw [<- hx5] at hrg5 hok5;have hm5 : x5 ∈ ks := by rw [hx5]; exact dG (by omega)
    obtain ⟨Kp5, hKp5⟩ : ∃ K, K = x5.kind := ⟨_, rfl⟩;rw [<- hKp5] at hrg5;have HRP : Hid (∀ W, Below wr.heap.size wr W -> W.rangeAt b (o + j * 3) (zV Kp5 A5 n5 c5 B5 m5 d5)) := Lh fun W hb k u hu => by
     have h1 := hrg5 k u hu;have h2 := (HI.out.1.2.1.cell (World.block_lt_of_cell? w _ h1) hpb.1 hpb.2).trans h1;exact (hb.cell (p := ⟨b, o + j * 3 + k, none⟩) (World.block_lt_of_cell? wr _ h2)).trans h2
    have HBL : Hid (∀ W, (dC wr W (zV Ky A2 n2 c2 B2 m2 d2)) -> Calls Tryz.prog 135 #[.pointer (some ⟨pb, 0, none⟩), .agg #[.int .i64 Kp5, .slice A5 n5 c5, .slice B5 m5 d5]] W (aI W ap)) := Lh fun W hw => by
     have hl := (HLK.out v1 wr HI.out.1).below hw.2;have h1 := F5 x5 A5 B5 n5 c5 m5 d5 W ((gG hok5 (Below.refl _ _) HI.out.1.2.1 HI.out.1.2.2).below hw.2).o (EX (HVL.out x5 hm5)) pb A n c L (HPB.out W hw.2) hl.nl hl.cl hl.ml hl.rd hl.lt;rw [hKp5];rw [show jI L x5 = ap by rw [hap, hj, vS, hx5]] at h1;exact h1
    clear hrg5 hok5 hx5 hm5 hKp5 hj
    cases hap9 : ap with
    |false =>
     have hap2 := hap9;subst hap9;clear hap2
     by_cases k4 : Ky = 4
     ·skip
      have hKOe : KO = [40] ++ aF L y ++ [41] := by rw [hKO]; unfold iy jE; rw [<- hKy, k4]; simp
      have HKD : Hid (∀ W, (dC wr W (zV Ky A2 n2 c2 B2 m2 d2)) -> Calls Tryz.prog 106 #[.pointer (some ⟨pb, 0, none⟩), .agg #[.int .i64 Ky, .slice A2 n2 c2, .slice B2 m2 d2], .bool true] W (aH pb v1 A n c (f || aO L y) (T ++ KO) W)) := Lh fun W hw => by
       have h4 := HI.out.1.below hw.2;rw [hKOe];exact kg (HIH.out y hmem) hKy h4.1 (HLK.out v1 W h4) ((gG hok (Below.refl _ _) HI.out.1.2.1 HI.out.1.2.2).below hw.2) (by rw [hKOe] at hlen; simp at hlen; omega)
      have kq4b : (Ky == 4) = true := bT (by omega);clear hKOe;clear k4;clear hlen hNn hil hy hmem hok hKy hvy hrg hpb hKO hap hU hne1;clear hi0
      go_upto_region 3 with (first
       | (refine aA rfl (.tmp 12) rfl b (o + i * 3) rfl Ky A2 B2 n2 c2 m2 d2 HRG.out ?_)
       | (refine wB rfl 25 (.tmp 5) (.tmp 13) rfl wr.heap.size 0 rfl (zV Ky A2 n2 c2 B2 m2 d2) rfl (aa.new' wr zL _ 25 rfl) 3 au ?_; intro w4 hst9; have Hw4 : Hid (aa w4 wr.heap.size (zV Ky A2 n2 c2 B2 m2 d2) 25 /\ Below wr.heap.size wr w4) := Lh (aZ hst9); clear hst9; ))
      go_upto_region 4 with (first
       | (refine gu (by rfl) (.tmp 21) rfl b (o + j * 3) rfl Kp5 A5 B5 n5 c5 m5 d5 (HRP.out w4 Hw4.out.2) ?_)
       | ((with_reducible refine (HBL.out w4 Hw4.out).mono ?_); rintro e w5 hp; obtain ⟨rfl, hb5⟩ := aN hp; have H5 : Hid (dC wr w5 (zV Ky A2 n2 c2 B2 m2 d2)) := Lh ⟨Hw4.out.1.below hb5 Hw4.out.1.lt, Hw4.out.2.trans (hb5.mono Hw4.out.2.size)⟩; have hk5 := (HSW.out _ H5.out.1).1; have hk52 := H5.out.1.cell (j := 2) rfl; clear hp hb5))
      go_upto_region 7 with fail
      have HB0 : Hid (dC wr w5.drew (zV Ky A2 n2 c2 B2 m2 d2)) := Lh ⟨H5.out.1.below (below_drewN (Below.refl _ _) 1) H5.out.1.lt, H5.out.2.trans (below_drewN (Below.refl _ _) 1 |>.mono H5.out.2.size)⟩;refine wp_region_held_drew (S := fun w' => w'.cell? ⟨wr.heap.size, 0, none⟩ = some (.int .i64 Ky) /\ w'.rangeAt wr.heap.size 0 (zV Ky A2 n2 c2 B2 m2 d2)) (by kernel_rfl) ((HSW.out _ HB0.out.1)) (fun hS0 => ?_);refine aJ 0 ?_;refine wX 1 rfl (yieldsIf_load_mid (by rfl) _ _ rfl _ _ rfl _ _ (fun w h => h.2) Tryz.underlying25 rfl au) ?_;refine aJ 2 ?_;refine aJ 3 ?_;refine aJ 4 ?_;refine aJ 5 ?_;refine wS 6 ?_;refine wS 7 ?_;refine wS 8 ?_;refine wS 9 ?_;refine wS 10 ?_;refine wS 11 ?_;refine aJ 12 ?_;refine wpAnyH_ready (rs := [13]) (by kernel_rfl) (by simp) ?_;refine wA rfl (fun KK hK => ?_) AllReadyH.nil
      go_simp;go_at_call 106;refine (HKD.out _ HB0.out).mono ?_;rintro e w9 hp;obtain ⟨rfl, hS9, v2, h9⟩ := HF1.out _ e w9 HB0.out hp;have H9 := Lh h9;clear hp h9;refine hK.out _ _ hS9 (fun hS2 => ?_);clear hK KK;(try simp only [Act.put, pP]);refine wpAnyH_done (by kernel_rfl) ?_ _;go_wp2_with fail
      go_roundg gg
      case rel => exact ⟨i + 1, f || aO L y, T ++ KO, v2, by omega, by go_num, H9⟩
      case measure => omega
     ·skip
      have hKOe : KO = aF L y := by rw [hKO]; unfold iy; rw [<- hKy]; simp [k4]
      have HKD : Hid (∀ W, (dC wr W (zV Ky A2 n2 c2 B2 m2 d2)) -> Calls Tryz.prog 106 #[.pointer (some ⟨pb, 0, none⟩), .agg #[.int .i64 Ky, .slice A2 n2 c2, .slice B2 m2 d2], .bool false] W (aH pb v1 A n c (f || aO L y) (T ++ KO) W)) := Lh fun W hw => by
       have h4 := HI.out.1.below hw.2;rw [hKOe];exact mM (HIH.out y hmem) hKy h4.1 (HLK.out v1 W h4) ((gG hok (Below.refl _ _) HI.out.1.2.1 HI.out.1.2.2).below hw.2) (by rw [hKOe] at hlen; omega)
      have kq4b : (Ky == 4) = false := bF (by omega);clear hKOe;clear k4;clear hlen hNn hil hy hmem hok hKy hvy hrg hpb hKO hap hU hne1;clear hi0
      go_upto_region 3 with (first
       | (refine aA rfl (.tmp 12) rfl b (o + i * 3) rfl Ky A2 B2 n2 c2 m2 d2 HRG.out ?_)
       | (refine wB rfl 25 (.tmp 5) (.tmp 13) rfl wr.heap.size 0 rfl (zV Ky A2 n2 c2 B2 m2 d2) rfl (aa.new' wr zL _ 25 rfl) 3 au ?_; intro w4 hst9; have Hw4 : Hid (aa w4 wr.heap.size (zV Ky A2 n2 c2 B2 m2 d2) 25 /\ Below wr.heap.size wr w4) := Lh (aZ hst9); clear hst9; ))
      go_upto_region 4 with (first
       | (refine gu (by rfl) (.tmp 21) rfl b (o + j * 3) rfl Kp5 A5 B5 n5 c5 m5 d5 (HRP.out w4 Hw4.out.2) ?_)
       | ((with_reducible refine (HBL.out w4 Hw4.out).mono ?_); rintro e w5 hp; obtain ⟨rfl, hb5⟩ := aN hp; have H5 : Hid (dC wr w5 (zV Ky A2 n2 c2 B2 m2 d2)) := Lh ⟨Hw4.out.1.below hb5 Hw4.out.1.lt, Hw4.out.2.trans (hb5.mono Hw4.out.2.size)⟩; have hk5 := (HSW.out _ H5.out.1).1; have hk52 := H5.out.1.cell (j := 2) rfl; clear hp hb5))
      go_upto_region 7 with fail
      have HB0 : Hid (dC wr w5.drew (zV Ky A2 n2 c2 B2 m2 d2)) := Lh ⟨H5.out.1.below (below_drewN (Below.refl _ _) 1) H5.out.1.lt, H5.out.2.trans (below_drewN (Below.refl _ _) 1 |>.mono H5.out.2.size)⟩;refine wp_region_held_drew (S := fun w' => w'.cell? ⟨wr.heap.size, 0, none⟩ = some (.int .i64 Ky) /\ w'.rangeAt wr.heap.size 0 (zV Ky A2 n2 c2 B2 m2 d2)) (by kernel_rfl) ((HSW.out _ HB0.out.1)) (fun hS0 => ?_);refine aJ 0 ?_;refine wX 1 rfl (yieldsIf_load_mid (by rfl) _ _ rfl _ _ rfl _ _ (fun w h => h.2) Tryz.underlying25 rfl au) ?_;refine aJ 2 ?_;refine aJ 3 ?_;refine aJ 4 ?_;refine aJ 5 ?_;refine aJ 6 ?_;refine aJ 7 ?_;refine wS 8 ?_;refine wS 9 ?_;refine wS 10 ?_;refine aJ 11 ?_;refine aJ 12 ?_;refine wpAnyH_ready (rs := [13]) (by kernel_rfl) (by simp) ?_;refine wA rfl (fun KK hK => ?_) AllReadyH.nil
      go_simp;go_at_call 106;refine (HKD.out _ HB0.out).mono ?_;rintro e w9 hp;obtain ⟨rfl, hS9, v2, h9⟩ := HF1.out _ e w9 HB0.out hp;have H9 := Lh h9;clear hp h9;refine hK.out _ _ hS9 (fun hS2 => ?_);clear hK KK;(try simp only [Act.put, pP]);refine wpAnyH_done (by kernel_rfl) ?_ _;go_wp2_with fail
      go_roundg gg
      case rel => exact ⟨i + 1, f || aO L y, T ++ KO, v2, by omega, by go_num, H9⟩
      case measure => omega
    |true =>
     subst hap9
     by_cases k5 : Ky = 5
     ·obtain ⟨y0, hy5, hv0⟩ := q8 hvy (hKy.symm.trans k5);have hkl : 0 < y.kids.length := by rw [hy5]; simp [Rx.kids]
      have hm2 : m2 = 1 := by rw [(HOY.out wr (Below.refl _ _)).o.mlen, hy5]; rfl
      obtain ⟨b3, o3, hB3⟩ := (HOY.out wr (Below.refl _ _)).kids.1.place hkl;subst hB3 hm2;obtain ⟨A3, n3, c3, B3, m3, d3, hrg3, hok3⟩ := (HOY.out wr (Below.refl _ _)).kids.1.kid (i := 0) hkl;rw [show ak y.kids 0 = y0 by rw [hy5]; rfl] at hrg3 hok3;obtain ⟨K3, hK3⟩ : ∃ K, K = y0.kind := ⟨_, rfl⟩;rw [<- hK3, Nat.zero_mul, Nat.add_zero] at hrg3;have HR0 : Hid (∀ W, Below wr.heap.size wr W -> W.rangeAt b3 o3 (zV K3 A3 n3 c3 B3 m3 d3)) := Lh fun W hb k u hu => by
       have h1 := hrg3 k u hu;exact (hb.cell (p := ⟨b3, o3 + k, none⟩) (World.block_lt_of_cell? wr _ h1)).trans h1
      obtain ⟨U0, hU0⟩ : ∃ U, U = iT y0 n := ⟨_, rfl⟩;have HI0 : Hid (∀ W, (dC wr W (zV Ky A2 n2 c2 (some ⟨b3, o3, none⟩) 1 d2)) -> Calls Tryz.prog 136 #[.pointer (some ⟨pb, 0, none⟩), .agg #[.int .i64 K3, .slice A3 n3 c3, .slice B3 m3 d3]] W (aI W U0)) := Lh fun W hw => by
       rw [hK3, hU0];exact rF y0 A3 B3 n3 c3 m3 d3 W (hok3.below hw.2).o pb A n c (HPB.out W hw.2)
      cases hU09 : U0 with
      |true =>
       subst hU09;have hU09 : true = true := rfl;have hk2 : y0.kind = 2 := AJ hv0 hU0.symm;have hy0m : y0 ∈ y.kids := by rw [hy5]; simp [Rx.kids]
       have hKOe : KO = [40] ++ aF L y0 ++ [41] ++ [42] := by
         rw [hKO, jQ L y0, if_neg (by omega), if_pos hk2];unfold iy jE;rw [<- hKy, k5, show ak y.kids 0 = y0 by rw [hy5]; rfl, <- hNn, <- hU0];simp
       have hfl : aO L y = aO L y0 := by rw [hy5, kR]; simp [Rx.kind, Rx.kids, dE]
       have HKD : Hid (∀ W, (dC wr W (zV Ky A2 n2 c2 (some ⟨b3, o3, none⟩) 1 d2)) -> Calls Tryz.prog 106 #[.pointer (some ⟨pb, 0, none⟩), .agg #[.int .i64 K3, .slice A3 n3 c3, .slice B3 m3 d3], .bool true] W (aH pb v1 A n c (f || aO L y) (T ++ ([40] ++ aF L y0 ++ [41])) W)) := Lh fun W hw => by
         have h4 := HI.out.1.below hw.2;rw [hfl];exact kg (HIH2.out y hmem y0 hy0m) hK3 h4.1 (HLK.out v1 W h4) (hok3.below hw.2) (by rw [hKOe] at hlen; simp at hlen; omega)
       have HM1 : Hid (∀ W e w7, (dC wr W (zV Ky A2 n2 c2 (some ⟨b3, o3, none⟩) 1 d2)) -> aH pb v1 A n c (f || aO L y) (T ++ ([40] ++ aF L y0 ++ [41])) W e w7 -> e = .returned (.tuple #[]) /\ ∃ v2, aX pb v A n c w (f || aO L y) (T ++ ([40] ++ aF L y0 ++ [41])) v2 w7 /\ Calls Tryz.prog 107 #[.pointer (some ⟨pb, 0, none⟩), .int .u8 42] w7 (aH pb v2 A n c (f || aO L y) (T ++ ([40] ++ aF L y0 ++ [41]) ++ [42]) w7)) := Lh fun W e w7 hw hp => by
         obtain ⟨he, v2, h9⟩ := (HI.out.1.below hw.2).step hp;exact ⟨he, v2, h9, gK w7 h9.1 42 (by rw [hKOe] at hlen; simp at hlen ⊢; omega)⟩
       have HM2 : Hid (∀ v2 w7 e w8, aX pb v A n c w (f || aO L y) (T ++ ([40] ++ aF L y0 ++ [41])) v2 w7 -> aH pb v2 A n c (f || aO L y) (T ++ ([40] ++ aF L y0 ++ [41]) ++ [42]) w7 e w8 -> e = .returned (.tuple #[]) /\ ∃ v3, aX pb v A n c w (f || aO L y) (T ++ KO) v3 w8 /\ (T ++ KO) ++ ed L (ji L ks (i + 1)) (ks.drop (i + 1)) = t ++ ed L false ks /\ ((f || aO L y) || dE L (ks.drop (i + 1))) = (fl || dE L ks)) := Lh fun v2 w7 e w8 h7 hp => by
         obtain ⟨he, v3, h9⟩ := h7.step hp;rw [show T ++ ([40] ++ aF L y0 ++ [41]) ++ [42] = T ++ KO by rw [hKOe]; simp] at h9;refine ⟨he, v3, h9, ?_, ?_⟩
         · rw [<- HI.out.2.1, HBS.out]; simp
         · rw [<- HI.out.2.2, pW hil, hy, Bool.or_assoc]
       have kq5b : (Ky == 5) = true := bT (by omega);clear hlen hNn hil hy hmem hok hKy hvy hrg hpb hKO hap hU hne1;clear k5 hi0 hKOe hk2 hy0m hfl hrg3 hok3 hK3 hU0 hy5 hv0 hU09
       go_upto_region 3 with (first
         | (refine aA rfl (.tmp 12) rfl b (o + i * 3) rfl Ky A2 (some ⟨b3, o3, none⟩) n2 c2 1 d2 HRG.out ?_)
         | (refine wB rfl 25 (.tmp 5) (.tmp 13) rfl wr.heap.size 0 rfl (zV Ky A2 n2 c2 (some ⟨b3, o3, none⟩) 1 d2) rfl (aa.new' wr zL _ 25 rfl) 3 au ?_; intro w4 hst9; have Hw4 : Hid (aa w4 wr.heap.size (zV Ky A2 n2 c2 (some ⟨b3, o3, none⟩) 1 d2) 25 /\ Below wr.heap.size wr w4) := Lh (aZ hst9); clear hst9; ))
       go_upto_region 4 with (first
         | (refine gu (by rfl) (.tmp 21) rfl b (o + j * 3) rfl Kp5 A5 B5 n5 c5 m5 d5 (HRP.out w4 Hw4.out.2) ?_)
         | ((with_reducible refine (HBL.out w4 Hw4.out).mono ?_); rintro e w5 hp; obtain ⟨rfl, hb5⟩ := aN hp; have H5 : Hid (dC wr w5 (zV Ky A2 n2 c2 (some ⟨b3, o3, none⟩) 1 d2)) := Lh ⟨Hw4.out.1.below hb5 Hw4.out.1.lt, Hw4.out.2.trans (hb5.mono Hw4.out.2.size)⟩; have hk5 := (HSW.out _ H5.out.1).1; have hk52 := H5.out.1.cell (j := 2) rfl; clear hp hb5))
       go_upto_region 5 with (first
         | (refine gu (by rfl) (.tmp 35) rfl b3 o3 rfl K3 A3 B3 n3 c3 m3 d3 (HR0.out w5 H5.out.2) ?_)
         | ((with_reducible refine (HI0.out w5 H5.out).mono ?_); rintro e w6 hp; obtain ⟨rfl, hb6⟩ := aN hp; have H6 : Hid (dC wr w6 (zV Ky A2 n2 c2 (some ⟨b3, o3, none⟩) 1 d2)) := Lh ⟨H5.out.1.below hb6 H5.out.1.lt, H5.out.2.trans (hb6.mono H5.out.2.size)⟩; have hk6 := (HSW.out _ H6.out.1).1; have hk62 := H6.out.1.cell (j := 2) rfl; clear hp hb6))
       have hk62 := H6.out.1.cell (j := 2) rfl
       go_wp2_with (first
         | (refine aA rfl (.tmp 42) rfl b3 (o3) rfl K3 A3 B3 n3 c3 m3 d3 (HR0.out w6 H6.out.2) ?_)
         | ((with_reducible refine (HKD.out w6 H6.out).mono ?_); rintro e w7 hp; obtain ⟨rfl, v2, h7, hc7⟩ := HM1.out w6 e w7 H6.out hp; have H7 := Lh h7; have HC7 := Lh hc7; clear hp h7 hc7)
         | ((with_reducible refine HC7.out.mono ?_); rintro e w8 hp; obtain ⟨rfl, v3, h8⟩ := HM2.out v2 w7 e w8 H7.out hp; have H8 := Lh h8; clear hp h8))
       go_roundg gg
       case rel => exact ⟨i + 1, f || aO L y, T ++ KO, v3, by omega, by go_num, H8⟩
       case measure => omega
      |false =>
       subst hU09;have hU09 : false = false := rfl;have hst : jE L y = false := by unfold jE; rw [show ak y.kids 0 = y0 by rw [hy5]; rfl, <- hNn, <- hU0]; simp
       have k4 : Ky ≠ 4 := by omega
       have kq5b : (Ky == 5) = true := bT (by omega);have hKOe : KO = if U = true then [40] ++ aF L y ++ [41] else aF L y := by rw [hKO]; unfold iy; rw [hst, <- hKy, hU, hNn]; simp [k4]
       have HKD : Hid (∀ W, (dC wr W (zV Ky A2 n2 c2 (some ⟨b3, o3, none⟩) 1 d2)) -> Calls Tryz.prog 106 #[.pointer (some ⟨pb, 0, none⟩), .agg #[.int .i64 Ky, .slice A2 n2 c2, .slice (some ⟨b3, o3, none⟩) 1 d2], .bool U] W (aH pb v1 A n c (f || aO L y) (T ++ KO) W)) := Lh fun W hw => by
         have h4 := HI.out.1.below hw.2;rw [hKOe]
         cases hU9 : U with
         | true =>
           rw [if_pos rfl];exact kg (HIH.out y hmem) hKy h4.1 (HLK.out v1 W h4) ((gG hok (Below.refl _ _) HI.out.1.2.1 HI.out.1.2.2).below hw.2) (by rw [hKOe, hU9, if_pos rfl] at hlen; simp at hlen; omega)
         | false =>
           rw [if_neg (by decide)];exact mM (HIH.out y hmem) hKy h4.1 (HLK.out v1 W h4) ((gG hok (Below.refl _ _) HI.out.1.2.1 HI.out.1.2.2).below hw.2) (by rw [hKOe, hU9, if_neg (by decide)] at hlen; omega)
       have kq4b : (Ky == 4) = false := bF (by omega);clear hKOe hst;clear k4;clear hlen hNn hil hy hmem hok hKy hvy hrg hpb hKO hap hU hne1;clear hi0 k5 hrg3 hok3 hK3 hU0 hy5 hv0 hU09
       go_upto_region 3 with (first
         | (refine aA rfl (.tmp 12) rfl b (o + i * 3) rfl Ky A2 (some ⟨b3, o3, none⟩) n2 c2 1 d2 HRG.out ?_)
         | (refine wB rfl 25 (.tmp 5) (.tmp 13) rfl wr.heap.size 0 rfl (zV Ky A2 n2 c2 (some ⟨b3, o3, none⟩) 1 d2) rfl (aa.new' wr zL _ 25 rfl) 3 au ?_; intro w4 hst9; have Hw4 : Hid (aa w4 wr.heap.size (zV Ky A2 n2 c2 (some ⟨b3, o3, none⟩) 1 d2) 25 /\ Below wr.heap.size wr w4) := Lh (aZ hst9); clear hst9; ))
       go_upto_region 4 with (first
         | (refine gu (by rfl) (.tmp 21) rfl b (o + j * 3) rfl Kp5 A5 B5 n5 c5 m5 d5 (HRP.out w4 Hw4.out.2) ?_)
         | ((with_reducible refine (HBL.out w4 Hw4.out).mono ?_); rintro e w5 hp; obtain ⟨rfl, hb5⟩ := aN hp; have H5 : Hid (dC wr w5 (zV Ky A2 n2 c2 (some ⟨b3, o3, none⟩) 1 d2)) := Lh ⟨Hw4.out.1.below hb5 Hw4.out.1.lt, Hw4.out.2.trans (hb5.mono Hw4.out.2.size)⟩; have hk5 := (HSW.out _ H5.out.1).1; have hk52 := H5.out.1.cell (j := 2) rfl; clear hp hb5))
       go_upto_region 7 with (first
         | (refine gu (by rfl) (.tmp 35) rfl b3 o3 rfl K3 A3 B3 n3 c3 m3 d3 (HR0.out w5 H5.out.2) ?_)
         | ((with_reducible refine (HI0.out w5 H5.out).mono ?_); rintro e w6 hp; obtain ⟨rfl, hb6⟩ := aN hp; have H6 : Hid (dC wr w6 (zV Ky A2 n2 c2 (some ⟨b3, o3, none⟩) 1 d2)) := Lh ⟨H5.out.1.below hb6 H5.out.1.lt, H5.out.2.trans (hb6.mono H5.out.2.size)⟩; have hk6 := (HSW.out _ H6.out.1).1; have hk62 := H6.out.1.cell (j := 2) rfl; clear hp hb6))
       have HB0 : Hid (dC wr w6.drew (zV Ky A2 n2 c2 (some ⟨b3, o3, none⟩) 1 d2)) := Lh ⟨H6.out.1.below (below_drewN (Below.refl _ _) 1) H6.out.1.lt, H6.out.2.trans (below_drewN (Below.refl _ _) 1 |>.mono H6.out.2.size)⟩;refine wp_region_held_drew (S := fun w' => w'.cell? ⟨wr.heap.size, 0, none⟩ = some (.int .i64 Ky) /\ w'.rangeAt wr.heap.size 0 (zV Ky A2 n2 c2 (some ⟨b3, o3, none⟩) 1 d2)) (by kernel_rfl) ((HSW.out _ HB0.out.1)) (fun hS0 => ?_);refine aJ 0 ?_;refine wX 1 rfl (yieldsIf_load_mid (by rfl) _ _ rfl _ _ rfl _ _ (fun w h => h.2) Tryz.underlying25 rfl au) ?_;refine aJ 2 ?_;refine aJ 3 ?_;refine aJ 4 ?_;refine aJ 5 ?_;refine aJ 6 ?_;refine aJ 7 ?_;refine aJ 8 ?_;refine wX 9 rfl (yieldsIf_load_mid (by rfl) _ _ rfl _ _ rfl _ _ (fun w h => h.2) Tryz.underlying25 rfl au) ?_;refine wpAnyH_ready (rs := [10]) (by kernel_rfl) (by simp) ?_;refine wA rfl (fun KK hK => ?_) AllReadyH.nil
       go_simp;go_at_call 136;refine (HIL.out _ HB0.out).mono ?_;rintro e w8 hp;obtain ⟨rfl, hb8⟩ := aN hp;have HB8 : Hid (dC wr w8 (zV Ky A2 n2 c2 (some ⟨b3, o3, none⟩) 1 d2)) := Lh ⟨HB0.out.1.below hb8 HB0.out.1.lt, HB0.out.2.trans (hb8.mono HB0.out.2.size)⟩;clear hp hb8;refine hK.out _ _ (HSW.out _ HB8.out.1) (fun hS1 => ?_);clear hK KK hS0;(try simp only [Act.put, pP]);refine aJ 11 ?_;refine aJ 12 ?_;refine wpAnyH_ready (rs := [13]) (by kernel_rfl) (by simp) ?_;refine wA rfl (fun KK hK => ?_) AllReadyH.nil
       go_simp;go_at_call 106;refine (HKD.out _ HB8.out).mono ?_;rintro e w9 hp;obtain ⟨rfl, hS9, v2, h9⟩ := HF1.out _ e w9 HB8.out hp;have H9 := Lh h9;clear hp h9;refine hK.out _ _ hS9 (fun hS2 => ?_);clear hK KK;(try simp only [Act.put, pP]);refine wpAnyH_done (by kernel_rfl) ?_ _;go_wp2_with fail
       go_roundg gg
       case rel => exact ⟨i + 1, f || aO L y, T ++ KO, v2, by omega, by go_num, H9⟩
       case measure => omega
     ·have hst : jE L y = false := by unfold jE; rw [<- hKy, dF k5]; rfl
      have kq5b : (Ky == 5) = false := bF (by omega)
      by_cases k4 : Ky = 4
      ·clear hst;have hKOe : KO = [40] ++ aF L y ++ [41] := by rw [hKO]; unfold iy jE; rw [<- hKy, k4]; simp
       have HKD : Hid (∀ W, (dC wr W (zV Ky A2 n2 c2 B2 m2 d2)) -> Calls Tryz.prog 106 #[.pointer (some ⟨pb, 0, none⟩), .agg #[.int .i64 Ky, .slice A2 n2 c2, .slice B2 m2 d2], .bool true] W (aH pb v1 A n c (f || aO L y) (T ++ KO) W)) := Lh fun W hw => by
         have h4 := HI.out.1.below hw.2;rw [hKOe];exact kg (HIH.out y hmem) hKy h4.1 (HLK.out v1 W h4) ((gG hok (Below.refl _ _) HI.out.1.2.1 HI.out.1.2.2).below hw.2) (by rw [hKOe] at hlen; simp at hlen; omega)
       have kq4b : (Ky == 4) = true := bT (by omega);clear hKOe;clear k4;clear hlen hNn hil hy hmem hok hKy hvy hrg hpb hKO hap hU hne1;clear hi0 k5
       go_upto_region 3 with (first
         | (refine aA rfl (.tmp 12) rfl b (o + i * 3) rfl Ky A2 B2 n2 c2 m2 d2 HRG.out ?_)
         | (refine wB rfl 25 (.tmp 5) (.tmp 13) rfl wr.heap.size 0 rfl (zV Ky A2 n2 c2 B2 m2 d2) rfl (aa.new' wr zL _ 25 rfl) 3 au ?_; intro w4 hst9; have Hw4 : Hid (aa w4 wr.heap.size (zV Ky A2 n2 c2 B2 m2 d2) 25 /\ Below wr.heap.size wr w4) := Lh (aZ hst9); clear hst9; ))
       go_upto_region 4 with (first
         | (refine gu (by rfl) (.tmp 21) rfl b (o + j * 3) rfl Kp5 A5 B5 n5 c5 m5 d5 (HRP.out w4 Hw4.out.2) ?_)
         | ((with_reducible refine (HBL.out w4 Hw4.out).mono ?_); rintro e w5 hp; obtain ⟨rfl, hb5⟩ := aN hp; have H5 : Hid (dC wr w5 (zV Ky A2 n2 c2 B2 m2 d2)) := Lh ⟨Hw4.out.1.below hb5 Hw4.out.1.lt, Hw4.out.2.trans (hb5.mono Hw4.out.2.size)⟩; have hk5 := (HSW.out _ H5.out.1).1; have hk52 := H5.out.1.cell (j := 2) rfl; clear hp hb5))
       go_upto_region 7 with fail
       have HB0 : Hid (dC wr w5.drew (zV Ky A2 n2 c2 B2 m2 d2)) := Lh ⟨H5.out.1.below (below_drewN (Below.refl _ _) 1) H5.out.1.lt, H5.out.2.trans (below_drewN (Below.refl _ _) 1 |>.mono H5.out.2.size)⟩;refine wp_region_held_drew (S := fun w' => w'.cell? ⟨wr.heap.size, 0, none⟩ = some (.int .i64 Ky) /\ w'.rangeAt wr.heap.size 0 (zV Ky A2 n2 c2 B2 m2 d2)) (by kernel_rfl) ((HSW.out _ HB0.out.1)) (fun hS0 => ?_);refine aJ 0 ?_;refine wX 1 rfl (yieldsIf_load_mid (by rfl) _ _ rfl _ _ rfl _ _ (fun w h => h.2) Tryz.underlying25 rfl au) ?_;refine aJ 2 ?_;refine aJ 3 ?_;refine aJ 4 ?_;refine aJ 5 ?_;refine wS 6 ?_;refine wS 7 ?_;refine wS 8 ?_;refine wS 9 ?_;refine wS 10 ?_;refine wS 11 ?_;refine aJ 12 ?_;refine wpAnyH_ready (rs := [13]) (by kernel_rfl) (by simp) ?_;refine wA rfl (fun KK hK => ?_) AllReadyH.nil
       go_simp;go_at_call 106;refine (HKD.out _ HB0.out).mono ?_;rintro e w9 hp;obtain ⟨rfl, hS9, v2, h9⟩ := HF1.out _ e w9 HB0.out hp;have H9 := Lh h9;clear hp h9;refine hK.out _ _ hS9 (fun hS2 => ?_);clear hK KK;(try simp only [Act.put, pP]);refine wpAnyH_done (by kernel_rfl) ?_ _;go_wp2_with fail
       go_roundg gg
       case rel => exact ⟨i + 1, f || aO L y, T ++ KO, v2, by omega, by go_num, H9⟩
       case measure => omega
      ·skip
       have hKOe : KO = if U = true then [40] ++ aF L y ++ [41] else aF L y := by rw [hKO]; unfold iy; rw [hst, <- hKy, hU, hNn]; simp [k4]
       have HKD : Hid (∀ W, (dC wr W (zV Ky A2 n2 c2 B2 m2 d2)) -> Calls Tryz.prog 106 #[.pointer (some ⟨pb, 0, none⟩), .agg #[.int .i64 Ky, .slice A2 n2 c2, .slice B2 m2 d2], .bool U] W (aH pb v1 A n c (f || aO L y) (T ++ KO) W)) := Lh fun W hw => by
         have h4 := HI.out.1.below hw.2;rw [hKOe]
         cases hU9 : U with
         | true =>
           rw [if_pos rfl];exact kg (HIH.out y hmem) hKy h4.1 (HLK.out v1 W h4) ((gG hok (Below.refl _ _) HI.out.1.2.1 HI.out.1.2.2).below hw.2) (by rw [hKOe, hU9, if_pos rfl] at hlen; simp at hlen; omega)
         | false =>
           rw [if_neg (by decide)];exact mM (HIH.out y hmem) hKy h4.1 (HLK.out v1 W h4) ((gG hok (Below.refl _ _) HI.out.1.2.1 HI.out.1.2.2).below hw.2) (by rw [hKOe, hU9, if_neg (by decide)] at hlen; omega)
       have kq4b : (Ky == 4) = false := bF (by omega);clear hKOe hst;clear k4;clear hlen hNn hil hy hmem hok hKy hvy hrg hpb hKO hap hU hne1;clear hi0 k5
       go_upto_region 3 with (first
         | (refine aA rfl (.tmp 12) rfl b (o + i * 3) rfl Ky A2 B2 n2 c2 m2 d2 HRG.out ?_)
         | (refine wB rfl 25 (.tmp 5) (.tmp 13) rfl wr.heap.size 0 rfl (zV Ky A2 n2 c2 B2 m2 d2) rfl (aa.new' wr zL _ 25 rfl) 3 au ?_; intro w4 hst9; have Hw4 : Hid (aa w4 wr.heap.size (zV Ky A2 n2 c2 B2 m2 d2) 25 /\ Below wr.heap.size wr w4) := Lh (aZ hst9); clear hst9; ))
       go_upto_region 4 with (first
         | (refine gu (by rfl) (.tmp 21) rfl b (o + j * 3) rfl Kp5 A5 B5 n5 c5 m5 d5 (HRP.out w4 Hw4.out.2) ?_)
         | ((with_reducible refine (HBL.out w4 Hw4.out).mono ?_); rintro e w5 hp; obtain ⟨rfl, hb5⟩ := aN hp; have H5 : Hid (dC wr w5 (zV Ky A2 n2 c2 B2 m2 d2)) := Lh ⟨Hw4.out.1.below hb5 Hw4.out.1.lt, Hw4.out.2.trans (hb5.mono Hw4.out.2.size)⟩; have hk5 := (HSW.out _ H5.out.1).1; have hk52 := H5.out.1.cell (j := 2) rfl; clear hp hb5))
       go_upto_region 7 with fail
       have HB0 : Hid (dC wr w5.drew (zV Ky A2 n2 c2 B2 m2 d2)) := Lh ⟨H5.out.1.below (below_drewN (Below.refl _ _) 1) H5.out.1.lt, H5.out.2.trans (below_drewN (Below.refl _ _) 1 |>.mono H5.out.2.size)⟩;refine wp_region_held_drew (S := fun w' => w'.cell? ⟨wr.heap.size, 0, none⟩ = some (.int .i64 Ky) /\ w'.rangeAt wr.heap.size 0 (zV Ky A2 n2 c2 B2 m2 d2)) (by kernel_rfl) ((HSW.out _ HB0.out.1)) (fun hS0 => ?_);refine aJ 0 ?_;refine wX 1 rfl (yieldsIf_load_mid (by rfl) _ _ rfl _ _ rfl _ _ (fun w h => h.2) Tryz.underlying25 rfl au) ?_;refine aJ 2 ?_;refine aJ 3 ?_;refine aJ 4 ?_;refine aJ 5 ?_;refine aJ 6 ?_;refine aJ 7 ?_;refine aJ 8 ?_;refine wX 9 rfl (yieldsIf_load_mid (by rfl) _ _ rfl _ _ rfl _ _ (fun w h => h.2) Tryz.underlying25 rfl au) ?_;refine wpAnyH_ready (rs := [10]) (by kernel_rfl) (by simp) ?_;refine wA rfl (fun KK hK => ?_) AllReadyH.nil
       go_simp;go_at_call 136;refine (HIL.out _ HB0.out).mono ?_;rintro e w8 hp;obtain ⟨rfl, hb8⟩ := aN hp;have HB8 : Hid (dC wr w8 (zV Ky A2 n2 c2 B2 m2 d2)) := Lh ⟨HB0.out.1.below hb8 HB0.out.1.lt, HB0.out.2.trans (hb8.mono HB0.out.2.size)⟩;clear hp hb8;refine hK.out _ _ (HSW.out _ HB8.out.1) (fun hS1 => ?_);clear hK KK hS0;(try simp only [Act.put, pP]);refine aJ 11 ?_;refine aJ 12 ?_;refine wpAnyH_ready (rs := [13]) (by kernel_rfl) (by simp) ?_;refine wA rfl (fun KK hK => ?_) AllReadyH.nil
       go_simp;go_at_call 106;refine (HKD.out _ HB8.out).mono ?_;rintro e w9 hp;obtain ⟨rfl, hS9, v2, h9⟩ := HF1.out _ e w9 HB8.out hp;have H9 := Lh h9;clear hp h9;refine hK.out _ _ hS9 (fun hS2 => ?_);clear hK KK;(try simp only [Act.put, pP]);refine wpAnyH_done (by kernel_rfl) ?_ _;go_wp2_with fail
       go_roundg gg
       case rel => exact ⟨i + 1, f || aO L y, T ++ KO, v2, by omega, by go_num, H9⟩
       case measure => omega
  ·obtain rfl : m = i := by omega
   have HF : Hid (aH pb v A n c (fl || dE L ks) (t ++ ed L false ks) w (.returned (.tuple #[])) wr) := Lh (by
    have h3 := HI.out.2.1;have h4 := HI.out.2.2;rw [HX.out.1, List.drop_length] at h3 h4;rw [ed, List.append_nil] at h3;rw [dE, Bool.or_false] at h4;have h5 := HI.out.1;rw [h3, h4] at h5;exact h5.post)
   go_wp2_with fail;go_end0;exact HF.out
theorem ED (r : Rx) (hv : ay r = true) (ih : ∀ x ∈ r.kids, jK x) (ih2 : ∀ x ∈ r.kids, ∀ y ∈ x.kids, jK y) : jK r := by
 intro L pb v A n c fl t w Ky A2 B2 n2 c2 m2 d2 hK h hL hr ht;have hb1 : Below w.heap.size w (w.alloc (.cells #[.int .i64 Ky, .slice A2 n2 c2, .slice B2 m2 d2] 25)) := ag w _;have HX : Hid (ai (fun b => b ≠ pb /\ some b ≠ v.ownBlock) w r A2 n2 c2 B2 m2 d2 /\ Ky = r.kind /\ ay r = true /\ t.length + (aF L r).length <= 1000000000 /\ t.length <= 1000000000) := Lh ⟨hr, hK, hv, ht, by omega⟩;have HIH := Lh ih;have HIH2 := Lh ih2;have HP := Lh h;have HP1 : Hid (dh pb v A n c fl t (w.alloc (.cells #[.int .i64 Ky, .slice A2 n2 c2, .slice B2 m2 d2] 25))) := Lh (h.below hb1);have HL1 : Hid (dY (w.alloc (.cells #[.int .i64 Ky, .slice A2 n2 c2, .slice B2 m2 d2] 25)) pb A n c L) := Lh (hL.below hb1);have HR1 : Hid (ai (fun b => b ≠ pb /\ some b ≠ v.ownBlock) (w.alloc (.cells #[.int .i64 Ky, .slice A2 n2 c2, .slice B2 m2 d2] 25)) r A2 n2 c2 B2 m2 d2) := Lh (hr.below hb1);have HB : Hid (aa (w.alloc (.cells #[.int .i64 Ky, .slice A2 n2 c2, .slice B2 m2 d2] 25)) w.heap.size [.int .i64 Ky, .slice A2 n2 c2, .slice B2 m2 d2] 25 /\ Below w.heap.size w (w.alloc (.cells #[.int .i64 Ky, .slice A2 n2 c2, .slice B2 m2 d2] 25))) := Lh ⟨aa.at w _ _ 25 _ rfl rfl, hb1⟩;have hc0 : (w.alloc (.cells #[.int .i64 Ky, .slice A2 n2 c2, .slice B2 m2 d2] 25)).cell? ⟨w.heap.size, 0, none⟩ = some (.int .i64 Ky) := HB.out.1.cell (j := 0) rfl;have hc1 : (w.alloc (.cells #[.int .i64 Ky, .slice A2 n2 c2, .slice B2 m2 d2] 25)).cell? ⟨w.heap.size, 1, none⟩ = some (.slice A2 n2 c2) := HB.out.1.cell (j := 1) rfl;have hc2 : (w.alloc (.cells #[.int .i64 Ky, .slice A2 n2 c2, .slice B2 m2 d2] 25)).cell? ⟨w.heap.size, 2, none⟩ = some (.slice B2 m2 d2) := HB.out.1.cell (j := 2) rfl;clear ih ih2 h hL hr ht hK hv hb1
 by_cases k0 : Ky = 0
 ·skip
  have HTX : Hid (t ++ aF L r = t ++ [123, 125] /\ (fl || aO L r) = fl) := Lh ⟨by rw [jQ L r, if_pos (by rw [<- HX.out.2.1]; exact k0)], by rw [kR, if_neg (by have := HX.out.2.1; omega), if_neg (by have := HX.out.2.1; omega), Bool.or_false]⟩;rw [HTX.out.1, HTX.out.2];obtain ⟨i0, hi0, hz0, hz1, hz2⟩ := info_parts tT;obtain ⟨B5, d5, hv, _⟩ := Rd.of_own HP.out.row;obtain ⟨N5, hN5⟩ : ∃ N, N = t.length := ⟨_, rfl⟩;rw [<- hN5] at hv;subst hv;have hb0 : (w.alloc (.cells #[.int .i64 Ky, .slice A2 n2 c2, .slice B2 m2 d2] 25)).cell? ⟨pb, 1, none⟩ = some (.slice B5 N5 d5) := HP1.out.box.cell (j := 1) rfl;have HO : Hid ((w.alloc (.cells #[.int .i64 Ky, .slice A2 n2 c2, .slice B2 m2 d2] 25)).ownsRow (pb + 1) 5 1 (.slice B5 N5 d5) N5 (bs t) /\ pb < (w.alloc (.cells #[.int .i64 Ky, .slice A2 n2 c2, .slice B2 m2 d2] 25)).heap.size) := Lh ⟨by have h1 := HP1.out.row; rwa [<- hN5] at h1, HP1.out.lt.1⟩;have HSRC : Hid (∀ W : World, Src Tryz.prog i0.size 9 (.string ⟨#[123, 125]⟩) 2 (bs [123, 125]) W) := Lh fun W => by
   have h1 := Src.ofString (w := W) Tryz.underlying9 (tb [123, 125]);rw [fP] at h1;rw [hz1];exact h1
  have HAP : Hid (∀ v5 w5, w5.ownsRow (pb + 1) 5 1 v5 (N5 + 2) (bs t ++ bs [123, 125]) -> (w.alloc (.cells #[.int .i64 Ky, .slice A2 n2 c2, .slice B2 m2 d2] 25)).grownBy w5 (Value.slice B5 N5 d5).ownBlock -> (v5.ownBlock = (Value.slice B5 N5 d5).ownBlock \/ v5.ownBlock = some (w.alloc (.cells #[.int .i64 Ky, .slice A2 n2 c2, .slice B2 m2 d2] 25)).heap.size) -> aa w5 pb [.slice A n c, .slice B5 N5 d5, .bool fl] 92 /\ ∀ w9, aK w5 w9 pb [.slice A n c, v5, .bool fl] 92 -> aH pb (.slice B5 N5 d5) A n c fl (t ++ [123, 125]) w (.returned (.tuple #[])) w9) := Lh fun v5 w5 hown hg hat => by
   rw [hN5] at hown;have h1 := HP.out.app (ys := [123, 125]) (ag w _) hown hg hat;exact ⟨h1.1, fun w9 hst => ⟨rfl, v5, h1.2 w9 hst⟩⟩
  have hs1 : N5 + 2 <= maxLen := by have := HX.out.2.2.2.2; unfold maxLen; omega
  have hs2 : (N5 + 2) * 1 <= 140737488355328 := by have := HX.out.2.2.2.2; omega
  have kab : (Ky == 0) = true := bT (by omega);clear hN5 k0;go_enter Tryz.func72, Tryz.ntmps72
  go_wp2_with (first
   |(at_builtin; refine eu rfl (.tmp 12) (.const (.string ⟨#[123, 125]⟩)) 45 9 rfl (pb + 1) 5 i0 _ 1 1 Tryz.underlying45 hi0 hz0 hz1 hz2 rfl _ _ _ rfl HO.out.1 _ 2 (bs [123, 125]) rfl (HSRC.out _) hs1 hs2 (by have := HO.out.2; omega) ?_; intro v9 w9 hown9 hg9 hat9; obtain ⟨A6, c6, hv6, _⟩ := Rd.of_own hown9; subst hv6; have HX9 := Lh (HAP.out _ _ hown9 hg9 hat9); clear hown9 hg9 hat9)
   |(refine lC rfl 45 (.tmp 15) (.tmp 13) rfl pb 1 rfl A6 (N5 + 2) c6 rfl HX9.out.1 (by simp) tV ?_; intro w8 hst8; have HX8 := Lh (HX9.out.2 w8 hst8); clear hst8))
  go_end0;exact HX8.out
 ·by_cases k2 : Ky = 2
  ·skip
   obtain ⟨s, hs, hset⟩ : ∃ s, r = .mk 2 s [] /\ dI s = true := by
    have h1 := HX.out.2.1
    rcases eT HX.out.2.2.1 with e | e | ⟨s, e, hs⟩ | ⟨_, e, _⟩ | ⟨_, e, _⟩ | ⟨_, e, _⟩
    all_goals first | exact ⟨s, e, hs⟩ | (rw [e] at h1; simp only [Rx.kind] at h1; omega)
   have HTX : Hid (aF L r = jB L s /\ aO L r = nG L s) := Lh ⟨by rw [jQ L r, if_neg (by rw [<- HX.out.2.1]; exact k0), if_pos (by rw [<- HX.out.2.1]; exact k2), hs]; rfl, by rw [kR, if_pos (by have := HX.out.2.1; omega), hs]; rfl⟩;have hsy : r.syms = s := by rw [hs]; rfl
   have hne : s ≠ [] := (gW.1 hset).1;obtain ⟨b, o, hA, hcs⟩ := HR1.out.o.syms.open (by rw [hsy]; intro e; exact hne (by simpa [iv] using e));have hpA := HR1.out.syms (by rw [hsy]; exact hne) b o hA;subst hA;have HCL : Hid (Calls Tryz.prog 103 #[.pointer (some ⟨pb, 0, none⟩), .slice (some ⟨b, o, none⟩) n2 c2] (w.alloc (.cells #[.int .i64 Ky, .slice (some ⟨b, o, none⟩) n2 c2, .slice B2 m2 d2] 25)) (aH pb v A n c (fl || aO L r) (t ++ aF L r) (w.alloc (.cells #[.int .i64 Ky, .slice (some ⟨b, o, none⟩) n2 c2, .slice B2 m2 d2] 25)))) := Lh (by
    rw [HTX.out.1, HTX.out.2];exact Ag _ HP1.out L HL1.out s b o n2 c2 (by rw [HR1.out.o.nlen, hsy]) HR1.out.o.ncap HR1.out.o.cmax (by rw [<- hsy]; exact hcs) hpA.1 hpA.2 (fun x hx => ((gW.1 hset).2.2 x hx).1) hne (by have := HX.out.2.2.2.1; rw [HTX.out.1] at this; exact this))
   clear hs hset hsy hne hcs hpA;have kab : (Ky == 0) = false := bF (by omega);have kbb : (Ky == 2) = true := bT (by omega);clear k0 k2;go_enter Tryz.func72, Tryz.ntmps72
   go_wp2_with ((with_reducible refine HCL.out.mono ?_); rintro e x4 hp; have H4 := Lh (jU HB.out.2 hp); obtain ⟨rfl, _⟩ := iw hp; clear hp)
   go_end0;exact H4.out
  ·by_cases k3 : Ky = 3
   ·skip
    have HTX : Hid (aF L r = ed L false r.kids /\ aO L r = dE L r.kids) := Lh ⟨by rw [jQ L r, if_neg (by rw [<- HX.out.2.1]; exact k0), if_neg (by rw [<- HX.out.2.1]; exact k2), if_pos (by rw [<- HX.out.2.1]; exact k3)], by rw [kR, if_neg (by have := HX.out.2.1; omega), if_pos (by have := HX.out.2.1; omega)]⟩;have HCL : Hid (Calls Tryz.prog 104 #[.pointer (some ⟨pb, 0, none⟩), .slice B2 m2 d2] (w.alloc (.cells #[.int .i64 Ky, .slice A2 n2 c2, .slice B2 m2 d2] 25)) (aH pb v A n c (fl || aO L r) (t ++ aF L r) (w.alloc (.cells #[.int .i64 Ky, .slice A2 n2 c2, .slice B2 m2 d2] 25)))) := Lh (by
      rw [HTX.out.1, HTX.out.2];exact CU _ HP1.out L HL1.out r.kids HIH.out HIH2.out (eF HX.out.2.2.1) B2 m2 d2 HR1.out.o.mlen HR1.out.o.mcap HR1.out.o.dmax HR1.out.kids.1 HR1.out.kids.2 (by have := HX.out.2.2.2.1; rw [HTX.out.1] at this; exact this))
    have kab : (Ky == 0) = false := bF (by omega);have kbb : (Ky == 2) = false := bF (by omega);have kcb : (Ky == 3) = true := bT (by omega);clear k0 k2 k3;go_enter Tryz.func72, Tryz.ntmps72
    go_wp2_with ((with_reducible refine HCL.out.mono ?_); rintro e x4 hp; have H4 := Lh (jU HB.out.2 hp); obtain ⟨rfl, _⟩ := iw hp; clear hp)
    go_end0;exact H4.out
   ·by_cases k4 : Ky = 4
    · skip
      have HTX : Hid (aF L r = dU L true r.kids /\ aO L r = dE L r.kids) := Lh ⟨by rw [jQ L r, if_neg (by rw [<- HX.out.2.1]; exact k0), if_neg (by rw [<- HX.out.2.1]; exact k2), if_neg (by rw [<- HX.out.2.1]; exact k3), if_pos (by rw [<- HX.out.2.1]; exact k4)], by rw [kR, if_neg (by have := HX.out.2.1; omega), if_pos (by have := HX.out.2.1; omega)]⟩;have HCL : Hid (Calls Tryz.prog 105 #[.pointer (some ⟨pb, 0, none⟩), .slice B2 m2 d2] (w.alloc (.cells #[.int .i64 Ky, .slice A2 n2 c2, .slice B2 m2 d2] 25)) (aH pb v A n c (fl || aO L r) (t ++ aF L r) (w.alloc (.cells #[.int .i64 Ky, .slice A2 n2 c2, .slice B2 m2 d2] 25)))) := Lh (by
       rw [HTX.out.1, HTX.out.2];exact CX _ HP1.out L HL1.out r.kids HIH.out B2 m2 d2 HR1.out.o.mlen HR1.out.o.mcap HR1.out.o.dmax HR1.out.kids.1 HR1.out.kids.2 (by have := HX.out.2.2.2.1; rw [HTX.out.1] at this; exact this))
      have kab : (Ky == 0) = false := bF (by omega);have kbb : (Ky == 2) = false := bF (by omega);have kcb : (Ky == 3) = false := bF (by omega);have kdb : (Ky == 4) = true := bT (by omega);clear k0 k2 k3 k4;go_enter Tryz.func72, Tryz.ntmps72
      go_wp2_with ((with_reducible refine HCL.out.mono ?_); rintro e x4 hp; have H4 := Lh (jU HB.out.2 hp); obtain ⟨rfl, _⟩ := iw hp; clear hp)
      go_end0;exact H4.out
    · by_cases k5 : Ky = 5
      ·skip
       obtain ⟨y0, hy5, hv0⟩ := q8 HX.out.2.2.1 (HX.out.2.1.symm.trans k5);have hy0m : y0 ∈ r.kids := by rw [hy5]; simp [Rx.kids]
       have hfl : aO L r = aO L y0 := by rw [hy5, kR]; simp [Rx.kind, Rx.kids, dE]
       have hkl : 0 < r.kids.length := by rw [hy5]; simp [Rx.kids]
       have hm2 : m2 = 1 := by rw [HR1.out.o.mlen, hy5]; rfl
       obtain ⟨b3, o3, hB3⟩ := HR1.out.kids.1.place hkl;have hp3 := HR1.out.kids.2 (by rw [hy5]; simp [Rx.kids]) b3 o3 hB3;subst hB3 hm2;obtain ⟨A3, n3, c3, B3, m3, d3, hrg3, hok3⟩ := HR1.out.kids.1.kid (i := 0) hkl;rw [show ak r.kids 0 = y0 by rw [hy5]; rfl] at hrg3 hok3;obtain ⟨K3, hK3⟩ : ∃ K, K = y0.kind := ⟨_, rfl⟩;rw [<- hK3, Nat.zero_mul, Nat.add_zero] at hrg3;have HBD : Hid (Below (w.alloc (.cells #[.int .i64 Ky, .slice A2 n2 c2, .slice (some ⟨b3, o3, none⟩) 1 d2] 25)).heap.size (w.alloc (.cells #[.int .i64 Ky, .slice A2 n2 c2, .slice (some ⟨b3, o3, none⟩) 1 d2] 25)) (w.alloc (.cells #[.int .i64 Ky, .slice A2 n2 c2, .slice (some ⟨b3, o3, none⟩) 1 d2] 25)).drew) := Lh (below_drewN (Below.refl _ _) 1);have HRG : Hid ((w.alloc (.cells #[.int .i64 Ky, .slice A2 n2 c2, .slice (some ⟨b3, o3, none⟩) 1 d2] 25)).drew.rangeAt b3 o3 [.int .i64 K3, .slice A3 n3 c3, .slice B3 m3 d3]) := Lh hrg3;have HPB : Hid (w.heap.size ≠ pb /\ some w.heap.size ≠ v.ownBlock /\ b3 ≠ pb /\ some b3 ≠ v.ownBlock /\ b3 < (w.alloc (.cells #[.int .i64 Ky, .slice A2 n2 c2, .slice (some ⟨b3, o3, none⟩) 1 d2] 25)).drew.heap.size) := Lh ⟨by have := HP.out.lt.1; omega, fun e => by have := (HP.out.lt.2 _ e.symm).2; omega, hp3.1, hp3.2, World.block_lt_of_cell? _ _ (hrg3 0 _ rfl)⟩;have HB2 : Hid (aa (w.alloc (.cells #[.int .i64 Ky, .slice A2 n2 c2, .slice (some ⟨b3, o3, none⟩) 1 d2] 25)).drew w.heap.size [.int .i64 Ky, .slice A2 n2 c2, .slice (some ⟨b3, o3, none⟩) 1 d2] 25) := Lh (HB.out.1.below HBD.out HB.out.1.lt);have HP2 : Hid (dh pb v A n c fl t (w.alloc (.cells #[.int .i64 Ky, .slice A2 n2 c2, .slice (some ⟨b3, o3, none⟩) 1 d2] 25)).drew) := Lh (HP1.out.below HBD.out);have HL2 : Hid (dY (w.alloc (.cells #[.int .i64 Ky, .slice A2 n2 c2, .slice (some ⟨b3, o3, none⟩) 1 d2] 25)).drew pb A n c L) := Lh (HL1.out.below HBD.out);have HS0 : Hid ((fun w' => w'.cell? ⟨w.heap.size, 2, none⟩ = some (.slice (some ⟨b3, o3, none⟩) 1 d2) /\ w'.cell? ⟨b3, o3, none⟩ = some (.int .i64 K3) /\ w'.rangeAt b3 o3 [.int .i64 K3, .slice A3 n3 c3, .slice B3 m3 d3]) (w.alloc (.cells #[.int .i64 Ky, .slice A2 n2 c2, .slice (some ⟨b3, o3, none⟩) 1 d2] 25)).drew) := Lh ⟨HB2.out.cell (j := 2) rfl, HRG.out 0 _ rfl, HRG.out⟩
       clear hrg3 hp3
       by_cases q4 : K3 = 4
       ·skip
        have HTX : Hid (aF L r = ([40] ++ aF L y0 ++ [41]) ++ [42]) := Lh (by rw [jQ L r, if_neg (by rw [<- HX.out.2.1]; exact k0), if_neg (by rw [<- HX.out.2.1]; exact k2), if_neg (by rw [<- HX.out.2.1]; exact k3), if_neg (by rw [<- HX.out.2.1]; exact k4), if_pos (by rw [<- HX.out.2.1]; exact k5), hy5, Rx.kids, kI, if_pos (.inl (by rw [<- hK3]; exact q4))]);have hlen : t.length + (([40] ++ aF L y0 ++ [41]).length + 1) <= 1000000000 := by have h1 := HX.out.2.2.2.1; rw [HTX.out] at h1; simp at h1 ⊢; omega
        have HKD : Hid (Calls Tryz.prog 106 #[.pointer (some ⟨pb, 0, none⟩), .agg #[.int .i64 K3, .slice A3 n3 c3, .slice B3 m3 d3], .bool true] (w.alloc (.cells #[.int .i64 Ky, .slice A2 n2 c2, .slice (some ⟨b3, o3, none⟩) 1 d2] 25)).drew (aH pb v A n c (fl || aO L r) (t ++ ([40] ++ aF L y0 ++ [41])) (w.alloc (.cells #[.int .i64 Ky, .slice A2 n2 c2, .slice (some ⟨b3, o3, none⟩) 1 d2] 25)).drew)) := Lh (by
         rw [hfl];exact kg (HIH.out y0 hy0m) hK3 HP2.out HL2.out (hok3.below HBD.out) (by (try simp at hlen ⊢); omega))
        have HM1 : Hid (∀ e w7, aH pb v A n c (fl || aO L r) (t ++ ([40] ++ aF L y0 ++ [41])) (w.alloc (.cells #[.int .i64 Ky, .slice A2 n2 c2, .slice (some ⟨b3, o3, none⟩) 1 d2] 25)).drew e w7 -> e = .returned (.tuple #[]) /\ (fun w' => w'.cell? ⟨w.heap.size, 2, none⟩ = some (.slice (some ⟨b3, o3, none⟩) 1 d2) /\ w'.cell? ⟨b3, o3, none⟩ = some (.int .i64 K3) /\ w'.rangeAt b3 o3 [.int .i64 K3, .slice A3 n3 c3, .slice B3 m3 d3]) w7 /\ ∃ v2, aX pb v A n c (w.alloc (.cells #[.int .i64 Ky, .slice A2 n2 c2, .slice (some ⟨b3, o3, none⟩) 1 d2] 25)).drew (fl || aO L r) (t ++ ([40] ++ aF L y0 ++ [41])) v2 w7 /\ Calls Tryz.prog 107 #[.pointer (some ⟨pb, 0, none⟩), .int .u8 42] w7 (aH pb v2 A n c (fl || aO L r) (t ++ ([40] ++ aF L y0 ++ [41]) ++ [42]) w7)) := Lh fun e w7 hp => by
         obtain ⟨he, v2, h9⟩ := (aX.refl HP2.out).step hp;have hk := h9.2.1;exact ⟨he, ⟨(hk.blk (HB2.out) HPB.out.1 HPB.out.2.1).cell (j := 2) rfl, (hk.cell HPB.out.2.2.2.2 HPB.out.2.2.1 HPB.out.2.2.2.1).trans (HRG.out 0 _ rfl), fun j u hu => (hk.cell HPB.out.2.2.2.2 HPB.out.2.2.1 HPB.out.2.2.2.1).trans (HRG.out j u hu)⟩, v2, h9, gK w7 h9.1 42 (by (try simp at hlen ⊢); omega)⟩
        have HM2 : Hid (∀ v2 w7 e w8, aX pb v A n c (w.alloc (.cells #[.int .i64 Ky, .slice A2 n2 c2, .slice (some ⟨b3, o3, none⟩) 1 d2] 25)).drew (fl || aO L r) (t ++ ([40] ++ aF L y0 ++ [41])) v2 w7 -> aH pb v2 A n c (fl || aO L r) (t ++ ([40] ++ aF L y0 ++ [41]) ++ [42]) w7 e w8 -> e = .returned (.tuple #[]) /\ aH pb v A n c (fl || aO L r) (t ++ aF L r) w (.returned (.tuple #[])) w8) := Lh fun v2 w7 e w8 h7 hp => by
         obtain ⟨he, v3, h9⟩ := h7.step hp;have h10 := jU (HB.out.2.trans (HBD.out.mono HB.out.2.size)) h9.post;rw [HTX.out, <- List.append_assoc];exact ⟨he, h10⟩
        have kq4b : (K3 == 4) = true := bT (by omega);have kab : (Ky == 0) = false := bF (by omega);have kbb : (Ky == 2) = false := bF (by omega);have kcb : (Ky == 3) = false := bF (by omega);have kdb : (Ky == 4) = false := bF (by omega);have keb : (Ky == 5) = true := bT (by omega);clear hlen hK3 hok3 hy5 hy0m hfl q4;clear k0 k2 k3 k4 k5;go_enter Tryz.func72, Tryz.ntmps72
        go_upto_region 11 with fail
        refine wp_region_held_drew (S := fun w' => w'.cell? ⟨w.heap.size, 2, none⟩ = some (.slice (some ⟨b3, o3, none⟩) 1 d2) /\ w'.cell? ⟨b3, o3, none⟩ = some (.int .i64 K3) /\ w'.rangeAt b3 o3 [.int .i64 K3, .slice A3 n3 c3, .slice B3 m3 d3]) (by kernel_rfl) (HS0.out) (fun hS0 => ?_);refine ax 0 ?_;refine ax 1 ?_;refine ax 2 ?_;refine ax 3 ?_;refine wX 4 rfl (yieldsIf_load_mid (by rfl) _ _ rfl _ _ rfl _ _ (fun w h => h.2.2) Tryz.underlying25 rfl au) ?_;refine ax 5 ?_;refine ax 6 ?_;refine ax 7 ?_;refine ax 8 ?_;refine ax 9 ?_;refine ax 10 ?_;refine ax 11 ?_;refine wS 12 ?_;refine wS 13 ?_;refine wS 14 ?_;refine wS 15 ?_;refine wS 16 ?_;refine wS 17 ?_;refine ax 18 ?_;refine wpAnyH_ready (rs := [19]) (by kernel_rfl) (by simp) ?_;refine wA rfl (fun KK hK => ?_) AllReadyH.nil
        go_simp;go_at_call 106;refine HKD.out.mono ?_;rintro e w7 hp;obtain ⟨rfl, hS9, v2, h9, hc9⟩ := HM1.out e w7 hp;have H9 := Lh h9;have HC9 := Lh hc9;clear hp h9 hc9;refine hK.out _ _ hS9 (fun hS2 => ?_);clear hK KK;(try simp only [Act.put, pP]);refine wpAnyH_done (by kernel_rfl) ?_ _
        go_wp2_with ((with_reducible refine HC9.out.mono ?_); rintro e w8 hp; obtain ⟨rfl, h8⟩ := HM2.out v2 w7 e w8 H9.out hp; have H8 := Lh h8; clear hp h8)
        go_end0;exact H8.out
       ·by_cases q3 : K3 = 3
        ·skip
         have HTX : Hid (aF L r = ([40] ++ aF L y0 ++ [41]) ++ [42]) := Lh (by rw [jQ L r, if_neg (by rw [<- HX.out.2.1]; exact k0), if_neg (by rw [<- HX.out.2.1]; exact k2), if_neg (by rw [<- HX.out.2.1]; exact k3), if_neg (by rw [<- HX.out.2.1]; exact k4), if_pos (by rw [<- HX.out.2.1]; exact k5), hy5, Rx.kids, kI, if_pos (.inr (by rw [<- hK3]; exact q3))]);have hlen : t.length + (([40] ++ aF L y0 ++ [41]).length + 1) <= 1000000000 := by have h1 := HX.out.2.2.2.1; rw [HTX.out] at h1; simp at h1 ⊢; omega
         have HKD : Hid (Calls Tryz.prog 106 #[.pointer (some ⟨pb, 0, none⟩), .agg #[.int .i64 K3, .slice A3 n3 c3, .slice B3 m3 d3], .bool true] (w.alloc (.cells #[.int .i64 Ky, .slice A2 n2 c2, .slice (some ⟨b3, o3, none⟩) 1 d2] 25)).drew (aH pb v A n c (fl || aO L r) (t ++ ([40] ++ aF L y0 ++ [41])) (w.alloc (.cells #[.int .i64 Ky, .slice A2 n2 c2, .slice (some ⟨b3, o3, none⟩) 1 d2] 25)).drew)) := Lh (by
          rw [hfl];exact kg (HIH.out y0 hy0m) hK3 HP2.out HL2.out (hok3.below HBD.out) (by (try simp at hlen ⊢); omega))
         have HM1 : Hid (∀ e w7, aH pb v A n c (fl || aO L r) (t ++ ([40] ++ aF L y0 ++ [41])) (w.alloc (.cells #[.int .i64 Ky, .slice A2 n2 c2, .slice (some ⟨b3, o3, none⟩) 1 d2] 25)).drew e w7 -> e = .returned (.tuple #[]) /\ (fun w' => w'.cell? ⟨w.heap.size, 2, none⟩ = some (.slice (some ⟨b3, o3, none⟩) 1 d2) /\ w'.cell? ⟨b3, o3, none⟩ = some (.int .i64 K3) /\ w'.rangeAt b3 o3 [.int .i64 K3, .slice A3 n3 c3, .slice B3 m3 d3]) w7 /\ ∃ v2, aX pb v A n c (w.alloc (.cells #[.int .i64 Ky, .slice A2 n2 c2, .slice (some ⟨b3, o3, none⟩) 1 d2] 25)).drew (fl || aO L r) (t ++ ([40] ++ aF L y0 ++ [41])) v2 w7 /\ Calls Tryz.prog 107 #[.pointer (some ⟨pb, 0, none⟩), .int .u8 42] w7 (aH pb v2 A n c (fl || aO L r) (t ++ ([40] ++ aF L y0 ++ [41]) ++ [42]) w7)) := Lh fun e w7 hp => by
          obtain ⟨he, v2, h9⟩ := (aX.refl HP2.out).step hp;have hk := h9.2.1;exact ⟨he, ⟨(hk.blk (HB2.out) HPB.out.1 HPB.out.2.1).cell (j := 2) rfl, (hk.cell HPB.out.2.2.2.2 HPB.out.2.2.1 HPB.out.2.2.2.1).trans (HRG.out 0 _ rfl), fun j u hu => (hk.cell HPB.out.2.2.2.2 HPB.out.2.2.1 HPB.out.2.2.2.1).trans (HRG.out j u hu)⟩, v2, h9, gK w7 h9.1 42 (by (try simp at hlen ⊢); omega)⟩
         have HM2 : Hid (∀ v2 w7 e w8, aX pb v A n c (w.alloc (.cells #[.int .i64 Ky, .slice A2 n2 c2, .slice (some ⟨b3, o3, none⟩) 1 d2] 25)).drew (fl || aO L r) (t ++ ([40] ++ aF L y0 ++ [41])) v2 w7 -> aH pb v2 A n c (fl || aO L r) (t ++ ([40] ++ aF L y0 ++ [41]) ++ [42]) w7 e w8 -> e = .returned (.tuple #[]) /\ aH pb v A n c (fl || aO L r) (t ++ aF L r) w (.returned (.tuple #[])) w8) := Lh fun v2 w7 e w8 h7 hp => by
          obtain ⟨he, v3, h9⟩ := h7.step hp;have h10 := jU (HB.out.2.trans (HBD.out.mono HB.out.2.size)) h9.post;rw [HTX.out, <- List.append_assoc];exact ⟨he, h10⟩
         have kq4b : (K3 == 4) = false := bF (by omega);have kq3b : (K3 == 3) = true := bT (by omega);have kab : (Ky == 0) = false := bF (by omega);have kbb : (Ky == 2) = false := bF (by omega);have kcb : (Ky == 3) = false := bF (by omega);have kdb : (Ky == 4) = false := bF (by omega);have keb : (Ky == 5) = true := bT (by omega);clear hlen hK3 hok3 hy5 hy0m hfl q4 q3;clear k0 k2 k3 k4 k5;go_enter Tryz.func72, Tryz.ntmps72
         go_upto_region 11 with fail
         refine wp_region_held_drew (S := fun w' => w'.cell? ⟨w.heap.size, 2, none⟩ = some (.slice (some ⟨b3, o3, none⟩) 1 d2) /\ w'.cell? ⟨b3, o3, none⟩ = some (.int .i64 K3) /\ w'.rangeAt b3 o3 [.int .i64 K3, .slice A3 n3 c3, .slice B3 m3 d3]) (by kernel_rfl) (HS0.out) (fun hS0 => ?_);refine ax 0 ?_;refine ax 1 ?_;refine ax 2 ?_;refine ax 3 ?_;refine wX 4 rfl (yieldsIf_load_mid (by rfl) _ _ rfl _ _ rfl _ _ (fun w h => h.2.2) Tryz.underlying25 rfl au) ?_;refine ax 5 ?_;refine ax 6 ?_;refine ax 7 ?_;refine ax 8 ?_;refine ax 9 ?_;refine ax 10 ?_;refine ax 11 ?_;refine ax 12 ?_;refine ax 13 ?_;refine ax 14 ?_;refine ax 15 ?_;refine ax 16 ?_;refine ax 17 ?_;refine ax 18 ?_;refine wpAnyH_ready (rs := [19]) (by kernel_rfl) (by simp) ?_;refine wA rfl (fun KK hK => ?_) AllReadyH.nil
         go_simp;go_at_call 106;refine HKD.out.mono ?_;rintro e w7 hp;obtain ⟨rfl, hS9, v2, h9, hc9⟩ := HM1.out e w7 hp;have H9 := Lh h9;have HC9 := Lh hc9;clear hp h9 hc9;refine hK.out _ _ hS9 (fun hS2 => ?_);clear hK KK;(try simp only [Act.put, pP]);refine wpAnyH_done (by kernel_rfl) ?_ _
         go_wp2_with ((with_reducible refine HC9.out.mono ?_); rintro e w8 hp; obtain ⟨rfl, h8⟩ := HM2.out v2 w7 e w8 H9.out hp; have H8 := Lh h8; clear hp h8)
         go_end0;exact H8.out
        ·skip
         have HTX : Hid (aF L r = (aF L y0) ++ [42]) := Lh (by rw [jQ L r, if_neg (by rw [<- HX.out.2.1]; exact k0), if_neg (by rw [<- HX.out.2.1]; exact k2), if_neg (by rw [<- HX.out.2.1]; exact k3), if_neg (by rw [<- HX.out.2.1]; exact k4), if_pos (by rw [<- HX.out.2.1]; exact k5), hy5, Rx.kids, kI, if_neg (by rw [<- hK3]; omega)]);have hlen : t.length + ((aF L y0).length + 1) <= 1000000000 := by have h1 := HX.out.2.2.2.1; rw [HTX.out] at h1; simp at h1 ⊢; omega
         have HKD : Hid (Calls Tryz.prog 106 #[.pointer (some ⟨pb, 0, none⟩), .agg #[.int .i64 K3, .slice A3 n3 c3, .slice B3 m3 d3], .bool false] (w.alloc (.cells #[.int .i64 Ky, .slice A2 n2 c2, .slice (some ⟨b3, o3, none⟩) 1 d2] 25)).drew (aH pb v A n c (fl || aO L r) (t ++ (aF L y0)) (w.alloc (.cells #[.int .i64 Ky, .slice A2 n2 c2, .slice (some ⟨b3, o3, none⟩) 1 d2] 25)).drew)) := Lh (by
          rw [hfl];exact mM (HIH.out y0 hy0m) hK3 HP2.out HL2.out (hok3.below HBD.out) (by (try simp at hlen ⊢); omega))
         have HM1 : Hid (∀ e w7, aH pb v A n c (fl || aO L r) (t ++ (aF L y0)) (w.alloc (.cells #[.int .i64 Ky, .slice A2 n2 c2, .slice (some ⟨b3, o3, none⟩) 1 d2] 25)).drew e w7 -> e = .returned (.tuple #[]) /\ (fun w' => w'.cell? ⟨w.heap.size, 2, none⟩ = some (.slice (some ⟨b3, o3, none⟩) 1 d2) /\ w'.cell? ⟨b3, o3, none⟩ = some (.int .i64 K3) /\ w'.rangeAt b3 o3 [.int .i64 K3, .slice A3 n3 c3, .slice B3 m3 d3]) w7 /\ ∃ v2, aX pb v A n c (w.alloc (.cells #[.int .i64 Ky, .slice A2 n2 c2, .slice (some ⟨b3, o3, none⟩) 1 d2] 25)).drew (fl || aO L r) (t ++ (aF L y0)) v2 w7 /\ Calls Tryz.prog 107 #[.pointer (some ⟨pb, 0, none⟩), .int .u8 42] w7 (aH pb v2 A n c (fl || aO L r) (t ++ (aF L y0) ++ [42]) w7)) := Lh fun e w7 hp => by
          obtain ⟨he, v2, h9⟩ := (aX.refl HP2.out).step hp;have hk := h9.2.1;exact ⟨he, ⟨(hk.blk (HB2.out) HPB.out.1 HPB.out.2.1).cell (j := 2) rfl, (hk.cell HPB.out.2.2.2.2 HPB.out.2.2.1 HPB.out.2.2.2.1).trans (HRG.out 0 _ rfl), fun j u hu => (hk.cell HPB.out.2.2.2.2 HPB.out.2.2.1 HPB.out.2.2.2.1).trans (HRG.out j u hu)⟩, v2, h9, gK w7 h9.1 42 (by (try simp at hlen ⊢); omega)⟩
         have HM2 : Hid (∀ v2 w7 e w8, aX pb v A n c (w.alloc (.cells #[.int .i64 Ky, .slice A2 n2 c2, .slice (some ⟨b3, o3, none⟩) 1 d2] 25)).drew (fl || aO L r) (t ++ (aF L y0)) v2 w7 -> aH pb v2 A n c (fl || aO L r) (t ++ (aF L y0) ++ [42]) w7 e w8 -> e = .returned (.tuple #[]) /\ aH pb v A n c (fl || aO L r) (t ++ aF L r) w (.returned (.tuple #[])) w8) := Lh fun v2 w7 e w8 h7 hp => by
          obtain ⟨he, v3, h9⟩ := h7.step hp;have h10 := jU (HB.out.2.trans (HBD.out.mono HB.out.2.size)) h9.post;rw [HTX.out, <- List.append_assoc];exact ⟨he, h10⟩
         have kq4b : (K3 == 4) = false := bF (by omega);have kq3b : (K3 == 3) = false := bF (by omega);have kab : (Ky == 0) = false := bF (by omega);have kbb : (Ky == 2) = false := bF (by omega);have kcb : (Ky == 3) = false := bF (by omega);have kdb : (Ky == 4) = false := bF (by omega);have keb : (Ky == 5) = true := bT (by omega);clear hlen hK3 hok3 hy5 hy0m hfl q4 q3;clear k0 k2 k3 k4 k5;go_enter Tryz.func72, Tryz.ntmps72
         go_upto_region 11 with fail
         refine wp_region_held_drew (S := fun w' => w'.cell? ⟨w.heap.size, 2, none⟩ = some (.slice (some ⟨b3, o3, none⟩) 1 d2) /\ w'.cell? ⟨b3, o3, none⟩ = some (.int .i64 K3) /\ w'.rangeAt b3 o3 [.int .i64 K3, .slice A3 n3 c3, .slice B3 m3 d3]) (by kernel_rfl) (HS0.out) (fun hS0 => ?_);refine ax 0 ?_;refine ax 1 ?_;refine ax 2 ?_;refine ax 3 ?_;refine wX 4 rfl (yieldsIf_load_mid (by rfl) _ _ rfl _ _ rfl _ _ (fun w h => h.2.2) Tryz.underlying25 rfl au) ?_;refine ax 5 ?_;refine ax 6 ?_;refine ax 7 ?_;refine ax 8 ?_;refine ax 9 ?_;refine ax 10 ?_;refine ax 11 ?_;refine ax 12 ?_;refine ax 13 ?_;refine ax 14 ?_;refine ax 15 ?_;refine ax 16 ?_;refine ax 17 ?_;refine ax 18 ?_;refine wpAnyH_ready (rs := [19]) (by kernel_rfl) (by simp) ?_;refine wA rfl (fun KK hK => ?_) AllReadyH.nil
         go_simp;go_at_call 106;refine HKD.out.mono ?_;rintro e w7 hp;obtain ⟨rfl, hS9, v2, h9, hc9⟩ := HM1.out e w7 hp;have H9 := Lh h9;have HC9 := Lh hc9;clear hp h9 hc9;refine hK.out _ _ hS9 (fun hS2 => ?_);clear hK KK;(try simp only [Act.put, pP]);refine wpAnyH_done (by kernel_rfl) ?_ _
         go_wp2_with ((with_reducible refine HC9.out.mono ?_); rintro e w8 hp; obtain ⟨rfl, h8⟩ := HM2.out v2 w7 e w8 H9.out hp; have H8 := Lh h8; clear hp h8)
         go_end0;exact H8.out
      ·skip
       have k1 : Ky = 1 := by have h1 := HX.out.2.1; rcases eT HX.out.2.2.1 with e | e | ⟨_, e, _⟩ | ⟨_, e, _⟩ | ⟨_, e, _⟩ | ⟨_, e, _⟩ <;> (rw [e] at h1; simp only [Rx.kind] at h1; omega)
       have HTX : Hid (t ++ aF L r = t /\ (fl || aO L r) = fl) := Lh ⟨by rw [jQ L r, if_neg (by rw [<- HX.out.2.1]; exact k0), if_neg (by rw [<- HX.out.2.1]; exact k2), if_neg (by rw [<- HX.out.2.1]; exact k3), if_neg (by rw [<- HX.out.2.1]; exact k4), if_neg (by rw [<- HX.out.2.1]; exact k5), List.append_nil], by rw [kR, if_neg (by have := HX.out.2.1; omega), if_neg (by have := HX.out.2.1; omega), Bool.or_false]⟩;rw [HTX.out.1, HTX.out.2];have HR : Hid (aH pb v A n c fl t w (.returned (.tuple #[])) (w.alloc (.cells #[.int .i64 Ky, .slice A2 n2 c2, .slice B2 m2 d2] 25))) := Lh (jU HB.out.2 (aX.refl HP1.out).post);have kab : (Ky == 0) = false := bF (by omega);have kbb : (Ky == 2) = false := bF (by omega);have kcb : (Ky == 3) = false := bF (by omega);have kdb : (Ky == 4) = false := bF (by omega);have keb : (Ky == 5) = false := bF (by omega);clear k1 k0 k2 k3 k4 k5;go_enter Tryz.func72, Tryz.ntmps72;go_wp2_with fail;go_end0;exact HR.out
theorem rX : ∀ (z : Nat) (r : Rx), SizeOf.sizeOf r <= z -> ay r = true -> jK r
 |0, r, h, _ => absurd h (by cases r; simp)
 |z + 1, r, h, hv => ED r hv (fun x hx => rX z x (by have := gB hx; omega) (eF hv x hx)) (fun x hx y hy => rX z y (by have := gB hx; have := gB hy; omega) (eF (eF hv x hx) y hy))
namespace Rgx
def ib (V : Bool) (L : List Lt) (r : Rx) : Alp.B := if ay r = true /\ V = true /\ aO L (normR false r) = false then aF L (normR false r) else []
theorem vV {L : List Lt} (hL : ∀ l ∈ L, l.text.length <= 4) (x : Int) : (bZ L x).length <= 4 := by
 unfold bZ;have e : kZ L x = if x < (L.length : Int) then some (L.getD x.toNat z).text else if x = 62 then some [35] else if x = 63 then some [45] else none := rfl
 rw [e]
 by_cases h1 : x < (L.length : Int)
 ·rw [if_pos h1, Option.getD_some, List.getD_eq_getElem?_getD]
  cases h : L[x.toNat]? with
  |none => simp [z]
  |some l => exact hL l (List.mem_of_getElem? h)
 ·rw [if_neg h1]
  by_cases h2 : x = 62
  ·rw [if_pos h2]; simp
  ·rw [if_neg h2]
   by_cases h3 : x = 63
   ·rw [if_pos h3]; simp
   ·rw [if_neg h3]; simp
theorem xM {L : List Lt} (hL : ∀ l ∈ L, l.text.length <= 4) : ∀ (s : List Int) (f : Bool), (bH L f s).length <= 5 * s.length
 |[], f => by simp [bH]
 |x :: s, f => by
  have h1 := xM hL s false;have h2 := vV hL x;rw [bH]
  cases f <;> simp <;> omega
theorem vF {L : List Lt} (hL : ∀ l ∈ L, l.text.length <= 4) {s : List Int} (hs : s.length <= 64) : (jB L s).length <= 322 := by
 unfold jB
 split
 ·have := vV hL (s.getD 0 0); omega
 ·split
  ·simp
  ·have := xM hL s true; simp; omega
mutual
theorem pX {L : List Lt} (hL : ∀ l ∈ L, l.text.length <= 4) : ∀ r : Rx, (∀ x, ay x = true -> x.syms.length <= 64) -> ay r = true -> ((aF L r).length : Int) + 4 <= 340 * av r
 |.mk k s ks, hv6, hv => by
  have hks := eF hv
  have hs := hv6 _ hv
  rw [aF, av]
  have hp := dN ks
  by_cases h0 : k = 0
  ·rw [if_pos h0]; simp; omega
  rw [if_neg h0]
  by_cases h2 : k = 2
  ·rw [if_pos h2]; have := vF hL (s := s) hs; omega
  rw [if_neg h2]
  by_cases h3 : k = 3
  ·rw [if_pos h3]; have := uJ hL ks hv6 false hks; omega
  rw [if_neg h3]
  by_cases h4 : k = 4
  ·rw [if_pos h4]; have := wM hL ks hv6 true hks; omega
  rw [if_neg h4]
  by_cases h5 : k = 5
  ·rw [if_pos h5]; have := D8 hL ks hv6 hks; omega
  ·rw [if_neg h5]; simp; omega
theorem uJ {L : List Lt} (hL : ∀ l ∈ L, l.text.length <= 4) : ∀ ks : List Rx, (∀ x, ay x = true -> x.syms.length <= 64) -> ∀ b : Bool, (∀ x ∈ ks, ay x = true) -> ((ed L b ks).length : Int) <= 340 * ah ks
 |[], hv6, b, hv => by simp [ed, ah]
 |r :: rs, hv6, b, hv => by
  have h1 := pX hL r hv6 (hv r (by simp))
  have h2 := uJ hL rs hv6 (jI L r) (fun x hx => hv x (by simp [hx]))
  rw [ed, ah]
  have h3 : ((iy L b r (aF L r)).length : Int) <= 340 * av r := by
   unfold iy
   split
   ·rename_i hst
    simp only [Bool.and_eq_true] at hst
    have hk : r.kind = 5 := of_decide_eq_true (by have := hst.2; unfold jE at this; simp only [Bool.and_eq_true] at this; exact this.1)
    have hvr := hv r (by simp)
    obtain ⟨y, hy, hvy⟩ := q8 hvr hk
    have h4 : (jB L (ak r.kids 0).syms).length <= 322 := vF hL (by rw [hy]; exact hv6 y hvy)
    have h5 : 1 <= av r := cO r
    simp
    omega
   ·split
    ·simp; omega
    ·omega
  simp
  omega
theorem wM {L : List Lt} (hL : ∀ l ∈ L, l.text.length <= 4) : ∀ ks : List Rx, (∀ x, ay x = true -> x.syms.length <= 64) -> ∀ b : Bool, (∀ x ∈ ks, ay x = true) -> ((dU L b ks).length : Int) <= 340 * ah ks
 |[], hv6, b, hv => by simp [dU, ah]
 |r :: rs, hv6, b, hv => by
  have h1 := pX hL r hv6 (hv r (by simp))
  have h2 := wM hL rs hv6 false (fun x hx => hv x (by simp [hx]))
  rw [dU, ah]
  cases b <;> simp <;> omega
theorem D8 {L : List Lt} (hL : ∀ l ∈ L, l.text.length <= 4) : ∀ ks : List Rx, (∀ x, ay x = true -> x.syms.length <= 64) -> (∀ x ∈ ks, ay x = true) -> ((kI L ks).length : Int) <= 340 * ah ks
 |[], hv6, hv => by simp [kI, ah]
 |r :: rs, hv6, hv => by
  have h1 := pX hL r hv6 (hv r (by simp))
  have h2 := dN rs
  rw [kI, ah]
  split <;> simp <;> omega
end
end Rgx
theorem y8 : (Tryz.prog.info? 92).map (·.size) = some 3 := by kernel_rfl
theorem Af (r : Rx) (hc : av r <= 1000000) (A B : Option Addr) (n c m d : Nat) (w : World) (h : aC w r A n c B m d) (hd : DB w) (L : List Lt) (AL : Option Addr) (N cN : Nat) (hN : N = L.length) (hNc : N <= cN) (hcm : cN <= 9223372036854775807) (hL : Rd w AL (lv L)) (V : Bool) (hV6 : V = true -> N <= 60 /\ 1 <= N /\ ∀ l ∈ L, l.text.length <= 4) (hVA : ∀ W, Below w.heap.size w W -> Calls Tryz.prog 43 #[.slice AL N cN] W (aI W V)) (hv : ay r = false) : Calls Tryz.prog 35 #[.agg #[.int .i64 r.kind, .slice A n c, .slice B m d], .slice AL N cN] w (fun e w' => e = .returned (.string (tb (ib V L r))) /\ Below w.heap.size w w') := by
 obtain ⟨K, hK⟩ : ∃ K, K = r.kind := ⟨_, rfl⟩;have hb1 : Below w.heap.size w (w.alloc (zC K A n c B m d)) := ag w _;have hbk : aa (w.alloc (zC K A n c B m d)) w.heap.size (zV K A n c B m d) 25 := aa.at w _ _ 25 _ rfl rfl;have hrx := aM hbk;rw [<- hK];have HVL : Hid (Calls Tryz.prog 14 #[.agg #[.int .i64 K, .slice A n c, .slice B m d]] (w.alloc (zC K A n c B m d)) (aI (w.alloc (zC K A n c B m d)) false)) := Lh (jw hK (h.below hb1) false hv.symm);have HE : Hid (tb (ib V L r) = (⟨#[]⟩ : ByteArray)) := Lh (by unfold ib; rw [if_neg (by rw [hv]; simp)]; rfl);have HB := Lh hb1;rw [HE.out];clear h hd hN hNc hcm hL hV6 hVA hv hK hb1 hbk hc;go_enter Tryz.func35, Tryz.ntmps35
 go_wp2_with (first
  |(refine aA rfl (.tmp 2) rfl w.heap.size (0) rfl K A B n c m d hrx ?_)
  |((with_reducible refine HVL.out.mono ?_); rintro e w2 hp; obtain ⟨rfl, hb⟩ := aN hp; have H2 : Hid (Below w.heap.size w w2) := Lh (ae HB.out hb); clear hp hb))
 go_ret;exact ⟨rfl, H2.out⟩
theorem Ga (r : Rx) (hc : av r <= 1000000) (A B : Option Addr) (n c m d : Nat) (w : World) (h : aC w r A n c B m d) (hd : DB w) (L : List Lt) (AL : Option Addr) (N cN : Nat) (hN : N = L.length) (hNc : N <= cN) (hcm : cN <= 9223372036854775807) (hL : Rd w AL (lv L)) (V : Bool) (hV6 : V = true -> N <= 60 /\ 1 <= N /\ ∀ l ∈ L, l.text.length <= 4) (hVA : ∀ W, Below w.heap.size w W -> Calls Tryz.prog 43 #[.slice AL N cN] W (aI W V)) (hv : ay r = true) (hVf : V = false) : Calls Tryz.prog 35 #[.agg #[.int .i64 r.kind, .slice A n c, .slice B m d], .slice AL N cN] w (fun e w' => e = .returned (.string (tb (ib V L r))) /\ Below w.heap.size w w') := by
 obtain ⟨K, hK⟩ : ∃ K, K = r.kind := ⟨_, rfl⟩;have hb1 : Below w.heap.size w (w.alloc (zC K A n c B m d)) := ag w _;have hbk : aa (w.alloc (zC K A n c B m d)) w.heap.size (zV K A n c B m d) 25 := aa.at w _ _ 25 _ rfl rfl;have hrx := aM hbk;rw [<- hK];have HVL : Hid (Calls Tryz.prog 14 #[.agg #[.int .i64 K, .slice A n c, .slice B m d]] (w.alloc (zC K A n c B m d)) (aI (w.alloc (zC K A n c B m d)) true)) := Lh (jw hK (h.below hb1) true hv.symm);have HVA : Hid (∀ W, Below w.heap.size w W -> Calls Tryz.prog 43 #[.slice AL N cN] W (aI W false)) := Lh (by rw [hVf] at hVA; exact hVA);have HE : Hid (tb (ib V L r) = (⟨#[]⟩ : ByteArray)) := Lh (by unfold ib; rw [if_neg (by rw [hVf]; simp)]; rfl);have HB := Lh hb1;rw [HE.out];clear h hd hN hL hV6 hVA hv hK hb1 hbk hc hVf;go_enter Tryz.func35, Tryz.ntmps35
 go_wp2_with (first
  |(refine aA rfl (.tmp 2) rfl w.heap.size (0) rfl K A B n c m d hrx ?_)
  |((with_reducible refine HVL.out.mono ?_); rintro e w2 hp; obtain ⟨rfl, hb⟩ := aN hp; have H2 : Hid (Below w.heap.size w w2) := Lh (ae HB.out hb); clear hp hb)
  |((with_reducible refine (HVA.out w2 H2.out).mono ?_); rintro e w3 hp; obtain ⟨rfl, hb⟩ := aN hp; have H3 : Hid (Below w.heap.size w w3) := Lh (ae H2.out hb); clear hp hb))
 go_ret;exact ⟨rfl, H3.out⟩
theorem GK (r : Rx) (hc : av r <= 1000000) (A B : Option Addr) (n c m d : Nat) (w : World) (h : aC w r A n c B m d) (hd : DB w) (L : List Lt) (AL : Option Addr) (N cN : Nat) (hN : N = L.length) (hNc : N <= cN) (hcm : cN <= 9223372036854775807) (hL : Rd w AL (lv L)) (V : Bool) (hV6 : V = true -> N <= 60 /\ 1 <= N /\ ∀ l ∈ L, l.text.length <= 4) (hVA : ∀ W, Below w.heap.size w W -> Calls Tryz.prog 43 #[.slice AL N cN] W (aI W V)) (hv : ay r = true) (hVt : V = true) : Calls Tryz.prog 35 #[.agg #[.int .i64 r.kind, .slice A n c, .slice B m d], .slice AL N cN] w (fun e w' => e = .returned (.string (tb (ib V L r))) /\ Below w.heap.size w w') := by
 obtain ⟨K, hK⟩ : ∃ K, K = r.kind := ⟨_, rfl⟩;have hb1 : Below w.heap.size w (w.alloc (zC K A n c B m d)) := ag w _;have hbk : aa (w.alloc (zC K A n c B m d)) w.heap.size (zV K A n c B m d) 25 := aa.at w _ _ 25 _ rfl rfl;have hrx := aM hbk;rw [<- hK];have hV := hV6 hVt;have HVL : Hid (Calls Tryz.prog 14 #[.agg #[.int .i64 K, .slice A n c, .slice B m d]] (w.alloc (zC K A n c B m d)) (aI (w.alloc (zC K A n c B m d)) true)) := Lh (jw hK (h.below hb1) true hv.symm);have HVA : Hid (∀ W, Below w.heap.size w W -> Calls Tryz.prog 43 #[.slice AL N cN] W (aI W true)) := Lh (by rw [hVt] at hVA; exact hVA);obtain ⟨x, hx⟩ : ∃ x, x = normR false r := ⟨_, rfl⟩;have hnf : NF x := by rw [hx]; exact NF.normR false hv
 have hcx : av x <= 1000000 := by rw [hx]; have := kM false hv; omega
 have hlx : (aF L x).length <= 340000000 := by have h1 := pX hV.2.2 x (fun x hx => yc hx) hnf.val; omega
 obtain ⟨F, hF⟩ : ∃ F, F = aO L x := ⟨_, rfl⟩;have HE : Hid (ib V L r = if F = true then [] else aF L x) := Lh (by
  unfold ib;rw [<- hx, <- hF]
  cases F with
  |true => rw [if_neg (by simp), if_pos rfl]
  |false => rw [if_pos ⟨hv, hVt, rfl⟩, if_neg (by simp)])
 have HB : Hid (Below w.heap.size w (w.alloc (zC K A n c B m d)) /\ aa (w.alloc (zC K A n c B m d)) w.heap.size (zV K A n c B m d) 25) := Lh ⟨hb1, hbk⟩;have HNR : Hid (∀ W pb, Below (w.alloc (zC K A n c B m d)).heap.size (w.alloc (zC K A n c B m d)) W -> w.heap.size <= pb -> pb < W.heap.size -> Calls Tryz.prog 51 #[.agg #[.int .i64 K, .slice A n c, .slice B m d]] W (fun e w' => ∃ K5 A5 n5 c5 B5 m5 d5, e = .returned (.agg #[.int .i64 K5, .slice A5 n5 c5, .slice B5 m5 d5]) /\ K5 = x.kind /\ ai (fun b => b ≠ pb /\ some b ≠ Value.ownBlock (.slice none 0 0)) w' x A5 n5 c5 B5 m5 d5 /\ Below W.heap.size W w')) := Lh fun W pb hb0 h1 h2 => by
  have hb : Below w.heap.size w W := ae hb1 hb0;exact (qD (p := fun b => b < pb) (fun b hb => by omega) (hd.below hb) r hK hv (by omega) ((h.toP.mono (q := fun b => b < pb) fun b hb => by omega).below hb)).mono fun e w' hp => by
   obtain ⟨A5, n5, c5, B5, m5, d5, rfl, g1, g2⟩ := bV hp;rw [<- hx] at g1 ⊢;exact ⟨_, A5, n5, c5, B5, m5, d5, rfl, rfl, g1.mono fun b hb => ⟨by omega, fun e => by cases e⟩, g2⟩
 have HLK : Hid (∀ W pb, Below w.heap.size w W -> w.heap.size <= pb -> dY W pb AL N cN L) := Lh fun W pb hb h1 => ⟨hN, hNc, hcm, hV.1, hL.below hb, fun b o e => by
  obtain ⟨b', o', e', hrl⟩ := mf hL (List.ne_nil_of_length_pos (by omega));rw [e'] at e;obtain ⟨rfl, rfl⟩ : b' = b /\ o' = o := by simpa using e
  have h9 : b' < w.heap.size := World.block_lt_of_cell? w _ (hrl.c0 (k := 0) (by omega) rfl);omega, fun l hl => by have := hV.2.2 l hl; omega⟩
 have HST : Hid (∀ W w4, Below (w.alloc (zC K A n c B m d)).heap.size (w.alloc (zC K A n c B m d)) W -> aK (W.alloc (.cells #[.slice none 0 0, .slice none 0 0, .bool false] 92)) w4 W.heap.size [.slice AL N cN, .slice none 0 0, .bool false] 92 -> dh W.heap.size (.slice none 0 0) AL N cN false [] w4 /\ Below (w.alloc (zC K A n c B m d)).heap.size (w.alloc (zC K A n c B m d)) w4 /\ w4.rangeAt w.heap.size 0 (zV K A n c B m d) /\ W.heap.size < w4.heap.size /\ w.heap.size <= W.heap.size) := Lh fun W w4 hb hst => by
  have hbw : Below W.heap.size W w4 := hst.below (ag W _) (Nat.le_refl _);have hb4 := ae hb hbw;have h1 := hb.size;have h2 := hbk.lt;exact ⟨⟨hst.1, World.ownsRow_nil _ _ _ _⟩, hb4, aM (hbk.below hb4 hbk.lt), hst.1.lt, by omega⟩
 have HEX : Hid (∀ (W w4 w5 : World) K5 A5 n5 c5 B5 m5 d5, (dh W.heap.size (.slice none 0 0) AL N cN false [] w4 /\ Below (w.alloc (zC K A n c B m d)).heap.size (w.alloc (zC K A n c B m d)) w4 /\ w4.rangeAt w.heap.size 0 (zV K A n c B m d) /\ W.heap.size < w4.heap.size /\ w.heap.size <= W.heap.size) -> K5 = x.kind -> ai (fun b => b ≠ W.heap.size /\ some b ≠ Value.ownBlock (.slice none 0 0)) w5 x A5 n5 c5 B5 m5 d5 -> Below w4.heap.size w4 w5 -> Calls Tryz.prog 72 #[.pointer (some ⟨W.heap.size, 0, none⟩), .agg #[.int .i64 K5, .slice A5 n5 c5, .slice B5 m5 d5]] w5 (aH W.heap.size (.slice none 0 0) AL N cN (false || aO L x) ([] ++ aF L x) w5)) := Lh fun W w4 w5 K5 A5 n5 c5 B5 m5 d5 g1 g2 g3 g4 => mY (rX _ x (Nat.le_refl _) hnf.val) g2 (g1.1.below g4) (HLK.out w5 _ (ae (ae hb1 g1.2.1) g4) g1.2.2.2.2) g3 (by simp; omega)
 have HFI : Hid (∀ (W w4 w5 w6 : World) e, (dh W.heap.size (.slice none 0 0) AL N cN false [] w4 /\ Below (w.alloc (zC K A n c B m d)).heap.size (w.alloc (zC K A n c B m d)) w4 /\ w4.rangeAt w.heap.size 0 (zV K A n c B m d) /\ W.heap.size < w4.heap.size /\ w.heap.size <= W.heap.size) -> Below w4.heap.size w4 w5 -> aH W.heap.size (.slice none 0 0) AL N cN (false || aO L x) ([] ++ aF L x) w5 e w6 -> e = .returned (.tuple #[]) /\ Below w.heap.size w w6 /\ w6.cell? ⟨W.heap.size, 2, none⟩ = some (.bool F) /\ ∃ A6 c6, w6.cell? ⟨W.heap.size, 1, none⟩ = some (.slice A6 (aF L x).length c6) /\ (convert 45 9 (.slice A6 (aF L x).length c6)).run Tryz.prog w6 = .ok (.string (tb (aF L x))) w6) := Lh fun W w4 w5 w6 e g1 g4 hp => by
  obtain ⟨he, v6, k1, k2, k3⟩ := iw hp;rw [Bool.false_or, <- hF, List.nil_append] at k1;have hb5 : Below w.heap.size w w5 := ae (ae hb1 g1.2.1) g4;have hs5 := hb5.size;obtain ⟨A6, c6, hv6, hr6, _⟩ := Rd.of_own k1.row;subst hv6;exact ⟨he, ⟨k2.os.trans hb5.os, k2.tape.trans hb5.tape, k2.output.trans hb5.output, Nat.le_trans hs5 k2.size, fun k hk => (k2.block k (by omega) (by have := g1.2.2.2.2; omega) (fun e => by cases e)).trans (hb5.block k hk)⟩, k1.box.cell (j := 2) rfl, A6, c6, k1.box.cell (j := 1) rfl, Gw Tryz.underlying45 Tryz.underlying5 Tryz.underlying9 hr6 c6⟩
 obtain ⟨M6, hM6⟩ : ∃ M, M = (aF L x).length := ⟨_, rfl⟩;obtain ⟨TX, hTX⟩ : ∃ t, t = tb (aF L x) := ⟨_, rfl⟩;rw [<- hM6, <- hTX] at HFI;have HE2 : Hid (F = false -> tb (ib V L r) = TX) := Lh fun e => by rw [HE.out, e, if_neg (by simp), hTX]
 have HE1 : Hid (F = true -> tb (ib V L r) = (⟨#[]⟩ : ByteArray)) := Lh fun e => by rw [HE.out, if_pos e]; rfl
 obtain ⟨RS, hRS⟩ : ∃ s, s = tb (ib V L r) := ⟨_, rfl⟩;rw [<- hRS] at HE1 HE2 ⊢;clear h hd hN hL hV6 hVA hv hK hb1 hbk hc hVt hx hnf hcx hlx hF HE hM6 hTX hRS hV
 cases F with
 |true =>
  have HR : Hid (RS = (⟨#[]⟩ : ByteArray)) := Lh (HE1.out rfl);rw [HR.out];go_enter Tryz.func35, Tryz.ntmps35
  go_wp2_with (first
   |(refine aA rfl (.tmp 2) rfl w.heap.size (0) rfl K A B n c m d hrx ?_)
   |((with_reducible refine HVL.out.mono ?_); rintro e w2 hp; obtain ⟨rfl, hb⟩ := aN hp; have H2 := Lh hb; clear hp hb)
   |((with_reducible refine (HVA.out w2 (ae HB.out.1 H2.out)).mono ?_); rintro e w3 hp; obtain ⟨rfl, hb⟩ := aN hp; have H3 : Hid (Below (w.alloc (zC K A n c B m d)).heap.size (w.alloc (zC K A n c B m d)) w3) := Lh (ae H2.out hb); clear hp hb)
   |(refine wB rfl 92 (.tmp 5) (.tmp 15) rfl w3.heap.size 0 rfl [.slice AL N cN, .slice none 0 0, .bool false] rfl (aa.new' w3 [.slice none 0 0, .slice none 0 0, .bool false] _ 92 rfl) 3 y8 ?_; intro w4 hst4; have H4 := Lh (HST.out w3 w4 H3.out hst4); have hrx4 := H4.out.2.2.1; clear hst4)
   |(refine aA rfl (.tmp 2) rfl w.heap.size (0) rfl K A B n c m d hrx4 ?_)
   |((with_reducible refine (HNR.out w4 w3.heap.size H4.out.2.1 H4.out.2.2.2.2 H4.out.2.2.2.1).mono ?_); rintro e w5 ⟨K5, A5, n5, c5, B5, m5, d5, rfl, hk5, hx5, hb5⟩; have HEX5 := Lh (HEX.out w3 w4 w5 K5 A5 n5 c5 B5 m5 d5 H4.out hk5 hx5 hb5); have H5 := Lh hb5; clear hk5 hx5 hb5)
   |((with_reducible refine HEX5.out.mono ?_); rintro e w6 hp; obtain ⟨rfl, hb6, hc62, A6, c6, hc61, hcv⟩ := HFI.out w3 w4 w5 w6 e H4.out H5.out hp; have H6 := Lh hb6; clear hp hb6))
  go_ret;exact ⟨rfl, H6.out⟩
 |false =>
  have HR : Hid (RS = TX) := Lh (HE2.out rfl);rw [HR.out];go_enter Tryz.func35, Tryz.ntmps35
  go_wp2_with (first
   |(refine aA rfl (.tmp 2) rfl w.heap.size (0) rfl K A B n c m d hrx ?_)
   |((with_reducible refine HVL.out.mono ?_); rintro e w2 hp; obtain ⟨rfl, hb⟩ := aN hp; have H2 := Lh hb; clear hp hb)
   |((with_reducible refine (HVA.out w2 (ae HB.out.1 H2.out)).mono ?_); rintro e w3 hp; obtain ⟨rfl, hb⟩ := aN hp; have H3 : Hid (Below (w.alloc (zC K A n c B m d)).heap.size (w.alloc (zC K A n c B m d)) w3) := Lh (ae H2.out hb); clear hp hb)
   |(refine wB rfl 92 (.tmp 5) (.tmp 15) rfl w3.heap.size 0 rfl [.slice AL N cN, .slice none 0 0, .bool false] rfl (aa.new' w3 [.slice none 0 0, .slice none 0 0, .bool false] _ 92 rfl) 3 y8 ?_; intro w4 hst4; have H4 := Lh (HST.out w3 w4 H3.out hst4); have hrx4 := H4.out.2.2.1; clear hst4)
   |(refine aA rfl (.tmp 2) rfl w.heap.size (0) rfl K A B n c m d hrx4 ?_)
   |((with_reducible refine (HNR.out w4 w3.heap.size H4.out.2.1 H4.out.2.2.2.2 H4.out.2.2.2.1).mono ?_); rintro e w5 ⟨K5, A5, n5, c5, B5, m5, d5, rfl, hk5, hx5, hb5⟩; have HEX5 := Lh (HEX.out w3 w4 w5 K5 A5 n5 c5 B5 m5 d5 H4.out hk5 hx5 hb5); have H5 := Lh hb5; clear hk5 hx5 hb5)
   |((with_reducible refine HEX5.out.mono ?_); rintro e w6 hp; obtain ⟨rfl, hb6, hc62, A6, c6, hc61, hcv⟩ := HFI.out w3 w4 w5 w6 e H4.out H5.out hp; have H6 := Lh hb6; clear hp hb6))
  go_ret;exact ⟨rfl, H6.out⟩
theorem Eu (r : Rx) (hc : av r <= 1000000) (A B : Option Addr) (n c m d : Nat) (w : World) (h : aC w r A n c B m d) (hd : DB w) (L : List Lt) (AL : Option Addr) (N cN : Nat) (hN : N = L.length) (hNc : N <= cN) (hcm : cN <= 9223372036854775807) (hL : Rd w AL (lv L)) (V : Bool) (hV6 : V = true -> N <= 60 /\ 1 <= N /\ ∀ l ∈ L, l.text.length <= 4) (hVA : ∀ W, Below w.heap.size w W -> Calls Tryz.prog 43 #[.slice AL N cN] W (aI W V)) : Calls Tryz.prog 35 #[.agg #[.int .i64 r.kind, .slice A n c, .slice B m d], .slice AL N cN] w (fun e w' => e = .returned (.string (tb (ib V L r))) /\ Below w.heap.size w w') := by
 cases hv : ay r with
 |false => exact Af r hc A B n c m d w h hd L AL N cN hN hNc hcm hL V hV6 hVA hv
 |true =>
  cases hV9 : V with
  |false => subst hV9; exact Ga r hc A B n c m d w h hd L AL N cN hN hNc hcm hL false hV6 hVA hv rfl
  |true => subst hV9; exact GK r hc A B n c m d w h hd L AL N cN hN hNc hcm hL true hV6 hVA hv rfl
namespace Rgx
def ik (X : Lx) : Nat -> Nat -> List Rx -> PS -> Option (Rx × PS)
 |0, _, _, _ => none
 |f + 1, t, ks, Q =>
  if t = 0 then
   if Q.k = 124 then
    match ik X f 1 [] (bg X Q) with
    |some (r, Q1) => ik X f 0 (ks ++ [r]) Q1
    |none => none
   else some (.mk 4 [] ks, Q)
  else if t = 1 then
   if Q.k = 2 \/ Q.k = 40 then
    match ik X f 3 [] Q with
    |some (a, Q0) =>
     match ik X f 2 [a] Q0 with
     |some (r, Q1) => ik X f 1 (ks ++ [r]) Q1
     |none => none
    |none => none
   else some (.mk 3 [] ks, Q)
  else if t = 2 then
   if ks.length = 1 then
    if Q.k = 42 then ik X f 2 [.mk 5 [] [ks.headD (.mk 0 [] [])]] (bg X Q)
    else if Q.k = 63 then ik X f 2 [.mk 4 [] [.mk 1 [] [], ks.headD (.mk 0 [] [])]] (bg X Q)
    else some (ks.headD (.mk 0 [] []), Q)
   else none
  else if t = 3 then
   if ks.length = 0 then
    if Q.k = 2 then some (Q.x, bg X Q)
    else if Q.k = 40 then
     match ik X f 1 [] (bg X Q) with
     |some (r, Q0) =>
      match ik X f 0 [r] Q0 with
      |some (x, Q1) => if Q1.k = 41 then some (x, bg X Q1) else some (x, kC Q1)
      |none => none
     |none => none
    else none
   else none
  else none
theorem qE (X : Lx) : ∀ (f t : Nat) (ks : List Rx) (Q : PS) (x : Rx) (Q1 : PS), ik X f t ks Q = some (x, Q1) -> PR X t ks Q x Q1
 |0, t, ks, Q, x, Q1, h => by rw [ik] at h; cases h
 |f + 1, t, ks, Q, x, Q1, h => by
  have ih := qE X f;rw [ik] at h
  by_cases h0 : t = 0
  ·subst h0;rw [if_pos rfl] at h
   by_cases hk : Q.k = 124
   ·rw [if_pos hk] at h
    split at h
    ·rename_i r Q2 e
     exact .altGo hk (ih _ _ _ _ _ e) (ih _ _ _ _ _ h)
    ·cases h
   ·rw [if_neg hk] at h
    cases h
    exact .altEnd hk
  rw [if_neg h0] at h
  by_cases h1 : t = 1
  ·subst h1;rw [if_pos rfl] at h
   by_cases hk : Q.k = 2 \/ Q.k = 40
   ·rw [if_pos hk] at h
    split at h
    ·rename_i a Q0 e
     split at h
     ·rename_i r Q2 e2
      exact .seqGo hk (ih _ _ _ _ _ e) (ih _ _ _ _ _ e2) (ih _ _ _ _ _ h)
     ·cases h
    ·cases h
   ·rw [if_neg hk] at h
    cases h
    exact .seqEnd hk
  rw [if_neg h1] at h
  by_cases h2 : t = 2
  ·subst h2;rw [if_pos rfl] at h
   by_cases hl : ks.length = 1
   ·obtain ⟨r, rfl⟩ : ∃ r, ks = [r] := by
     match ks, hl with
     |[r], _ => exact ⟨r, rfl⟩
    rw [if_pos hl] at h
    by_cases hk : Q.k = 42
    ·rw [if_pos hk] at h;exact .star hk (ih _ _ _ _ _ h)
    rw [if_neg hk] at h
    by_cases hk2 : Q.k = 63
    ·rw [if_pos hk2] at h;exact .opt hk2 (ih _ _ _ _ _ h)
    rw [if_neg hk2] at h
    cases h
    exact .none hk hk2
   ·rw [if_neg hl] at h
    cases h
  rw [if_neg h2] at h
  by_cases h3 : t = 3
  ·subst h3;rw [if_pos rfl] at h
   by_cases hl : ks.length = 0
   ·obtain rfl : ks = [] := List.eq_nil_of_length_eq_zero hl;rw [if_pos hl] at h
    by_cases hk : Q.k = 2
    ·rw [if_pos hk] at h
     cases h
     exact .atom hk
    rw [if_neg hk] at h
    by_cases hk2 : Q.k = 40
    ·rw [if_pos hk2] at h
     split at h
     ·rename_i r Q0 e
      split at h
      ·rename_i y Q2 e2
       by_cases h41 : Q2.k = 41
       ·rw [if_pos h41] at h
        cases h
        exact .paren hk2 (ih _ _ _ _ _ e) (ih _ _ _ _ _ e2) h41
       ·rw [if_neg h41] at h
        cases h
        exact .bad hk2 (ih _ _ _ _ _ e) (ih _ _ _ _ _ e2) h41
      ·cases h
     ·cases h
    ·rw [if_neg hk2] at h
     cases h
   ·rw [if_neg hl] at h
    cases h
  ·rw [if_neg h3] at h
   cases h
def fA (X : Lx) (f : Nat) : Option (Rx × PS) :=
 match ik X f 1 [] (bg X ⟨0, .mk 0 [] [], 0, 0⟩) with
 |some (r, Q0) => ik X f 0 [r] Q0
 |none => none
theorem yR {X : Lx} {f : Nat} {x : Rx} {Q : PS} (h : fA X f = some (x, Q)) : eH X (bg X ⟨0, .mk 0 [] [], 0, 0⟩) x Q := by
 unfold fA at h
 split at h
 ·rename_i r Q0 e
  exact ⟨r, Q0, qE _ _ _ _ _ _ _ e, qE _ _ _ _ _ _ _ h⟩
 ·cases h
theorem G5 {X : Lx} {f : Nat} {r : Rx} {Q : PS} (h : fA X f = some (r, Q)) (hk : Q.k = 1) {x : Rx} {v : Int} (hp : jv X x v) : x = bJ r /\ v = -1 := by
 obtain ⟨r', Q1, h1, h2, h3⟩ := hp;obtain ⟨rfl, rfl⟩ := (yR h).one h1;exact h2 hk
theorem EY {X : Lx} {f : Nat} {r : Rx} {Q : PS} (h : fA X f = some (r, Q)) (hk : Q.k ≠ 1) {x : Rx} {v : Int} (hp : jv X x v) : x = .mk 0 [] [] /\ v = Q.st := by
 obtain ⟨r', Q1, h1, h2, h3⟩ := hp;obtain ⟨rfl, rfl⟩ := (yR h).one h1;exact h3 hk
def fI : List Lt := [⟨[97], 0, 0, 0, 1⟩, ⟨[98], 1, 0, 0, 1⟩, ⟨[99], 2, 0, 0, 1⟩]
def fo (w : World) (s : Alp.B) : Lx := ⟨fI, [], s, none, 0, 0, none, 0, 0, w, 0, 0, 0, 0, 0⟩
def o7 : Alp.B := [97, 40, 98, 124, 99, 41, 42]
def dK : Rx := .mk 3 [] [.mk 2 [0] [], .mk 5 [] [.mk 2 [1, 2] []]]
def fu : Rx := .mk 5 [] [.mk 2 [1, 2] []]
end Rgx
def sK (r : Option (Rx × PS)) : Rx := match r with | some (x, _) => x | none => .mk 9 [] []
def kY (r : Option (Rx × PS)) : Nat := match r with | some (_, Q) => Q.k | none => 9
def mW (r : Option (Rx × PS)) : Nat := match r with | some (_, Q) => Q.st | none => 9
theorem yE {r : Option (Rx × PS)} (h : r.isSome = true) : ∃ x Q, r = some (x, Q) /\ sK r = x /\ kY r = Q.k /\ mW r = Q.st := by
 match r, h with
 |some (x, Q), _ => exact ⟨x, Q, rfl, rfl, rfl, rfl⟩
theorem Dy (w : World) : (fA (fo w o7) 40).isSome = true /\ kY (fA (fo w o7) 40) = 1 /\ bJ (sK (fA (fo w o7) 40)) = dK := by
 refine ⟨?_, ?_, ?_⟩ <;> kernel_rfl
theorem ER (w : World) : (fA (fo w [97, 41]) 40).isSome = true /\ kY (fA (fo w [97, 41]) 40) = 41 /\ mW (fA (fo w [97, 41]) 40) = 1 := by
 refine ⟨?_, ?_, ?_⟩ <;> kernel_rfl
theorem Gc (w : World) : (fA (fo w [40, 97]) 40).isSome = true /\ kY (fA (fo w [40, 97]) 40) = 0 /\ mW (fA (fo w [40, 97]) 40) = 2 := by
 refine ⟨?_, ?_, ?_⟩ <;> kernel_rfl
theorem FL (w : World) : (fA (fo w [97, 42, 98, 124, 42]) 40).isSome = true /\ kY (fA (fo w [97, 42, 98, 124, 42]) 40) = 42 /\ mW (fA (fo w [97, 42, 98, 124, 42]) 40) = 4 := by
 refine ⟨?_, ?_, ?_⟩ <;> kernel_rfl
theorem fo.par {w : World} {s : Alp.B} {X : Lx} (hL : X.L = fI) (hS : X.S = []) (hs : X.s = s) {x : Rx} {v : Int} (h : jv X x v) : jv (fo w s) x v := h.same hL hS hs
theorem Ej {s : Alp.B} {x0 : Rx} (h : ∀ w, (fA (fo w s) 40).isSome = true /\ kY (fA (fo w s) 40) = 1 /\ bJ (sK (fA (fo w s) 40)) = x0) (w : World) {X : Lx} (hL : X.L = fI) (hS : X.S = []) (hs : X.s = s) {x : Rx} {v : Int} (hp : jv X x v) : x = x0 /\ v = -1 := by
 obtain ⟨h1, h2, h3⟩ := h w;obtain ⟨r, Q, e, e1, e2, _⟩ := yE h1;have h4 := G5 e (by rw [<- e2]; exact h2) (fo.par (w := w) hL hS hs hp);rw [<- h3, e1];exact h4
theorem rJ {s : Alp.B} {k t : Nat} (hk : k ≠ 1) (h : ∀ w, (fA (fo w s) 40).isSome = true /\ kY (fA (fo w s) 40) = k /\ mW (fA (fo w s) 40) = t) (w : World) {X : Lx} (hL : X.L = fI) (hS : X.S = []) (hs : X.s = s) {x : Rx} {v : Int} (hp : jv X x v) : x = .mk 0 [] [] /\ v = t := by
 obtain ⟨h1, h2, h3⟩ := h w;obtain ⟨r, Q, e, _, e2, e3⟩ := yE h1;have h4 := EY e (by rw [<- e2, h2]; exact hk) (fo.par (w := w) hL hS hs hp);rw [<- h3, e3];exact h4
theorem uT : jS fI = true := by kernel_rfl
theorem EN : ib true fI dK = o7 := by kernel_rfl
theorem pO : ay dK = true := by kernel_rfl
theorem Eg : (ay dK && aL dK) = false := by kernel_rfl
theorem BJ : (ay fu && aL fu) = true := by kernel_rfl
theorem y9 : fZ 0 dK = fu := by kernel_rfl
theorem BK : fZ 1 dK = .mk 0 [] [] := by kernel_rfl
def nW : Rx := .mk 4 [] [.mk 1 [] [], fu]
theorem Fz : bJ nW = fu := by kernel_rfl
def livZ : Rx := .mk 3 [] [.mk 5 [] [.mk 2 [1, 2] []], .mk 2 [0] []]
theorem BF : bJ (aV dK) = livZ := by kernel_rfl
theorem rQ {r : Rx} (h : ay r = true) : ∀ l : List Int, bf r l ↔ aL (l.foldl (fun x s => cZ s x) r) = true := by
 intro l
 induction l generalizing r with
 |nil => exact (lN _).symm
 |cons s l ih =>
  rw [List.foldl_cons, <- ih (qL s h)];exact (Cb s h l).symm
theorem GA : true = true ↔ (ay dK = true /\ bf dK [0, 1, 2, 1]) := ⟨fun _ => ⟨pO, (rQ pO _).2 (by kernel_rfl)⟩, fun _ => rfl⟩
theorem E8 : false = true ↔ (ay dK = true /\ bf dK [1]) := ⟨fun h => (by cases h), fun h => (rQ pO _).1 h.2 |>.symm.trans (by kernel_rfl) |>.symm⟩
theorem kS : av dK = 4 /\ av fu = 2 /\ av nW = 4 := by refine ⟨?_, ?_, ?_⟩ <;> kernel_rfl
theorem Dr {w : World} {ops : Array Oper} {rest : List Oper} {o : Oper} {a : Act} {Q : Exit -> Act -> World -> Prop} (hgd : o.guard = none) (m : Operand) (hop : o.op = Op.call { callee := Callee.builtin Builtin.len, args := #[m], argTypes := #[98] })
  (mb : Nat) (hm : a.eval m = .map (some mb)) {L : List Lt} (hM : eU w mb L)
  (h : ∀ s : Nat, s <= L.length -> (s = L.length ↔ (ic L).Nodup) -> wpList Tryz.prog ops Q rest (a.put o.dst (.int .i64 (s : Int))) w) : wpList Tryz.prog ops Q (o :: rest) a w := by
 obtain ⟨D, n, h1, _, _, _, h5, h6⟩ := hM;exact wpList_len_own w hgd m 98 hop 9 3 Tryz.underlying98 _ mb n D hm h1 (h _ h5 h6)
theorem Dn {L : List Lt} (h : L.length < 1 \/ 60 < L.length) : jS L = false := by
 rw [Bool.eq_false_iff];intro e;have := (pq L).1 e;omega
theorem zP {L : List Lt} {k : Nat} (hk : k < L.length) (h : ko L k = false) : jS L = false := by
 rw [Bool.eq_false_iff];intro e;have := ((pq L).1 e).2.2.1 k hk;rw [h] at this
 cases this
theorem Du {L : List Lt} (h : ¬ (ic L).Nodup) : jS L = false := by
 rw [Bool.eq_false_iff];intro e;exact h ((pq L).1 e).2.2.2
def mU (w : World) (L : List Lt) (b : Bool) (e : Ending) (w' : World) : Prop := ∃ m, e = .returned (.tuple #[.map m, .bool b]) /\ Below w.heap.size w w' /\ (b = true -> ∃ g, m = some g /\ eU w' g L)
theorem AR {w w' : World} {L : List Lt} {e : Ending} (h : mU w L false e w') : ∃ m, e = .returned (.tuple #[.map m, .bool false]) /\ Below w.heap.size w w' := by
 obtain ⟨m, h1, h2, _⟩ := h;exact ⟨m, h1, h2⟩
theorem Dm {w w' : World} {L : List Lt} {e : Ending} (h : mU w L true e w') : ∃ m, e = .returned (.tuple #[.map (some m), .bool true]) /\ eU w' m L /\ Below w.heap.size w w' := by
 obtain ⟨_, h1, h2, h3⟩ := h;obtain ⟨g, rfl, h4⟩ := h3 rfl;exact ⟨g, h1, h4, h2⟩
theorem EM (L : List Lt) (A : Option Addr) (n c : Nat) (hn : n < 1 \/ 60 < n) (hc : n <= c) (hm : c <= maxLen) (w : World) :
  Calls Tryz.prog 77 #[.slice A n c] w (mU w L false) := by
 rcases hn with h | h
 ·go_enter Tryz.func77, Tryz.ntmps77;go_wp2_with fail
  go_ret2
  exact ⟨none, rfl, Below.refl _ _, fun h => by cases h⟩
 ·go_enter Tryz.func77, Tryz.ntmps77;go_wp2_with fail
  go_ret2
  exact ⟨none, rfl, Below.refl _ _, fun h => by cases h⟩
theorem Em (L : List Lt) (n b o c : Nat) (hn : n = L.length) (h1 : 1 <= n) (h2 : n <= 60) (hc : n <= c) (hm : c <= maxLen) (hs : ∀ l ∈ L, l.text.length <= maxLen) (V : Bool) (hV : V = jS L) (w : World) (hr : RL w b o L) :
  Calls Tryz.prog 77 #[.slice (some ⟨b, o, none⟩) n c] w (mU w L V) := by
 have HL : Hid (∀ k, k < n -> ∀ W, Below w.heap.size w W -> Calls Tryz.prog 113 #[.slice (some ⟨b, o, none⟩) n c, .int .i64 (k : Int)] W (aI W (ko L k))) := Lh fun k hk W hb => DT L n c b o k hn hk hc hm hs W (hr.below hb)
 have HM : Hid (∀ W, Below w.heap.size w W -> Calls Tryz.prog 114 #[.slice (some ⟨b, o, none⟩) n c] W (oN W L)) := Lh fun W hb => zm L n hn b o c hc hm hs W (hr.below hb)
 have HN := Lh hn;have HV := Lh hV;clear hn hV hr hs;go_enter Tryz.func77, Tryz.ntmps77;go_wp2_with fail
 go_loopg [4, 16] n (fun g s4 s16 wr => ∃ (k : Nat), k + g = n /\ s16 = .int .i64 (k : Int) /\ Hid ((∀ j, j < k -> ko L j = true) /\ Below w.heap.size w wr))
 case atStart => exact ⟨0, by omega, rfl, Lh ⟨fun j h => by omega, Below.refl _ _⟩⟩
 case round =>
  obtain ⟨k, hk, rfl, HI⟩ := hrel
  by_cases hlt : k < n
  ·obtain ⟨g, rfl⟩ : ∃ g, gk = g + 1 := ⟨gk - 1, by omega⟩;have HC := Lh (HL.out k hlt wr HI.out.2)
   cases hl : ko L k
   ·rw [hl] at HC;have HE : Hid (V = false) := Lh (by rw [HV.out]; exact zP (by rw [<- HN.out]; exact hlt) hl);clear hl
    go_wp2_with ((with_reducible refine HC.out.mono ?_); rintro e w1 hb1; obtain ⟨rfl, hb2⟩ := aN hb1; have HB : Hid (Below w.heap.size w w1) := Lh (ae HI.out.2 hb2); clear hb1 hb2)
    go_ret2
    rw [HE.out];exact ⟨none, rfl, HB.out, fun h => by cases h⟩
   ·rw [hl] at HC;have HE := Lh hl;clear hl
    go_wp2_with ((with_reducible refine HC.out.mono ?_); rintro e w1 hb1; obtain ⟨rfl, hb2⟩ := aN hb1; have HB : Hid (Below w.heap.size w w1) := Lh (ae HI.out.2 hb2); clear hb1 hb2)
    go_roundg g
    case rel => exact ⟨k + 1, by omega, by go_num, Lh ⟨fun j hj => by
     rcases Nat.lt_or_ge j k with h | h
     · exact HI.out.1 j h
     · obtain rfl : j = k := by omega
       exact HE.out, HB.out⟩⟩
    case measure => omega
  ·obtain rfl : k = n := by omega
   have HC := Lh (HM.out wr HI.out.2)
   go_wp2_with (first
    |((with_reducible refine HC.out.mono ?_); rintro e w1 hb1; obtain ⟨m, rfl, hm1, hm2, hb2⟩ := Ez hb1; have HB : Hid (eU w1 m L /\ Below w.heap.size w w1) := Lh ⟨hm2, ae HI.out.2 hb2⟩; clear hb1 hb2 hm1 hm2)
    |(at_len; refine Dr rfl (.tmp 27) rfl m rfl HB.out.1 ?_; intro s hs1 hs2; have HS := Lh (And.intro hs1 hs2); clear hs1 hs2))
   go_ret2
   have hv : V = decide ((s : Int) = (k : Int)) := by
    rw [HV.out]
    by_cases hd : (ic L).Nodup
    ·rw [(pq L).2 ⟨by rw [<- HN.out]; exact h1, by rw [<- HN.out]; exact h2, fun j hj => HI.out.1 j (by rw [HN.out]; exact hj), hd⟩, dT];have := HS.out.2.2 hd;have := HN.out;omega
    ·rw [Du hd, dF];intro e;exact hd (HS.out.2.1 (by have := HN.out; omega))
   refine ⟨some m, ?_, HB.out.2, fun _ => ⟨m, rfl, HB.out.1⟩⟩;rw [hv]
   rfl
theorem EK (L : List Lt) (A : Option Addr) (n c : Nat) (hn : n = L.length) (hc : n <= c) (hm : c <= maxLen) (hs : ∀ l ∈ L, l.text.length <= maxLen) (V : Bool) (hV : V = jS L) (w : World) (hr : Rd w A (lv L)) :
  Calls Tryz.prog 77 #[.slice A n c] w (mU w L V) := by
 by_cases h0 : n < 1 \/ 60 < n
 ·rw [hV, Dn (by rw [<- hn]; exact h0)];exact EM L A n c h0 hc hm w
 ·obtain ⟨b, o, rfl, h⟩ := mf hr (by intro e; subst e; simp at hn; omega);exact Em L n b o c hn (by omega) (by omega) hc hm hs V hV w h
theorem uX (L : List Lt) (A : Option Addr) (n c : Nat) (hn : n = L.length) (hc : n <= c) (hm : c <= maxLen) (hs : ∀ l ∈ L, l.text.length <= maxLen) (V : Bool) (hV : V = jS L) (w : World) (hr : Rd w A (lv L)) :
  Calls Tryz.prog 43 #[.slice A n c] w (aI w V) := by
 have HC := Lh (EK L A n c hn hc hm hs V hV w hr);clear hn hr hs
 cases V
 ·clear hV;go_enter Tryz.func43, Tryz.ntmps43
  go_wp2_with ((with_reducible refine HC.out.mono ?_); rintro e w1 hb1; obtain ⟨m, rfl, hb2⟩ := AR hb1; have HB := Lh hb2; clear hb1 hb2)
  go_ret;exact ⟨rfl, HB.out⟩
 ·clear hV;go_enter Tryz.func43, Tryz.ntmps43
  go_wp2_with ((with_reducible refine HC.out.mono ?_); rintro e w1 hb1; obtain ⟨m, rfl, _, hb2⟩ := Dm hb1; have HB := Lh hb2; clear hb1 hb2)
  go_ret;exact ⟨rfl, HB.out⟩
theorem Cx (w : World) : Calls Tryz.prog 54 #[] w fun e w' => ∃ g, e = .returned (.slice (some ⟨g, 0, none⟩) 3 3) /\ Rd w' (some ⟨g, 0, none⟩) (lv fI) /\ Below w.heap.size w w' := by
 have HB : Hid (aa (w.alloc (.cells #[.string ⟨#[97]⟩, .int .i64 0, .int .i64 0, .int .i64 0, .int .i64 1, .string ⟨#[98]⟩, .int .i64 1, .int .i64 0, .int .i64 0, .int .i64 1, .string ⟨#[99]⟩, .int .i64 2, .int .i64 0, .int .i64 0, .int .i64 1] 90)) w.heap.size [.string ⟨#[97]⟩, .int .i64 0, .int .i64 0, .int .i64 0, .int .i64 1, .string ⟨#[98]⟩, .int .i64 1, .int .i64 0, .int .i64 0, .int .i64 1, .string ⟨#[99]⟩, .int .i64 2, .int .i64 0, .int .i64 0, .int .i64 1] 90) := Lh (aa.at w _ _ 90 _ rfl rfl);go_enter Tryz.func54, Tryz.ntmps54;go_wp2_with fail;go_ret;exact ⟨w.heap.size, rfl, .inr ⟨w.heap.size, 0, rfl, fun k v hv => by rw [Nat.zero_add]; exact HB.out.cell (j := k) hv⟩, ag _ _⟩
theorem qA : ∀ l ∈ fI, l.text.length <= 4 := by decide
theorem pg (s : Alp.B) (hs : s.length <= 1024) (x0 : Rx) (v0 : Int) (hp : ∀ (X : Lx) (x : Rx) (v : Int), X.L = fI -> X.S = [] -> X.s = s -> jv X x v -> x = x0 /\ v = v0) (g : Nat) (w : World) (hL : Rd w (some ⟨g, 0, none⟩) (lv fI)) (hd : DB w) : Calls Tryz.prog 32 #[.string (tb s), .slice (some ⟨g, 0, none⟩) 3 3, .slice none 0 0] w fun e w' => ∃ A n c B m d, e = .returned (.tuple #[.agg #[.int .i64 x0.kind, .slice A n c, .slice B m d], .int .i64 v0]) /\ aC w' x0 A n c B m d /\ Below w.heap.size w w' := by
 refine (EU fI [] (some ⟨g, 0, none⟩) none 3 3 0 0 s (by omega) true w rfl (Nat.le_refl _) (by decide) ⟨rfl, Nat.le_refl _, Nat.zero_le _, .inl rfl⟩ hL (fun _ => ⟨by decide, fun l hl => by have := qA l hl; omega⟩) hd (fun W hb => ?_)).mono fun e w' h => ?_
 ·exact uX fI (some ⟨g, 0, none⟩) 3 3 rfl (Nat.le_refl _) (by unfold maxLen; decide) (fun l hl => by have := qA l hl; unfold maxLen; omega) true uT.symm W (hL.below hb)
 ·obtain ⟨x, v, A, n, c, B, m, d, rfl, h1, h2, _, _, h3⟩ := h;obtain ⟨X, e1, e2, e3, h4⟩ := h3 rfl hs;obtain ⟨rfl, rfl⟩ := hp X x v e1 e2 e3 h4;exact ⟨A, n, c, B, m, d, rfl, h1.o, h2⟩
theorem Ev (g : Nat) (A B : Option Addr) (n c m d : Nat) (w : World) (h : aC w dK A n c B m d) (hL : Rd w (some ⟨g, 0, none⟩) (lv fI)) (hd : DB w) : Calls Tryz.prog 35 #[.agg #[.int .i64 3, .slice A n c, .slice B m d], .slice (some ⟨g, 0, none⟩) 3 3] w fun e w' => e = .returned (.string ⟨#[97, 40, 98, 124, 99, 41, 42]⟩) /\ Below w.heap.size w w' := by
 refine (Eu dK (by have := kS.1; omega) A B n c m d w h hd fI (some ⟨g, 0, none⟩) 3 3 rfl (Nat.le_refl _) (by decide) hL true (fun _ => ⟨by decide, by decide, qA⟩) (fun W hb => ?_)).mono fun e w' h => ?_
 ·exact uX fI (some ⟨g, 0, none⟩) 3 3 rfl (Nat.le_refl _) (by unfold maxLen; decide) (fun l hl => by have := qA l hl; unfold maxLen; omega) true uT.symm W (hL.below hb)
 ·rw [EN] at h;exact h
structure bU (w W : World) (g bx br : Nat) (Ax : Option Addr) (nx cx : Nat) (Bx : Option Addr) (mx dx b5 : Nat) : Prop where
 rx : W.rangeAt bx 0 (zV 3 Ax nx cx Bx mx dx)
 rr : W.rangeAt br 0 (zV 5 none 0 0 (some ⟨b5, 0, none⟩) 1 1)
 ox : aC W dK Ax nx cx Bx mx dx
 orr : aC W fu none 0 0 (some ⟨b5, 0, none⟩) 1 1
 rd : Rd W (some ⟨g, 0, none⟩) (lv fI)
 db : DB W
 bl : Below w.heap.size w W
theorem bU.below {w W W2 : World} {g bx br : Nat} {Ax : Option Addr} {nx cx : Nat} {Bx : Option Addr} {mx dx b5 : Nat} (h : bU w W g bx br Ax nx cx Bx mx dx b5) (hb : Below W.heap.size W W2) : bU w W2 g bx br Ax nx cx Bx mx dx b5 := ⟨fun j u hu => (hb.cell (p := ⟨bx, 0 + j, none⟩) (World.block_lt_of_cell? W _ (h.rx j u hu))).trans (h.rx j u hu), fun j u hu => (hb.cell (p := ⟨br, 0 + j, none⟩) (World.block_lt_of_cell? W _ (h.rr j u hu))).trans (h.rr j u hu), h.ox.below hb, h.orr.below hb, h.rd.below hb, h.db.below hb, ae h.bl hb⟩
theorem oO {w : World} {b : Nat} {s : List Int} {T : TypeId} (h : aa w b (iv s) T) (hi : ∀ x ∈ s, bI x) (hl : s.length <= 1000000000) : ai (fun _ => True) w (.mk 2 s []) (some ⟨b, 0, none⟩) s.length s.length none 0 0 :=
 ai.make (by constructor <;> decide) hi rfl (Nat.le_refl _) (by unfold maxLen; omega) (.inr ⟨b, 0, rfl, fun k v hv => by rw [Nat.zero_add]; exact h.cell hv⟩) (fun _ _ _ _ => trivial) rfl (Nat.le_refl _) (Nat.zero_le _) (fun i hi => absurd hi (by simp)) (fun h => absurd rfl h)
theorem Aa {w : World} {b4 b5 : Nat} (h4 : aa w b4 [.int .i64 1, .int .i64 2] 3) (h5 : aa w b5 (zV 2 (some ⟨b4, 0, none⟩) 2 2 none 0 0) 25) : aC w fu none 0 0 (some ⟨b5, 0, none⟩) 1 1 := by
 have h1 := oO (s := [1, 2]) h4 (by intro x hx; constructor <;> simp at hx <;> omega) (by decide);exact (jm (q := fun _ => True) 5 (by constructor <;> decide) (aG.one h1.q) (by decide) h5 trivial).o
theorem Ao {w : World} {b9 b10 b5 : Nat} (hr : aC w fu none 0 0 (some ⟨b5, 0, none⟩) 1 1) (h9 : aa w b9 [.int .i64 0] 3) (h10 : aa w b10 [.int .i64 2, .slice (some ⟨b9, 0, none⟩) 1 1, .slice none 0 0, .int .i64 5, .slice none 0 0, .slice (some ⟨b5, 0, none⟩) 1 1] 25) : aC w dK none 0 0 (some ⟨b10, 0, none⟩) 2 2 := by
 have h1 := oO (s := [0]) h9 (by intro x hx; constructor <;> simp at hx <;> omega) (by decide);exact (jm (q := fun _ => True) 3 (by constructor <;> decide) (aG.app (aG.one h1.q) (aG.one (hr.toP.mono (q := fun _ => True) fun _ _ => trivial).q)) (by decide) h10 trivial).o
theorem Ei {w : World} {b10 b5 : Nat} (hr : aC w fu none 0 0 (some ⟨b5, 0, none⟩) 1 1) (h10 : aa w b10 [.int .i64 1, .slice none 0 0, .slice none 0 0, .int .i64 5, .slice none 0 0, .slice (some ⟨b5, 0, none⟩) 1 1] 25) : aC w nW none 0 0 (some ⟨b10, 0, none⟩) 2 2 :=
 (jm (q := fun _ => True) 4 (by constructor <;> decide) (aG.app (aG.one (ai.flat _ w (K := 1) (by constructor <;> decide)).q) (aG.one (hr.toP.mono (q := fun _ => True) fun _ _ => trivial).q)) (by decide) h10 trivial).o
section
variable {w W : World} {g bx br : Nat} {Ax : Option Addr} {nx cx : Nat} {Bx : Option Addr} {mx dx b5 : Nat}
theorem AX (h : bU w W g bx br Ax nx cx Bx mx dx b5) : Calls Tryz.prog 14 #[.agg #[.int .i64 3, .slice Ax nx cx, .slice Bx mx dx]] W (aI W true) := jw (r := dK) rfl h.ox true pO.symm
theorem CF (h : bU w W g bx br Ax nx cx Bx mx dx b5) : Calls Tryz.prog 16 #[.agg #[.int .i64 3, .slice Ax nx cx, .slice Bx mx dx]] W (aI W false) := vQ dK h.ox false Eg.symm
theorem zl (h : bU w W g bx br Ax nx cx Bx mx dx b5) : Calls Tryz.prog 16 #[.agg #[.int .i64 5, .slice none 0 0, .slice (some ⟨b5, 0, none⟩) 1 1]] W (aI W true) := vQ fu h.orr true BJ.symm
theorem EO (h : bU w W g bx br Ax nx cx Bx mx dx b5) {A B : Option Addr} {n c m d : Nat} (h1 : aC W fu A n c B m d) : Calls Tryz.prog 18 #[.agg #[.int .i64 5, .slice A n c, .slice B m d], .agg #[.int .i64 5, .slice none 0 0, .slice (some ⟨b5, 0, none⟩) 1 1]] W (aI W true) := pF (r := fu) (t := fu) rfl rfl true (by kernel_rfl) h1 h.orr
theorem Gn (h : bU w W g bx br Ax nx cx Bx mx dx b5) {b : Nat} (h1 : aC W nW none 0 0 (some ⟨b, 0, none⟩) 2 2) : Calls Tryz.prog 19 #[.agg #[.int .i64 4, .slice none 0 0, .slice (some ⟨b, 0, none⟩) 2 2]] W (fun e w' => ∃ A n c B m d, e = .returned (.agg #[.int .i64 5, .slice A n c, .slice B m d]) /\ aC w' fu A n c B m d /\ Below W.heap.size W w') := (qi h.db nW (by have := kS.2.2; omega) h1).mono fun e w' hp => by
 rw [Fz] at hp;obtain ⟨A, n, c, B, m, d, rfl, hx, hb⟩ := bV hp;exact ⟨A, n, c, B, m, d, rfl, hx.o, hb⟩
theorem BC (K : Int) (v1 v2 : Value) (w : World) : (Instr.field 25 (.agg #[.int .i64 K, v1, v2]) 0).run Tryz.prog w = .ok (.int .i64 K) w := by kernel_rfl
theorem zw (h : bU w W g bx br Ax nx cx Bx mx dx b5) : Calls Tryz.prog 24 #[.agg #[.int .i64 3, .slice Ax nx cx, .slice Bx mx dx], .int .i64 1] W (fun e w' => ∃ A n c B m d, e = .returned (.agg #[.int .i64 0, .slice A n c, .slice B m d]) /\ Below W.heap.size W w') := (rG h.db 1 dK (by have := kS.1; omega) h.ox).mono fun e w' hp => by
 rw [BK] at hp;obtain ⟨A, n, c, B, m, d, rfl, hx, hb⟩ := bV hp;exact ⟨A, n, c, B, m, d, rfl, hb⟩
theorem zt (h : bU w W g bx br Ax nx cx Bx mx dx b5) : Calls Tryz.prog 21 #[.agg #[.int .i64 3, .slice Ax nx cx, .slice Bx mx dx]] W (fun e w' => ∃ A n c B d, e = .returned (.agg #[.int .i64 3, .slice A n c, .slice B 2 d]) /\ Below W.heap.size W w') := (wE h.db dK (by have := kS.1; omega) h.ox).mono fun e w' hp => by
 rw [BF] at hp;obtain ⟨A, n, c, B, m, d, rfl, hx, hb⟩ := bV hp;obtain rfl : m = 2 := hx.o.mlen;exact ⟨A, n, c, B, d, rfl, hb⟩
end
theorem Gz (w : World) (hd : DB w) : Calls Tryz.prog 23 #[] w (aI w true) := by
 have HDB := Lh hd;have HABC := Lh (Cx w);have HP0 : Hid (∀ g W, Rd W (some ⟨g, 0, none⟩) (lv fI) -> DB W -> Calls Tryz.prog 32 #[.string ⟨#[97, 40, 98, 124, 99, 41, 42]⟩, .slice (some ⟨g, 0, none⟩) 3 3, .slice none 0 0] W (fun e w' => ∃ A n c B m d, e = .returned (.tuple #[.agg #[.int .i64 3, .slice A n c, .slice B m d], .int .i64 (-1)]) /\ aC w' dK A n c B m d /\ Below W.heap.size W w')) := Lh fun g W hL hd => pg [97, 40, 98, 124, 99, 41, 42] (by decide) dK (-1) (fun X x v a b c d => Ej Dy w a b c d) g W hL hd
 have HP1 : Hid (∀ g W, Rd W (some ⟨g, 0, none⟩) (lv fI) -> DB W -> Calls Tryz.prog 32 #[.string ⟨#[97, 41]⟩, .slice (some ⟨g, 0, none⟩) 3 3, .slice none 0 0] W (fun e w' => ∃ A n c B m d, e = .returned (.tuple #[.agg #[.int .i64 0, .slice A n c, .slice B m d], .int .i64 1]) /\ aC w' (.mk 0 [] []) A n c B m d /\ Below W.heap.size W w')) := Lh fun g W hL hd => pg [97, 41] (by decide) (.mk 0 [] []) 1 (fun X x v a b c d => rJ (by decide) ER w a b c d) g W hL hd
 have HP2 : Hid (∀ g W, Rd W (some ⟨g, 0, none⟩) (lv fI) -> DB W -> Calls Tryz.prog 32 #[.string ⟨#[40, 97]⟩, .slice (some ⟨g, 0, none⟩) 3 3, .slice none 0 0] W (fun e w' => ∃ A n c B m d, e = .returned (.tuple #[.agg #[.int .i64 0, .slice A n c, .slice B m d], .int .i64 2]) /\ aC w' (.mk 0 [] []) A n c B m d /\ Below W.heap.size W w')) := Lh fun g W hL hd => pg [40, 97] (by decide) (.mk 0 [] []) 2 (fun X x v a b c d => rJ (by decide) Gc w a b c d) g W hL hd
 have HP3 : Hid (∀ g W, Rd W (some ⟨g, 0, none⟩) (lv fI) -> DB W -> Calls Tryz.prog 32 #[.string ⟨#[97, 42, 98, 124, 42]⟩, .slice (some ⟨g, 0, none⟩) 3 3, .slice none 0 0] W (fun e w' => ∃ A n c B m d, e = .returned (.tuple #[.agg #[.int .i64 0, .slice A n c, .slice B m d], .int .i64 4]) /\ aC w' (.mk 0 [] []) A n c B m d /\ Below W.heap.size W w')) := Lh fun g W hL hd => pg [97, 42, 98, 124, 42] (by decide) (.mk 0 [] []) 4 (fun X x v a b c d => rJ (by decide) FL w a b c d) g W hL hd
 clear hd;go_enter Tryz.func23, Tryz.ntmps23
 go_upto_region 4 with (first
  |((with_reducible refine HABC.out.mono ?_); rintro e w1 ⟨g, rfl, hL1, hb1⟩; have H1 : Hid (Rd w1 (some ⟨g, 0, none⟩) (lv fI) /\ Below w.heap.size w w1) := Lh ⟨hL1, hb1⟩; have HC1 := Lh (HP0.out g w1 hL1 (HDB.out.below hb1)); clear hL1 hb1)
  |((with_reducible refine HC1.out.mono ?_); rintro e w2 ⟨Ax, nx, cx, Bx, mx, dx, rfl, hx, hb2⟩; have H2 : Hid (aC w2 dK Ax nx cx Bx mx dx /\ Below w1.heap.size w1 w2) := Lh ⟨hx, hb2⟩; clear hx hb2)
  |(refine wB rfl 25 (.tmp 2) (.tmp 17) rfl w2.heap.size 0 rfl (zV 3 Ax nx cx Bx mx dx) rfl (aa.new' w2 zL _ 25 rfl) 3 au ?_; intro w3 hst9; have Hw3 : Hid (aa w3 w2.heap.size (zV 3 Ax nx cx Bx mx dx) 25 /\ Below w2.heap.size w2 w3) := Lh (aZ hst9); clear hst9; skip)
  |((with_reducible refine (lM (some ⟨w3.heap.size, 0, none⟩) 2 2 (w3.alloc (.cells #[.int .i64 1, .int .i64 2] 3))).mono ?_); rintro e w5 ⟨rfl, hb5⟩; have H5 : Hid (Below (w3.alloc (.cells #[.int .i64 1, .int .i64 2] 3)).heap.size (w3.alloc (.cells #[.int .i64 1, .int .i64 2] 3)) w5) := Lh hb5; clear hb5)
  |((with_reducible refine (iB 5 (some ⟨w5.heap.size, 0, none⟩) 1 1 (w5.alloc (zC 2 (some ⟨w3.heap.size, 0, none⟩) 2 2 none 0 0))).mono ?_); rintro e w7 ⟨rfl, hb7⟩; have H7 : Hid (Below (w5.alloc (zC 2 (some ⟨w3.heap.size, 0, none⟩) 2 2 none 0 0)).heap.size (w5.alloc (zC 2 (some ⟨w3.heap.size, 0, none⟩) 2 2 none 0 0)) w7) := Lh hb7; clear hb7)
  |(refine wB rfl 25 (.tmp 4) (.tmp 22) rfl w7.heap.size 0 rfl (zV 5 none 0 0 (some ⟨w5.heap.size, 0, none⟩) 1 1) rfl (aa.new' w7 zL _ 25 rfl) 3 au ?_; intro w8 hst9; have Hw8 : Hid (aa w8 w7.heap.size (zV 5 none 0 0 (some ⟨w5.heap.size, 0, none⟩) 1 1) 25 /\ Below w7.heap.size w7 w8) := Lh (aZ hst9); clear hst9; skip))
 obtain ⟨b5, hb5⟩ : ∃ b, b = w5.heap.size := ⟨_, rfl⟩;obtain ⟨bx, hbx⟩ : ∃ b, b = w2.heap.size := ⟨_, rfl⟩;obtain ⟨br, hbr⟩ : ∃ b, b = w7.heap.size := ⟨_, rfl⟩;have HL8 : Hid (bU w w8 g bx br Ax nx cx Bx mx dx b5) := Lh (by
  have a3 : Below w2.heap.size w2 w3 := Hw3.out.2;have a4 : Below w3.heap.size w3 (w3.alloc (.cells #[.int .i64 1, .int .i64 2] 3)) := ag _ _;have k4 : aa (w3.alloc (.cells #[.int .i64 1, .int .i64 2] 3)) w3.heap.size [.int .i64 1, .int .i64 2] 3 := aa.at w3 _ _ 3 _ rfl rfl;have a6 : Below w5.heap.size w5 (w5.alloc (zC 2 (some ⟨w3.heap.size, 0, none⟩) 2 2 none 0 0)) := ag _ _;have k6 : aa (w5.alloc (zC 2 (some ⟨w3.heap.size, 0, none⟩) 2 2 none 0 0)) w5.heap.size (zV 2 (some ⟨w3.heap.size, 0, none⟩) 2 2 none 0 0) 25 := aa.at w5 _ _ 25 _ rfl rfl;have a8 : Below w7.heap.size w7 w8 := Hw8.out.2;have b58 : Below (w5.alloc (zC 2 (some ⟨w3.heap.size, 0, none⟩) 2 2 none 0 0)).heap.size (w5.alloc (zC 2 (some ⟨w3.heap.size, 0, none⟩) 2 2 none 0 0)) w8 := ae H7.out a8;have b48 : Below (w3.alloc (.cells #[.int .i64 1, .int .i64 2] 3)).heap.size (w3.alloc (.cells #[.int .i64 1, .int .i64 2] 3)) w8 := ae (ae H5.out a6) b58;have b38 : Below w3.heap.size w3 w8 := ae a4 b48;have b28 : Below w2.heap.size w2 w8 := ae a3 b38;have b18 : Below w1.heap.size w1 w8 := ae H2.out.2 b28;rw [hb5, hbx, hbr];exact ⟨aM (Hw3.out.1.below b38 Hw3.out.1.lt), aM Hw8.out.1, H2.out.1.below b28, Aa (k4.below b48 k4.lt) (k6.below b58 k6.lt), H1.out.1.below b18, HDB.out.below (ae H1.out.2 b18), ae H1.out.2 b18⟩)
 rw [<- hb5, <- hbx, <- hbr];clear hb5 hbx hbr;clear H1 HC1 H2 Hw3 H5 H7 Hw8;have HL9 : Hid (bU w w8.drew g bx br Ax nx cx Bx mx dx b5) := Lh (HL8.out.below (below_drewN (Below.refl _ _) 1));refine wp_region_held_drew (S := fun w' => w'.rangeAt bx 0 (zV 3 Ax nx cx Bx mx dx) /\ w'.rangeAt br 0 (zV 5 none 0 0 (some ⟨b5, 0, none⟩) 1 1)) (by kernel_rfl) (⟨HL9.out.rx, HL9.out.rr⟩) (fun hS0 => ?_);refine aJ 0 ?_;refine aJ 1 ?_;refine aJ 2 ?_;refine wX 3 rfl (yieldsIf_load_mid (by rfl) _ _ rfl _ _ rfl _ _ (fun w h => h.1) Tryz.underlying25 rfl au) ?_;refine wX 6 rfl (yieldsIf_load_mid (by rfl) _ _ rfl _ _ rfl _ _ (fun w h => h.2) Tryz.underlying25 rfl au) ?_;refine wpAnyH_ready (rs := [4]) (by kernel_rfl) (by simp) ?_;refine wA rfl (fun KK hK => ?_) AllReadyH.nil
 go_simp;have HLX9 : Hid (bU w (w8.alloc (.cells #[.int .i64 0] 3)).drew g bx br Ax nx cx Bx mx dx b5 /\ aa (w8.alloc (.cells #[.int .i64 0] 3)).drew w8.heap.size [.int .i64 0] 3) := Lh ⟨HL8.out.below (ag _ _).drew, aa.at w8 _ _ 3 _ rfl rfl⟩;have HLY9 := Lh HLX9.out.1;refine hK.out _ _ ⟨HLY9.out.rx, HLY9.out.rr⟩ (fun hS1 => ?_);clear hK KK hS0;(try simp only [Act.put, pP]);refine wpAnyH_ready (rs := [5]) (by kernel_rfl) (by simp) ?_;refine wA rfl (fun KK hK => ?_) AllReadyH.nil
 go_simp;go_at_call 55;refine (lM (some ⟨w8.heap.size, 0, none⟩) 1 1 (w8.alloc (.cells #[.int .i64 0] 3)).drew).mono ?_;rintro e w10 ⟨rfl, hb10⟩;have HL10 : Hid (bU w w10 g bx br Ax nx cx Bx mx dx b5) := Lh (HLY9.out.below hb10);have HK10 : Hid (aa w10 w8.heap.size [.int .i64 0] 3) := Lh (HLX9.out.2.below hb10 HLX9.out.2.lt);clear hb10;refine hK.out _ _ ⟨HL10.out.rx, HL10.out.rr⟩ (fun hS2 => ?_);clear hK KK hS1;(try simp only [Act.put, pP]);refine wpAnyH_ready (rs := [7]) (by kernel_rfl) (by simp) ?_;refine wA rfl (fun KK hK => ?_) AllReadyH.nil
 go_simp;have HL11 : Hid (bU w (w10.alloc (.cells #[.int .i64 2, .slice (some ⟨w8.heap.size, 0, none⟩) 1 1, .slice none 0 0, .int .i64 5, .slice none 0 0, .slice (some ⟨b5, 0, none⟩) 1 1] 25)) g bx br Ax nx cx Bx mx dx b5) := Lh (HL10.out.below (ag _ _));have HK11 : Hid (aa (w10.alloc (.cells #[.int .i64 2, .slice (some ⟨w8.heap.size, 0, none⟩) 1 1, .slice none 0 0, .int .i64 5, .slice none 0 0, .slice (some ⟨b5, 0, none⟩) 1 1] 25)) w8.heap.size [.int .i64 0] 3 /\ aa (w10.alloc (.cells #[.int .i64 2, .slice (some ⟨w8.heap.size, 0, none⟩) 1 1, .slice none 0 0, .int .i64 5, .slice none 0 0, .slice (some ⟨b5, 0, none⟩) 1 1] 25)) w10.heap.size [.int .i64 2, .slice (some ⟨w8.heap.size, 0, none⟩) 1 1, .slice none 0 0, .int .i64 5, .slice none 0 0, .slice (some ⟨b5, 0, none⟩) 1 1] 25) := Lh ⟨HK10.out.below (ag _ _) HK10.out.lt, aa.at w10 _ _ 25 _ rfl rfl⟩;refine hK.out _ _ ⟨HL11.out.rx, HL11.out.rr⟩ (fun hS3 => ?_);clear hK KK hS2;(try simp only [Act.put, pP]);refine wpAnyH_ready (rs := [8]) (by kernel_rfl) (by simp) ?_;refine wA rfl (fun KK hK => ?_) AllReadyH.nil
 go_simp;go_at_call 40;refine (iB 3 (some ⟨w10.heap.size, 0, none⟩) 2 2 (w10.alloc (.cells #[.int .i64 2, .slice (some ⟨w8.heap.size, 0, none⟩) 1 1, .slice none 0 0, .int .i64 5, .slice none 0 0, .slice (some ⟨b5, 0, none⟩) 1 1] 25))).mono ?_;rintro e w12 ⟨rfl, hb12⟩;have HL12 : Hid (bU w w12 g bx br Ax nx cx Bx mx dx b5) := Lh (HL11.out.below hb12);have HK12 : Hid (aC w12 dK none 0 0 (some ⟨w10.heap.size, 0, none⟩) 2 2) := Lh (Ao HL12.out.orr (HK11.out.1.below hb12 HK11.out.1.lt) (HK11.out.2.below hb12 HK11.out.2.lt));clear hb12;refine hK.out _ _ ⟨HL12.out.rx, HL12.out.rr⟩ (fun hS4 => ?_);clear hK KK hS3;(try simp only [Act.put, pP]);refine wpAnyH_ready (rs := [9]) (by kernel_rfl) (by simp) ?_;refine wA rfl (fun KK hK => ?_) AllReadyH.nil
 go_simp;go_at_call 18;refine (pF (r := dK) (t := dK) rfl rfl true (by kernel_rfl) HL12.out.ox HK12.out).mono ?_;rintro e w13 hp;obtain ⟨rfl, hb13⟩ := aN hp;have HL13 : Hid (bU w w13 g bx br Ax nx cx Bx mx dx b5) := Lh (HL12.out.below hb13);clear hp hb13;refine hK.out _ _ ⟨HL13.out.rx, HL13.out.rr⟩ (fun hS5 => ?_);clear hK KK hS4;(try simp only [Act.put, pP]);refine aJ 10 ?_;refine aJ 11 ?_;refine wpAnyH_done (by kernel_rfl) ?_ _;clear HL9 HLX9 HLY9 HL10 HK10 HL11 HK11 HL12 HK12 hS5 HL8;have HC1 := Lh (HP1.out g w13 HL13.out.rd HL13.out.db)
 go_upto_region 7 with (first
  |((with_reducible refine HC1.out.mono ?_); rintro e w14 ⟨Ai, ni, ci, Bi, mi, di, rfl, _, hb⟩; have Hw14 : Hid (bU w w14 g bx br Ax nx cx Bx mx dx b5) := Lh (HL13.out.below hb); clear hb)
  |(refine wB rfl 25 (.tmp 5) (.tmp 38) rfl w14.heap.size 0 rfl (zV 0 Ai ni ci Bi mi di) rfl (aa.new' w14 zL _ 25 rfl) 3 au ?_; intro w15 hst9; have Hw15 : Hid (aa w15 w14.heap.size (zV 0 Ai ni ci Bi mi di) 25 /\ Below w14.heap.size w14 w15) := Lh (aZ hst9); clear hst9; have HL15 : Hid (bU w w15 g bx br Ax nx cx Bx mx dx b5) := Lh (Hw14.out.below Hw15.out.2); clear Hw15))
 clear HC1 Hw14 HL13;have HC2 := Lh (HP2.out g w15 HL15.out.rd HL15.out.db)
 go_upto_region 8 with (first
  |((with_reducible refine HC2.out.mono ?_); rintro e w16 ⟨Aj, nj, cj, Bj, mj, dj, rfl, _, hb⟩; have Hw16 : Hid (bU w w16 g bx br Ax nx cx Bx mx dx b5) := Lh (HL15.out.below hb); clear hb)
  |(refine wB rfl 25 (.tmp 7) (.tmp 43) rfl w16.heap.size 0 rfl (zV 0 Aj nj cj Bj mj dj) rfl (aa.new' w16 zL _ 25 rfl) 3 au ?_; intro w17 hst9; have Hw17 : Hid (aa w17 w16.heap.size (zV 0 Aj nj cj Bj mj dj) 25 /\ Below w16.heap.size w16 w17) := Lh (aZ hst9); clear hst9; have HL17 : Hid (bU w w17 g bx br Ax nx cx Bx mx dx b5) := Lh (Hw16.out.below Hw17.out.2); clear Hw17))
 clear HC2 Hw16 HL15;have HC3 := Lh (HP3.out g w17 HL17.out.rd HL17.out.db)
 go_upto_region 9 with (first
  |((with_reducible refine HC3.out.mono ?_); rintro e w18 ⟨Ak, nk, ck, Bk, mk, dk, rfl, _, hb⟩; have Hw18 : Hid (bU w w18 g bx br Ax nx cx Bx mx dx b5) := Lh (HL17.out.below hb); clear hb)
  |(refine wB rfl 25 (.tmp 9) (.tmp 48) rfl w18.heap.size 0 rfl (zV 0 Ak nk ck Bk mk dk) rfl (aa.new' w18 zL _ 25 rfl) 3 au ?_; intro w19 hst9; have Hw19 : Hid (aa w19 w18.heap.size (zV 0 Ak nk ck Bk mk dk) 25 /\ Below w18.heap.size w18 w19) := Lh (aZ hst9); clear hst9; have HL19 : Hid (bU w w19 g bx br Ax nx cx Bx mx dx b5) := Lh (Hw18.out.below Hw19.out.2); clear Hw19))
 clear HC3 Hw18 HL17;have HPRT := Lh (Ev g Ax Bx nx cx mx dx w19 HL19.out.ox HL19.out.rd HL19.out.db)
 go_upto_region 11 with (first
  |(refine gu (by rfl) (.tmp 2) rfl bx 0 rfl 3 Ax Bx nx cx mx dx HL19.out.rx ?_)
  |((with_reducible refine HPRT.out.mono ?_); rintro e w20 ⟨rfl, hb⟩; have HL20 : Hid (bU w w20 g bx br Ax nx cx Bx mx dx b5) := Lh (HL19.out.below hb); clear hb)
  |(refine gu (by rfl) (.tmp 2) rfl bx 0 rfl 3 Ax Bx nx cx mx dx HL20.out.rx ?_)
  |((with_reducible refine (AX HL20.out).mono ?_); rintro e w21 hp; obtain ⟨rfl, hb⟩ := aN hp; have HL21 : Hid (bU w w21 g bx br Ax nx cx Bx mx dx b5) := Lh (HL20.out.below hb); clear hp hb)
  |(refine gu (by rfl) (.tmp 2) rfl bx 0 rfl 3 Ax Bx nx cx mx dx HL21.out.rx ?_)
  |((with_reducible refine (CF HL21.out).mono ?_); rintro e w22 hp; obtain ⟨rfl, hb⟩ := aN hp; have HL22 : Hid (bU w w22 g bx br Ax nx cx Bx mx dx b5) := Lh (HL21.out.below hb); clear hp hb)
  |(refine gu (by rfl) (.tmp 4) rfl br 0 rfl 5 none (some ⟨b5, 0, none⟩) 0 0 1 1 HL22.out.rr ?_)
  |((with_reducible refine (zl HL22.out).mono ?_); rintro e w23 hp; obtain ⟨rfl, hb⟩ := aN hp; have HL23 : Hid (bU w w23 g bx br Ax nx cx Bx mx dx b5) := Lh (HL22.out.below hb); clear hp hb))
 clear HPRT HL19 HL20 HL21 HL22;have HL24 : Hid (bU w w23.drew g bx br Ax nx cx Bx mx dx b5) := Lh (HL23.out.below (below_drewN (Below.refl _ _) 1));refine wp_region_held_drew (S := fun w' => w'.rangeAt bx 0 (zV 3 Ax nx cx Bx mx dx) /\ w'.rangeAt br 0 (zV 5 none 0 0 (some ⟨b5, 0, none⟩) 1 1)) (by kernel_rfl) (⟨HL24.out.rx, HL24.out.rr⟩) (fun hS0 => ?_);refine wX 0 rfl (yieldsIf_load_mid (by rfl) _ _ rfl _ _ rfl _ _ (fun w h => h.1) Tryz.underlying25 rfl au) ?_;refine wX 2 rfl (yieldsIf_load_mid (by rfl) _ _ rfl _ _ rfl _ _ (fun w h => h.2) Tryz.underlying25 rfl au) ?_;refine wpAnyH_ready (rs := [1]) (by kernel_rfl) (by simp) ?_;refine wA rfl (fun KK hK => ?_) AllReadyH.nil
 go_simp;go_at_call 24;refine (rG HL24.out.db 0 dK (by have := kS.1; omega) HL24.out.ox).mono ?_;rintro e w25 hp;obtain ⟨Ad, nd, cd, Bd, md, dd, rfl, hx, hb⟩ := bV hp;rw [y9] at hx ⊢;have HL25 : Hid (bU w w25 g bx br Ax nx cx Bx mx dx b5) := Lh (HL24.out.below hb);have HD25 : Hid (aC w25 fu Ad nd cd Bd md dd) := Lh hx.o;clear hp hx hb;refine hK.out _ _ ⟨HL25.out.rx, HL25.out.rr⟩ (fun hS1 => ?_);clear hK KK hS0;(try simp only [Act.put, pP]);refine wpAnyH_ready (rs := [3]) (by kernel_rfl) (by simp) ?_;refine wA rfl (fun KK hK => ?_) AllReadyH.nil
 go_simp;go_at_call 18;refine (pF (r := fu) (t := fu) rfl rfl true (by kernel_rfl) HD25.out HL25.out.orr).mono ?_;rintro e w26 hp;obtain ⟨rfl, hb⟩ := aN hp;have HL26 : Hid (bU w w26 g bx br Ax nx cx Bx mx dx b5) := Lh (HL25.out.below hb);clear hp hb;refine hK.out _ _ ⟨HL26.out.rx, HL26.out.rr⟩ (fun hS2 => ?_);clear hK KK hS1;(try simp only [Act.put, pP]);refine aJ 4 ?_;refine aJ 5 ?_;refine wX 6 rfl (yieldsIf_load_mid (by rfl) _ _ rfl _ _ rfl _ _ (fun w h => h.1) Tryz.underlying25 rfl au) ?_;refine wpAnyH_ready (rs := [7]) (by kernel_rfl) (by simp) ?_;refine wA rfl (fun KK hK => ?_) AllReadyH.nil
 go_simp;go_at_call 24;refine (zw HL26.out).mono ?_;rintro e w27 ⟨Ae, ne, ce, Be, me, de, rfl, hb⟩;have HL27 : Hid (bU w w27 g bx br Ax nx cx Bx mx dx b5) := Lh (HL26.out.below hb);have hk9 := fun W => BC 0 (.slice Ae ne ce) (.slice Be me de) W
 clear hb;refine hK.out _ _ ⟨HL27.out.rx, HL27.out.rr⟩ (fun hS3 => ?_);clear hK KK hS2;(try simp only [Act.put, pP]);refine aJ 8 ?_;refine aJ 9 ?_;refine aJ 10 ?_;refine wpAnyH_done (by kernel_rfl) ?_ _;clear HL24 HL25 HD25 HL26 HL23;have HL28 : Hid (bU w (w27.alloc (.cells #[.int .i64 1, .slice none 0 0, .slice none 0 0, .int .i64 5, .slice none 0 0, .slice (some ⟨b5, 0, none⟩) 1 1] 25)) g bx br Ax nx cx Bx mx dx b5) := Lh (HL27.out.below (ag _ _));have HK28 : Hid (aa (w27.alloc (.cells #[.int .i64 1, .slice none 0 0, .slice none 0 0, .int .i64 5, .slice none 0 0, .slice (some ⟨b5, 0, none⟩) 1 1] 25)) w27.heap.size [.int .i64 1, .slice none 0 0, .slice none 0 0, .int .i64 5, .slice none 0 0, .slice (some ⟨b5, 0, none⟩) 1 1] 25) := Lh (aa.at w27 _ _ 25 _ rfl rfl)
 go_upto_region 15 with (first
  |(refine aA rfl (.tmp 4) rfl br 0 rfl 5 none (some ⟨b5, 0, none⟩) 0 0 1 1 HL27.out.rr ?_)
  |((with_reducible refine (iB 4 (some ⟨w27.heap.size, 0, none⟩) 2 2 (w27.alloc (.cells #[.int .i64 1, .slice none 0 0, .slice none 0 0, .int .i64 5, .slice none 0 0, .slice (some ⟨b5, 0, none⟩) 1 1] 25))).mono ?_); rintro e w29 ⟨rfl, hb⟩; have HL29 : Hid (bU w w29 g bx br Ax nx cx Bx mx dx b5) := Lh (HL28.out.below hb); have HSIM := Lh (Gn HL29.out (Ei HL29.out.orr (HK28.out.below hb HK28.out.lt))); clear hb)
  |((with_reducible refine HSIM.out.mono ?_); rintro e w30 ⟨Ay, ny, cy, By, my, dy, rfl, hx, hb⟩; have HL30 : Hid (bU w w30 g bx br Ax nx cx Bx mx dx b5 /\ aC w30 fu Ay ny cy By my dy) := Lh ⟨HL29.out.below hb, hx⟩; clear hx hb)
  |(refine wB rfl 25 (.tmp 11) (.tmp 95) rfl w30.heap.size 0 rfl (zV 5 Ay ny cy By my dy) rfl (aa.new' w30 zL _ 25 rfl) 3 au ?_; intro w31 hst9; have Hw31 : Hid (aa w31 w30.heap.size (zV 5 Ay ny cy By my dy) 25 /\ Below w30.heap.size w30 w31) := Lh (aZ hst9); clear hst9; have HL31 : Hid (bU w w31 g bx br Ax nx cx Bx mx dx b5 /\ aC w31 fu Ay ny cy By my dy /\ aa w31 w30.heap.size (zV 5 Ay ny cy By my dy) 25) := Lh ⟨HL30.out.1.below Hw31.out.2, HL30.out.2.below Hw31.out.2, Hw31.out.1⟩; have HREV := Lh (zt HL31.out.1); clear Hw31)
  |(refine aA rfl (.tmp 2) rfl bx 0 rfl 3 Ax Bx nx cx mx dx HL31.out.1.rx ?_)
  |((with_reducible refine HREV.out.mono ?_); rintro e w32 ⟨Az, nz, cz, Bz, dz, rfl, hb⟩; have HL32 : Hid (bU w w32 g bx br Ax nx cx Bx mx dx b5 /\ aC w32 fu Ay ny cy By my dy /\ aa w32 w30.heap.size (zV 5 Ay ny cy By my dy) 25) := Lh ⟨HL31.out.1.below hb, HL31.out.2.1.below hb, HL31.out.2.2.below hb HL31.out.2.2.lt⟩; clear hb)
  |(refine wB rfl 25 (.tmp 12) (.tmp 97) rfl w32.heap.size 0 rfl (zV 3 Az nz cz Bz 2 dz) rfl (aa.new' w32 zL _ 25 rfl) 3 au ?_; intro w33 hst9; have Hw33 : Hid (aa w33 w32.heap.size (zV 3 Az nz cz Bz 2 dz) 25 /\ Below w32.heap.size w32 w33) := Lh (aZ hst9); clear hst9; have HL33 : Hid (bU w w33 g bx br Ax nx cx Bx mx dx b5 /\ aC w33 fu Ay ny cy By my dy /\ aa w33 w30.heap.size (zV 5 Ay ny cy By my dy) 25 /\ aa w33 w32.heap.size (zV 3 Az nz cz Bz 2 dz) 25) := Lh ⟨HL32.out.1.below Hw33.out.2, HL32.out.2.1.below Hw33.out.2, HL32.out.2.2.below Hw33.out.2 HL32.out.2.2.lt, Hw33.out.1⟩; clear Hw33))
 clear HL27 HL28 HK28 HL29 HSIM HL30 HL31 HREV HL32;have hy33 := aM HL33.out.2.2.1;have HM34 : Hid (∀ W, Below w33.heap.size w33 W -> bU w W g bx br Ax nx cx Bx mx dx b5 /\ aa W w32.heap.size (zV 3 Az nz cz Bz 2 dz) 25) := Lh fun W hb => ⟨HL33.out.1.below hb, HL33.out.2.2.2.below hb HL33.out.2.2.2.lt⟩
 have HMT4 : Hid (∀ W, Below w33.heap.size w33 W -> Calls Tryz.prog 28 #[.agg #[.int .i64 3, .slice Ax nx cx, .slice Bx mx dx], .slice (some ⟨W.heap.size, 0, none⟩) 4 4] (W.alloc (.cells #[.int .i64 0, .int .i64 1, .int .i64 2, .int .i64 1] 3)) (aI (W.alloc (.cells #[.int .i64 0, .int .i64 1, .int .i64 2, .int .i64 1] 3)) true)) := Lh fun W hb => rz (r := dK) ((HL33.out.1.below hb).below (ag W (.cells #[.int .i64 0, .int .i64 1, .int .i64 2, .int .i64 1] 3))).ox (by have := kS.1; omega) [0, 1, 2, 1] (some ⟨W.heap.size, 0, none⟩) 4 4 rfl (Nat.le_refl _) (by decide) (by decide) (.inr ⟨W.heap.size, 0, rfl, fun k v hv => by rw [Nat.zero_add]; exact (aa.at W _ _ 3 _ rfl rfl).cell (j := k) hv⟩) true GA
 have HMT1 : Hid (∀ W, Below w33.heap.size w33 W -> Calls Tryz.prog 28 #[.agg #[.int .i64 3, .slice Ax nx cx, .slice Bx mx dx], .slice (some ⟨W.heap.size, 0, none⟩) 1 1] (W.alloc (.cells #[.int .i64 1] 3)) (aI (W.alloc (.cells #[.int .i64 1] 3)) false)) := Lh fun W hb => rz (r := dK) ((HL33.out.1.below hb).below (ag W (.cells #[.int .i64 1] 3))).ox (by have := kS.1; omega) [1] (some ⟨W.heap.size, 0, none⟩) 1 1 rfl (Nat.le_refl _) (by decide) (by decide) (.inr ⟨W.heap.size, 0, rfl, fun k v hv => by rw [Nat.zero_add]; exact (aa.at W _ _ 3 _ rfl rfl).cell (j := k) hv⟩) false E8
 go_wp2_with (first
  |(refine aA rfl (.tmp 11) rfl w30.heap.size 0 rfl 5 Ay By ny cy my dy hy33 ?_)
  |(refine aA rfl (.tmp 4) rfl br 0 rfl 5 none (some ⟨b5, 0, none⟩) 0 0 1 1 HL33.out.1.rr ?_)
  |((with_reducible refine (EO HL33.out.1 HL33.out.2.1).mono ?_); rintro e w34 hp; obtain ⟨rfl, hb⟩ := aN hp; have H34 : Hid (Below w33.heap.size w33 w34) := Lh hb; have hx34 := (HM34.out _ hb).1.rx; clear hp hb)
  |(refine gu (by rfl) (.tmp 2) rfl bx 0 rfl 3 Ax Bx nx cx mx dx hx34 ?_)
  |((with_reducible refine (HMT4.out w34 H34.out).mono ?_); rintro e w35 hp; obtain ⟨rfl, hb⟩ := aN hp; have H35 : Hid (Below w33.heap.size w33 w35) := Lh (ae (aB H34.out _) hb); have hx35 := (HM34.out _ H35.out).1.rx; clear hp hb)
  |(refine gu (by rfl) (.tmp 2) rfl bx 0 rfl 3 Ax Bx nx cx mx dx hx35 ?_)
  |((with_reducible refine (HMT1.out w35 H35.out).mono ?_); rintro e w36 hp; obtain ⟨rfl, hb⟩ := aN hp; have H36 : Hid (Below w33.heap.size w33 w36) := Lh (ae (aB H35.out _) hb); have hz0 := (HM34.out _ H36.out).2.cell (j := 0) rfl; have hz2 := (HM34.out _ H36.out).2.cell (j := 2) rfl; clear hp hb))
 go_ret;exact ⟨rfl, (HM34.out _ H36.out).1.bl⟩
section
open Go.ChangeShapes Go.WideShapes Go.ChangeAt Go.RowKit Go.ChangeMaps
open Alp
open Rgx
theorem Tryz.own : ownKnob Tryz.prog.godebug = none := by kernel_rfl
theorem G7 : laidOutB Tryz.prog = true := by kernel_rfl
theorem Hd : Tryz.prog.cellsOf 3 = 1 := by kernel_rfl
section
variable {H : Type} {enc : TypeId × Value -> H}
theorem zk {W W' : World} (hb : Below W.heap.size W W') : ∀ (ts : List TypeId) (vs : List Value) (ds : List (DataW H)) (ps : List MemPlace), (ts.all fun t => Tryz.prog.readableRec t && decide (t < Tryz.prog.types.size)) = true ->
  DataW.TrodAll enc Tryz.prog W 0 (fun _ => true) true ts vs ds ps -> (∀ x ∈ ps, x.block < W.heap.size) -> DataW.TrodAll enc Tryz.prog W' 0 (fun b => decide (b < W.heap.size)) true ts vs ds ps := by
 intro ts
 induction ts with
 |nil =>
  intro vs ds ps _ h _;obtain ⟨rfl, rfl, rfl⟩ := trodAll_nil h;exact trodAll_mk0
 |cons t ts ih =>
  intro vs ds ps hr h hlt;obtain ⟨v, vs', d, ds', p, q, rfl, rfl, rfl, h0, hs⟩ := trodAll_cons h;simp only [List.all_cons, Bool.and_eq_true, decide_eq_true_eq] at hr;exact trodAll_cons_mk (Below.trod G7 hr.1.1 hr.1.2 h0 hb (fun x hx => hlt x (by simp [hx]))) (ih vs' ds' q hr.2 hs (fun x hx => hlt x (by simp [hx])))
theorem vC {W W' : World} {args : Array Value} {ds gs : List (DataW H)} {before : List MemPlace} {f : Func} {s : ChangeSpec} (hv : s.vars = []) (hr : f.resultTypes = #[4])
  (hp : (f.params.toList.all fun t => Tryz.prog.readableRec t && decide (t < Tryz.prog.types.size)) = true) (hW : DataW.Whole enc Tryz.prog f.params.toList s.vars false W args.toList ds gs before)
  (hfn : s.fn H (ds ++ gs) = { results := [.lit (.bool true)], args := ds }) (hb : Below W.heap.size W W') : s.post enc Tryz.prog f false true false false W args (.bool true) W' := by
 have hW' := hW;obtain ⟨p, q, hA, hV, rfl, _, _⟩ := hW;rw [hv] at hV;obtain ⟨rfl, rfl⟩ := trodVars_none hV;refine ⟨ds, [], p ++ [], [] ++ [], p, [], hW', ?_, ?_, ?_, hb.frame _, fun h => by cases h⟩
 ·rw [hfn, hr];exact trodAll_cons_mk (shut_bool Tryz.underlying4 true) trodAll_mk0
 ·rw [hfn];exact zk hb _ _ _ _ hp hA (fun x hx => by have := hW'.lt x (by simp [hx]); simpa using this)
 ·rw [hfn, hv]
  rfl
theorem vH {n : Int} (h : (Lit.int .i64 n).wf = true) : bI n := by
 have h1 : IntKind.i64.min = -9223372036854775808 := rfl;have h2 : IntKind.i64.max = 9223372036854775807 := rfl;simp only [Lit.wf, Bool.and_eq_true, decide_eq_true_eq, h1, h2] at h;exact h
theorem E9 {W : World} {a : Addr} {xs : List Value} (hn : xs ≠ []) (h : ∀ i v, xs[i]? = some v -> W.cell? (a.add i) = some v) : Rd W (some a) xs := by
 obtain ⟨b, o, spot⟩ := a;obtain ⟨x, t, rfl⟩ : ∃ x t, xs = x :: t := by cases xs with | nil => exact absurd rfl hn | cons x t => exact ⟨x, t, rfl⟩
 have hs : spot = none := by simpa [Addr.add] using World.cell?_spot (h 0 x rfl)
 subst hs;refine .inr ⟨b, o, rfl, fun k v hv => ?_⟩;have := h k v hv;have ha : (⟨b, o, none⟩ : Addr).add k = ⟨b, o + k, none⟩ := by unfold Addr.add; split <;> simp_all
 rwa [ha] at this
theorem pz {W : World} {v : Value} {d : DataW H} {ps : List MemPlace} {b0 : Nat} (hval : Value.okWide Tryz.prog W .any b0 22 v) (h : DataW.Trod enc Tryz.prog W 0 (fun _ => true) true 22 v d ps) :
  ∃ (A : Option Addr) (l : List Int) (c : Nat), v = .slice A l.length c /\ Rd W A (iv l) /\ (∀ n ∈ l, bI n) /\ l.length <= c /\ c <= maxLen := by
 obtain ⟨a0, len, cap, rfl⟩ := okWide_slice Tryz.underlying22 hval;obtain ⟨fuel, hf⟩ := h
 rcases open_ints Tryz.underlying22 Tryz.underlying3 Hd hf with ⟨hcs, hx⟩ | ⟨a, len', cap', zs, hcs, _, hl, hm, hz, hx, hcell, hwz⟩
 ·simp [Value.cells] at hcs;obtain ⟨rfl, rfl, rfl⟩ := hcs;exact ⟨none, [], 0, rfl, .inl rfl, by simp, Nat.le_refl _, Nat.zero_le _⟩
 ·simp [Value.cells] at hcs;obtain ⟨rfl, rfl, rfl⟩ := hcs;simp only [if_true] at hz;have hlen : (zs.take len).length = len := by simp; omega
  refine ⟨some a, zs.take len, cap, by rw [hlen], ?_, fun n hn => vH (hwz n (List.mem_of_mem_take hn)), by rw [hlen]; exact hl, hm⟩
  by_cases h0 : zs.take len = []
  ·exact .inl (by rw [h0]; rfl)
  ·refine E9 (by simpa [iv] using h0) (fun i v hv => ?_);have hi : i < len := by have := (List.getElem?_eq_some_iff.1 hv).1; rw [rq, hlen] at this; exact this
   rw [hcell i (by omega)];have hzi : i < zs.length := by omega
   simp [iv, hi, hzi] at hv;rw [<- hv];simp [List.getD, hzi]
theorem yN {C : Checked} (own : ownKnob C.prog.godebug = none) {os : Os} {f : FuncId} {fn : Func} {s : ChangeSpec} {laid : List (String × DataW Unit)} (started : os.Started) (noInit : C.prog.inits.idxOf? f = none) (hfn : C.prog.funcs[f]? = some fn) (args0 : Array Value)
  (hsh0 : ((World.laidAll C.prog os laid).forCall (fun _ _ => 0) ⟨#[], args0, []⟩).Shaped C.prog)
  (hok0 : Input.okWideB C.prog ((World.laidAll C.prog os laid).forCall (fun _ _ => 0) ⟨#[], args0, []⟩) f ⟨#[], args0, []⟩ = true)
  (hpre0 : s.preB enc C.prog fn [] false ((World.laidAll C.prog os laid).forCall (fun _ _ => 0) ⟨#[], args0, []⟩).memory args0 8 = true)
  (hsz0 : s.sizedB enc C.prog fn false ((World.laidAll C.prog os laid).forCall (fun _ _ => 0) ⟨#[], args0, []⟩).memory args0 8 = true)
  (hx0 : laidMetH C.prog laid ((World.laidAll C.prog os laid).forCall (fun _ _ => 0) ⟨#[], args0, []⟩).memory)
  (contract : ∀ (W : World) (base : Nat) (args : Array Value) (ds gs : List (DataW H)) (before : List MemPlace),
    (∀ (j : Nat) t v, fn.params[j]? = some t -> args[j]? = some v -> Value.okWide C.prog W .any base t v) ->
    DataW.Whole enc C.prog fn.params.toList s.vars false W args.toList ds gs before ->
    (DataW.weightsEach C.prog (fn.params.toList ++ s.plain.varTypes C.prog) (ds ++ gs)).all (· <= reachBytes) = true ->
    W.ShapedOpen C.prog -> laidMetH C.prog laid W ->
    Calls C.prog f args W fun e W' => ∃ v, e = .returned v /\ s.post enc C.prog fn false true false false W args v W') :
  ReturnsInHanded {} C os f .any (fun w args => (s.pre enc C.prog fn [] false w args /\ laidMetH C.prog laid w) /\ sizedMet enc C.prog fn (OpenSpec.ofChange s) false w args) (s.post enc C.prog fn false true false false) := by
 refine returnsInHanded_of_calls own started noInit (ChangeSpec.witness_shaped (X := fun w _ => laidMetH C.prog laid w) false (World.laidAll C.prog os laid) args0 8 (World.laidAll_os _ _ _) hsh0 hok0 hpre0 hsz0 hx0) ?_;intro W0 tape inp _ shape _ okay pre _;obtain ⟨_, _, _, fn2, hfn2, _, _, _, _, vals⟩ := okay;obtain rfl : fn2 = fn := Option.some.inj (hfn2.symm.trans hfn);obtain ⟨⟨⟨ds, gs, before, whole, _⟩, met⟩, sized⟩ := pre;have whole2 := DataW.Whole.of_heap (w' := W0.forCall tape inp) (by rfl) whole;have met2 : laidMetH C.prog laid (W0.forCall tape inp) := laidMetH.of_heap (w' := W0.forCall tape inp) (by rfl) met;refine (contract (W0.forCall tape inp) W0.heap.size inp.args ds gs before vals whole2 (sized.weights whole) shape met2).mono fun e W' h => ?_
 obtain ⟨v, rfl, hp⟩ := h;exact ChangeSpec.post_blind hp
end
theorem y5 : Tryz.prog.globalNamed "math/bits.deBruijn64tab" = some 0 := by kernel_rfl
theorem Hg : (Tryz.prog.globals[0]?).map (·.type) = some 166 := by kernel_rfl
theorem Hf : Tryz.prog.cellsOf 166 = 64 := by kernel_rfl
theorem Ho : Tryz.prog.cellsOf 5 = 1 := by kernel_rfl
theorem AO : (Rows.laid_math_bits_deBruijn64tab : DataW Unit) = Lib.tabData .u8 (Lib.deBruijn64tab.map Int.ofNat) := by kernel_rfl
def mR : List (String × DataW Unit) := [("math/bits.deBruijn64tab", Rows.laid_math_bits_deBruijn64tab)]
theorem vO {W : World} (h : laidMetH Tryz.prog mR W) : DB W := by
 rw [MakeChecks.laidMetH_plain _ _ _ (by kernel_rfl)] at h;obtain ⟨ps, ⟨g0, t0, cs0, f0, p0, q0, hg0, ht0, hv0, hd0, _⟩, _, _⟩ := h;obtain rfl := Option.some.inj (y5.symm.trans hg0);obtain rfl := Option.some.inj (Hg.symm.trans ht0);rw [AO] at hd0;have hT : Lib.TabIs Tryz.prog W "math/bits.deBruijn64tab" .u8 (Lib.deBruijn64tab.map Int.ofNat) := by
  unfold Lib.TabIs;rw [hv0, <- Lib.cells_of_tab Tryz.underlying166 Tryz.underlying5 Ho Hf hd0]
 intro j hj;rw [hT.cell y5 j (by rw [List.length_map]; exact hj)];simp [List.getD, hj]
theorem wI (os : Os) (args : Array Value) : laidMetH Tryz.prog mR ((World.laidAll Tryz.prog os mR).forCall (fun _ _ => 0) ⟨#[], args, []⟩).memory := by
 rw [MakeChecks.laidMetH_plain _ _ _ (by kernel_rfl)];exact laidMet_laidAll _ (by kernel_rfl) (by kernel_rfl)
end
def gD (n m : Int) : Int := if n < 0 then (-(n + 1)) % m else n % m
theorem p9 (n : Int) {m : Int} (hm : 1 <= m) : 0 <= gD n m /\ gD n m < m := by
 unfold gD
 split
 ·exact ⟨Int.emod_nonneg _ (by omega), Int.emod_lt_of_pos _ (by omega)⟩
 ·exact ⟨Int.emod_nonneg _ (by omega), Int.emod_lt_of_pos _ (by omega)⟩
theorem rM (n m : Int) (hn1 : -9223372036854775808 <= n) (hn2 : n <= 9223372036854775807) (hm : 1 <= m) (hm2 : m <= 9223372036854775807) (w : World) : Calls Tryz.prog 58 #[.int .i64 n, .int .i64 m] w fun e w' => e = .returned (.int .i64 (gD n m)) /\ w = w' := by
 have hm0 : ¬ m = 0 := by omega
 by_cases h : n < 0
 ·have h0 : 0 <= -(n + 1) := by omega
  have hq : -((n + 1).tmod m) = gD n m := by unfold gD; rw [if_pos h, <- Int.neg_tmod, Int.tmod_eq_emod_of_nonneg h0]
  have HQ := Lh hq;clear hq;go_enter Tryz.func58, Tryz.ntmps58
  go_wp2
  go_ret;exact ⟨qy HQ.out, rfl⟩
 ·have h0 : 0 <= n := by omega
  have hq : n % m = gD n m := by unfold gD; rw [if_neg h]
  have HQ := Lh hq;clear hq;go_enter Tryz.func58, Tryz.ntmps58
  go_wp2
  go_ret;exact ⟨qy HQ.out, rfl⟩
def iL (l : List Int) (M : Int) (N : Nat) : List Int := (l.take N).map fun n => gD n M
theorem FJ (l : List Int) (M : Int) (N : Nat) (hM : 1 <= M) (hM2 : M <= 1000000) (hN : N <= 1000) (A : Option Addr) (n c : Nat) (hn : n = l.length) (hnc : n <= c) (hcm : c <= 9223372036854775807) (hl : ∀ x ∈ l, bI x) (w : World) (hr : Rd w A (iv l)) : Calls Tryz.prog 30 #[.slice A n c, .int .i64 M, .int .i64 (N : Int)] w (kW w (iL l M N)) := by
 obtain ⟨j0, hj0, hy0, hy1, hy2⟩ := info_parts lG;obtain ⟨T, hT⟩ : ∃ T, T = min n N := ⟨_, rfl⟩;have HX : Hid (n = l.length /\ (∀ x ∈ l, bI x) /\ Rd w A (iv l)) := Lh ⟨hn, hl, hr⟩;have hTn : T <= n := by omega
 have hTN : T <= N := by omega
 have hT2 : T < n -> T = N := by omega
 clear hn hl hr hT;go_enter Tryz.func30, Tryz.ntmps30;go_wp2_with fail
 go_loopg [7, 8] T (fun g s7 s8 wr => ∃ i : Nat, i + g = T /\ s8 = .int .i64 (i : Int) /\ Hid (wr.ownsRow w.heap.size 3 1 s7 i (iv (iL l M i)) /\ Below w.heap.size w wr))
 case atStart => exact ⟨0, by omega, rfl, Lh ⟨⟨rfl, .inl ⟨rfl, rfl⟩⟩, Below.refl _ _⟩⟩
 case round =>
  obtain ⟨i, hi, rfl, HI⟩ := hrel;obtain ⟨A5, c5, hv, hrd5, hmc, hm2⟩ := Rd.of_own HI.out.1;subst hv
  by_cases hlt : i < T
  ·obtain ⟨gg, rfl⟩ : ∃ g, gk = g + 1 := ⟨gk - 1, by omega⟩;have h1 : i < n := by omega
   have h2 : i < N := by omega
   have hil : i < l.length := by rw [<- HX.out.1]; exact h1
   obtain ⟨b, o, rfl, hcs⟩ := HX.out.2.2.open (by intro e; have := congrArg List.length e; simp [iv] at this; rw [this] at hil; exact absurd hil (by simp));obtain ⟨x, hx⟩ : ∃ x, x = l[i] := ⟨_, rfl⟩;have hc : wr.cell? ⟨b, o + i, none⟩ = some (.int .i64 x) := by
    have h3 := hcs i (.int .i64 x) (by simp [iv, hil, hx]);exact (HI.out.2.cell (p := ⟨b, o + i, none⟩) (World.block_lt_of_cell? w _ h3)).trans h3
   have HXI : Hid (bI x) := Lh (HX.out.2.1 x (by rw [hx]; exact List.getElem_mem hil));have HST : Hid (iL l M (i + 1) = iL l M i ++ [gD x M]) := Lh (by unfold iL; rw [List.take_succ_eq_append_getElem hil, List.map_append, hx]; rfl);have hs1 : i + 1 <= maxLen := by unfold maxLen; omega
   have hs2 : (i + 1) * 8 <= 140737488355328 := by omega
   have HO := Lh HI.out.1;obtain ⟨y, hy⟩ : ∃ y, y = gD x M := ⟨_, rfl⟩;have HA : Hid (∀ W, Calls Tryz.prog 58 #[.int .i64 x, .int .i64 M] W fun e w' => e = .returned (.int .i64 y) /\ W = w') := Lh fun W => by rw [hy]; exact rM x M (by have := HXI.out.1; omega) (by have := HXI.out.2; omega) hM (by omega) W
   rw [<- hy] at HST;have hd2 : decide (i < N) = true := dT h2;clear hil hcs hx hrd5 hy
   go_wp2_with (first
    |((with_reducible refine (HA.out _).mono ?_); rintro e w3 ⟨rfl, rfl⟩)
    |(at_builtin; refine eu rfl (.tmp 20) (.tmp 27) 22 22 rfl w.heap.size 3 j0 _ 1 8 Tryz.underlying22 hj0 hy0 hy1 hy2 rfl _ _ _ rfl (dW HO.out (ag _ _)) _ 1 [.int .i64 y] rfl (qj Tryz.underlying22 hy1 wr (.int .i64 y) 3 rfl) hs1 hs2 (by have := HI.out.2.size; simp; omega) ?_; intro v9 w9 hown9 hg9 hat9; have HX9 : Hid (w9.ownsRow w.heap.size 3 1 v9 (i + 1) (iv (iL l M (i + 1))) /\ Below w.heap.size w w9) := Lh ⟨by rw [HST.out]; simpa [iv] using hown9, dJ (aB HI.out.2 _) hg9 (fun g hg => (HO.out.lt _ hg).1)⟩; clear hown9 hg9 hat9))
   go_roundg gg
   case rel => exact ⟨i + 1, by omega, by go_num, HX9⟩
   case measure => omega
  ·obtain rfl : T = i := by omega
   have HE : Hid (iL l M T = iL l M N) := Lh (by
    unfold iL
    by_cases h : T < n
    ·rw [hT2 h]
    ·rw [List.take_of_length_le (by have := HX.out.1; omega), List.take_of_length_le (by have := HX.out.1; omega)])
   have HF : Hid (kW w (iL l M N) (.returned (.slice A5 T c5)) wr) := Lh ⟨A5, T, c5, rfl, by rw [<- HE.out]; unfold iL; rw [List.length_map, List.length_take]; have := HX.out.1; omega, hmc, hm2, by rw [<- HE.out]; exact hrd5, fun b o e => by subst e; exact HI.out.1.lt b rfl, HI.out.2⟩;clear hrd5
   by_cases h : T < n
   ·have hTe := hT2 h;have hd2 : decide (T < N) = false := dF (by omega);clear hTe hT2;go_wp2_with fail;go_ret;exact HF.out
   ·clear hT2;go_wp2_with fail;go_ret;exact HF.out
namespace Rgx
def bi (M : Int) (S : List Rx) (N : Int) : List Rx :=
 if N % 8 <= 1 then S ++ [.mk 2 [N / 8 % M] []]
 else if N % 8 = 2 then S ++ [.mk 2 (if N / 8 % M = N / 8 / M % M then [N / 8 % M] else [min (N / 8 % M) (N / 8 / M % M), max (N / 8 % M) (N / 8 / M % M)]) []]
 else if N % 8 = 3 /\ 0 < S.length then S.set (S.length - 1) (.mk 5 [] [ak S (S.length - 1)])
 else if N % 8 = 4 /\ 1 < S.length then (S.set (S.length - 2) (.mk 3 [] [ak S (S.length - 2), ak S (S.length - 1)])).take (S.length - 1)
 else if N % 8 = 5 /\ 1 < S.length then (S.set (S.length - 2) (.mk 4 [] [ak S (S.length - 2), ak S (S.length - 1)])).take (S.length - 1)
 else if N % 8 = 6 /\ 0 < S.length then S.set (S.length - 1) (.mk 4 [] [.mk 1 [] [], ak S (S.length - 1)])
 else if N % 8 = 7 then S ++ [.mk (min 1 (N / 8 % 8)) [] []]
 else S
def gy (M : Int) (l : List Int) : List Rx := l.foldl (fun S x => bi M S (gD x 1048576)) []
def fD (M : Int) (l : List Int) : Rx := if (gy M (l.take 16)).length = 1 then ak (gy M (l.take 16)) 0 else .mk 3 [] (gy M (l.take 16))
theorem yt (M : Int) (l : List Int) (x : Int) : gy M (l ++ [x]) = bi M (gy M l) (gD x 1048576) := by unfold gy; rw [List.foldl_append]; rfl
theorem ou {S : List Rx} (h : 0 < S.length) : ∃ P a, S = P ++ [a] := by
 rcases List.eq_nil_or_concat S with e | ⟨P, a, e⟩
 ·rw [e] at h; simp at h
 ·exact ⟨P, a, by simpa using e⟩
theorem yj {S : List Rx} (h : 1 < S.length) : ∃ P a b, S = P ++ [a, b] := by
 obtain ⟨Q, b, rfl⟩ := ou (S := S) (by omega);obtain ⟨P, a, rfl⟩ := ou (S := Q) (by simp at h; omega);exact ⟨P, a, b, by simp⟩
theorem vG (P : List Rx) (a : Rx) : ak (P ++ [a]) ((P ++ [a]).length - 1) = a := by unfold ak; simp [List.getD]
theorem yP (P : List Rx) (a y : Rx) : (P ++ [a]).set ((P ++ [a]).length - 1) y = P ++ [y] := by simp
theorem vZ (P : List Rx) (a b : Rx) : ak (P ++ [a, b]) ((P ++ [a, b]).length - 2) = a := by unfold ak; simp [List.getD]
theorem um (P : List Rx) (a b : Rx) : ak (P ++ [a, b]) ((P ++ [a, b]).length - 1) = b := by unfold ak; simp [List.getD]
theorem ww (P : List Rx) (a b y : Rx) : ((P ++ [a, b]).set ((P ++ [a, b]).length - 2) y).take ((P ++ [a, b]).length - 1) = P ++ [y] := by
 simp [List.take_append];exact List.take_of_length_le (by omega)
theorem Fj {M : Int} (hM : 1 <= M) (hM2 : M <= 64) {S : List Rx} {N : Int} (hN : 0 <= N) (hv : ∀ x ∈ S, ay x = true) : (∀ x ∈ bi M S N, ay x = true) /\ (bi M S N).length <= S.length + 1 /\ ah (bi M S N) <= ah S + 2 := by
 have a1 := Int.emod_nonneg (N / 8) (b := M) (by omega);have a2 := Int.emod_lt_of_pos (N / 8) (b := M) (by omega);have a3 := Int.emod_nonneg (N / 8 / M) (b := M) (by omega);have a4 := Int.emod_lt_of_pos (N / 8 / M) (b := M) (by omega);have set1 : ∀ x : Int, 0 <= x -> x < 64 -> ay (.mk 2 [x] []) = true := fun x h1 h2 => by
  rw [gH]; simp [Rx.kind, Rx.syms, Rx.kids, dI, eX, h1, h2]
 have set2 : ∀ x y : Int, 0 <= x -> x < y -> y < 64 -> ay (.mk 2 [x, y] []) = true := fun x y h1 h2 h3 => by
  rw [gH]; simp [Rx.kind, Rx.syms, Rx.kids, dI, eX, h1, h2, h3]; omega
 have app : ∀ r : Rx, ay r = true -> av r = 1 -> (∀ x ∈ S ++ [r], ay x = true) /\ (S ++ [r]).length <= S.length + 1 /\ ah (S ++ [r]) <= ah S + 2 := fun r h1 h2 => ⟨fun x hx => by
  rcases List.mem_append.1 hx with h | h
  ·exact hv x h
  ·rw [List.mem_singleton.1 h]; exact h1, by simp, by rw [gz]; simp [ah]; omega⟩
 unfold bi
 split
 ·exact app _ (set1 _ a1 (by omega)) (jV _ _)
 split
 ·refine app _ ?_ (jV _ _)
  split
  ·exact set1 _ a1 (by omega)
  ·rename_i hne
   refine set2 _ _ (by omega) ?_ (by omega);omega
 split
 ·rename_i h
  obtain ⟨P, a, rfl⟩ := ou h.2;rw [vG, yP];have ha := hv a (by simp);refine ⟨fun x hx => ?_, by simp, by rw [gz, gz]; simp [ah, av]; omega⟩
  rcases List.mem_append.1 hx with h | h
  ·exact hv x (by simp [h])
  ·rw [List.mem_singleton.1 h, gH]; simp [Rx.kind, Rx.syms, Rx.kids, ha]
 split
 ·rename_i h
  obtain ⟨P, a, b, rfl⟩ := yj h.2;rw [vZ, um, ww];have ha := hv a (by simp);have hb := hv b (by simp);refine ⟨fun x hx => ?_, by simp, by rw [gz, gz]; simp [ah, av]; omega⟩
  rcases List.mem_append.1 hx with h | h
  ·exact hv x (by simp [h])
  ·rw [List.mem_singleton.1 h, gH]; simp [Rx.kind, Rx.syms, Rx.kids, ha, hb]
 split
 ·rename_i h
  obtain ⟨P, a, b, rfl⟩ := yj h.2;rw [vZ, um, ww];have ha := hv a (by simp);have hb := hv b (by simp);refine ⟨fun x hx => ?_, by simp, by rw [gz, gz]; simp [ah, av]; omega⟩
  rcases List.mem_append.1 hx with h | h
  ·exact hv x (by simp [h])
  ·rw [List.mem_singleton.1 h, gH]; simp [Rx.kind, Rx.syms, Rx.kids, ha, hb]
 split
 ·rename_i h
  obtain ⟨P, a, rfl⟩ := ou h.2;rw [vG, yP];have ha := hv a (by simp);have h1 : ay (.mk 1 [] []) = true := by decide
  refine ⟨fun x hx => ?_, by simp, by rw [gz, gz]; simp [ah, av]; omega⟩
  rcases List.mem_append.1 hx with h | h
  ·exact hv x (by simp [h])
  ·rw [List.mem_singleton.1 h, gH]; simp [Rx.kind, Rx.syms, Rx.kids, ha, h1]
 split
 ·refine app _ ?_ (jV _ _);have h1 := Int.emod_nonneg (N / 8) (b := 8) (by omega)
  rcases (by omega : min 1 (N / 8 % 8) = 0 \/ min 1 (N / 8 % 8) = 1) with e | e <;> (rw [e]; decide)
 ·exact ⟨hv, by omega, by omega⟩
theorem xU {M : Int} (hM : 1 <= M) (hM2 : M <= 64) (l : List Int) : ∀ i, i <= l.length -> (∀ x ∈ gy M (l.take i), ay x = true) /\ (gy M (l.take i)).length <= i /\ ah (gy M (l.take i)) <= 2 * i := by
 intro i
 induction i with
 |zero => intro _; exact ⟨fun x hx => (by simp [gy] at hx), (by simp [gy]), (by simp [gy, ah])⟩
 |succ i ih =>
  intro hi;obtain ⟨h1, h2, h3⟩ := ih (by omega);rw [List.take_succ_eq_append_getElem (by omega), yt];obtain ⟨g1, g2, g3⟩ := Fj hM hM2 (N := gD l[i] 1048576) (p9 _ (by omega)).1 h1;exact ⟨g1, by omega, by omega⟩
theorem zn {M : Int} (hM : 1 <= M) (hM2 : M <= 64) (l : List Int) : ay (fD M l) = true /\ av (fD M l) <= 33 := by
 have h := xU hM hM2 (l.take 16) (l.take 16).length (Nat.le_refl _);rw [List.take_length] at h;have hl : (l.take 16).length <= 16 := by simp; omega
 unfold fD
 split
 ·rename_i h1
  have hm : ak (gy M (l.take 16)) 0 ∈ gy M (l.take 16) := dG (by omega);exact ⟨h.1 _ hm, by have := l5 hm; omega⟩
 ·refine ⟨rH h.1, ?_⟩;rw [kH];omega
end Rgx
end Go.Proofs.YtakcjlimbabbfaaGreatDoor
