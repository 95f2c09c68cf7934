/- Part of the proof of the laws of layer 7: what they share. -/
import Derived.Test.YtakcjlimbabbfaaGreatDoorQC1
set_option linter.unusedVariables false
set_option linter.unusedSimpArgs false
set_option maxRecDepth 1000000
set_option maxHeartbeats 8000000
namespace Go.Proofs.YtakcjlimbabbfaaGreatDoor
open Go.RowKit
open Alp
open Rgx
def bP (r : Rx) : Rx := if aC r = true then normR false r else .mk 0 [] []
theorem Np {w : World} {r : Rx} {A B : Option Addr} {n c m d : Nat} (hv : aC r = true) (hc : az r <= 1000000000000) (h : aI w r A n c B m d) : Calls Tryz.prog 50 #[.agg #[.int .i64 r.kind, .slice A n c, .slice B m d]] w (dB (fun _ => False) w r) := ME _ r (Nat.le_refl _) hv hc w A B n c m d h
theorem UV {p : Nat -> Prop} {w : World} {r : Rx} {A B : Option Addr} {n c m d : Nat} (hp : ∀ b, p b -> b < w.heap.size) (hc : az r <= 1000000000000) (h : ak p w r A n c B m d) : Calls Tryz.prog 53 #[.agg #[.int .i64 r.kind, .slice A n c, .slice B m d]] w (dB p w (bC r)) := Mv _ r (Nat.le_refl _) hc p w A B n c m d hp h
theorem lY {w : World} {ops : Array Oper} {rest : List Oper} {o : Oper} {a : Act} {Q : Exit -> Act -> World -> Prop} (hw : Region.wanted o (yielded ops a.tmps) = true) (x : Operand) (ho : o.op = .load 25 x)
  (g q : Nat) (hx : a.eval x = .pointer (some ⟨g, q, none⟩)) (K : Int) (A B : Option Addr) (n c m d : Nat) (hc : w.rangeAt g q (zV K A n c B m d))
  (h : wpList Tryz.prog ops Q rest (a.put o.dst (.agg #[.int .i64 K, .slice A n c, .slice B m d])) w) : wpList Tryz.prog ops Q (o :: rest) a w :=
 wpList_step fun K2 hK2 => by
  rw [if_pos hw];exact wp_load_mid 25 x ho g q hx _ _ hc Tryz.underlying25 rfl au (hK2 _ _ h)
theorem Uo (r : Rx) : NF (bP r) := by
 unfold bP
 split
 ·rename_i h; exact NF.normR false h
 ·exact NF.none
theorem qQ {w : World} {r : Rx} {K : Int} {A B : Option Addr} {n c m d : Nat} (hK : K = r.kind) (h : aI w r A n c B m d) (V : Bool) (hV : V = aC r) : Calls Tryz.prog 14 #[.agg #[.int .i64 K, .slice A n c, .slice B m d]] w (aU w V) := by
 subst hK;exact IQ h V hV
theorem TV {w : World} {r : Rx} {K : Int} {A B : Option Addr} {n c m d : Nat} (hK : K = r.kind) (h : aI w r A n c B m d) (V : Bool) (hV : V = aO r) : Calls Tryz.prog 47 #[.agg #[.int .i64 K, .slice A n c, .slice B m d]] w (aU w V) := by
 subst hK;exact Mc h V hV
theorem Jv {p : Nat -> Prop} {w : World} (hp : ∀ b, p b -> b < w.heap.size) (hd : DB w) (r : Rx) {K : Int} (hK : K = r.kind) (hv : aC r = true) (hc : az r <= 1000000000000) {A B : Option Addr} {n c m d : Nat} (h : ak p w r A n c B m d) : Calls Tryz.prog 51 #[.agg #[.int .i64 K, .slice A n c, .slice B m d]] w (dB p w (normR false r)) := by
 subst hK;exact TC hp hd r hv hc h
theorem SI {w : World} {r : Rx} {K : Int} {A B : Option Addr} {n c m d : Nat} (hK : K = r.kind) (hv : aC r = true) (hc : az r <= 1000000000000) (h : aI w r A n c B m d) : Calls Tryz.prog 50 #[.agg #[.int .i64 K, .slice A n c, .slice B m d]] w (dB (fun _ => False) w r) := by
 subst hK;exact Np hv hc h
theorem FJ {w : World} (hd : DB w) (r : Rx) (hc : az r <= 1000000000000) {A B : Option Addr} {n c m d : Nat} (h : aI w r A n c B m d) : Calls Tryz.prog 19 #[.agg #[.int .i64 r.kind, .slice A n c, .slice B m d]] w (dB (fun _ => False) w (bP r)) := by
 obtain ⟨K, hK⟩ := eX r.kind;have HX := LH (aI w r A n c B m d /\ K = r.kind /\ az r <= 1000000000000) ⟨h, hK, hc⟩;have gM := Lh hd;have bK := LH (ae ((w.alloc (zC K A n c B m d)).alloc zR) w.heap.size (zV K A n c B m d) 25) ((ae.at w (zV K A n c B m d) _ 25 _ rfl rfl).alloc _);have HZ := LH (ae ((w.alloc (zC K A n c B m d)).alloc zR) (w.heap.size + 1) zL 25) (ae.at (w.alloc (zC K A n c B m d)) zL _ 25 _ rfl (by simp));have bO := aS bK.out;rw [<- hK]
 by_cases hv : aC r = true
 ·have HV := LH (true = aC r) hv.symm;have HR := LH (bP r = normR false r) (by unfold bP; rw [if_pos hv]);clear h hK hc hd hv;go_enter Tryz.func19, Tryz.ntmps19
  go_wp2_with (first
   |(refine aG rfl (.tmp 1) rfl w.heap.size (0) rfl K A B n c m d bO ?_)
   |((with_reducible refine (qQ HX.out.2.1 (HX.out.1.below (aF (ai _ _) _)) true HV.out).mono ?_); rintro e w1 hp; obtain ⟨rfl, hb⟩ := aV hp; have H1 := LH (Bw w w1) (ah (aF (ai _ _) _) hb); have iY := Lh (HZ.out.below hb (by simp)); have nI := aS (bK.out.below hb (by simp; omega)); clear hp hb)
   |(refine aG rfl (.tmp 1) rfl w.heap.size (0) rfl K A B n c m d nI ?_)
   |((with_reducible refine (Jv (p := fun b => b < w.heap.size) (fun b hb => by have := H1.out.size; omega) (gM.out.below H1.out) r HX.out.2.1 HV.out.symm HX.out.2.2 (HX.out.1.toP.below H1.out)).mono ?_); rintro e w2 hp; obtain ⟨A2, n2, c2, B2, m2, d2, rfl, h2, hb2⟩ := dV hp; rw [<- HR.out] at h2 ⊢; have H2 := LH (aI w2 (bP r) A2 n2 c2 B2 m2 d2 /\ Bw w1 w2) ⟨h2.o, hb2⟩; clear hp h2 hb2)
   |((with_reducible refine (Np (Uo r).val (by rw [HR.out]; have h1 := zJ false HV.out.symm; have h2 := HX.out.2.2; omega) H2.out.1).mono ?_); rintro e w8 hp; obtain ⟨A8, n8, c8, B8, m8, d8, rfl, h8, aK⟩ := dV hp; obtain ⟨K8, aX⟩ := eX ((bP r).kind); rw [<- aX]; have H8 := LH (ak (fun b => w2.heap.size <= b) w8 (bP r) A8 n8 c8 B8 m8 d8 /\ Bw w1 w8 /\ K8 = (bP r).kind) ⟨h8.mono (fun b hb => hb.elim (fun h => h.elim) id), ah H2.out.2 aK, aX⟩; clear hp h8 aK aX)
   |(refine wB rfl 25 (.tmp 2) (.tmp 9) rfl (w.heap.size + 1) 0 rfl (zV K8 A8 n8 c8 B8 m8 d8) rfl (iY.out.below H8.out.2.1 iY.out.lt) 3 au ?_; intro w9 ag; have aB := LH (ae w9 (w.heap.size + 1) (zV K8 A8 n8 c8 B8 m8 d8) 25 /\ Bw w w9 /\ ak (fun b => w2.heap.size <= b) w9 (bP r) A8 n8 c8 B8 m8 d8) ⟨ag.1, ag.below (ah H1.out H8.out.2.1) (by omega), il H8.out.1 ag (fun b hb => by have h1 := iY.out.lt; have h2 := H2.out.2.size; omega)⟩; clear ag))
  exact cK rfl (w.heap.size + 1) rfl (C := (zV K8 A8 n8 c8 B8 m8 d8)) (T := 25) aB.out.1 _ Tryz.underlying25 rfl au rfl (by
   rw [H8.out.2.2];exact ⟨_, _, _, _, _, _, rfl, aB.out.2.2.mono (fun b hb => .inr (by have h1 := H1.out.size; have h2 := H2.out.2.size; omega)), aB.out.2.1⟩)
 ·have HV := LH (false = aC r) (by simpa using hv);have HR := LH (bP r = .mk 0 [] []) (by unfold bP; rw [if_neg hv]);clear h hK hc hd hv;go_enter Tryz.func19, Tryz.ntmps19
  go_wp2_with (first
   |(refine aG rfl (.tmp 1) rfl w.heap.size (0) rfl K A B n c m d bO ?_)
   |((with_reducible refine (qQ HX.out.2.1 (HX.out.1.below (aF (ai _ _) _)) false HV.out).mono ?_); rintro e w1 hp; obtain ⟨rfl, hb⟩ := aV hp; have H1 := LH (Bw w w1) (ah (aF (ai _ _) _) hb); have iY := Lh (HZ.out.below hb (by simp)); have nI := aS (bK.out.below hb (by simp; omega)); clear hp hb)
   |(refine wB rfl 25 (.tmp 2) (.tmp 6) rfl (w.heap.size + 1) 0 rfl zL rfl iY.out 3 au ?_; intro w9 ag; have aB := LH (ae w9 (w.heap.size + 1) zL 25 /\ Bw w w9 ) ⟨ag.1, ag.below H1.out (by omega)⟩; clear ag))
  exact cK rfl (w.heap.size + 1) rfl (C := zL) (T := 25) aB.out.1 _ Tryz.underlying25 rfl au rfl (by rw [HR.out]; exact lI (ak.flat _ w9 (by constructor <;> decide)) (fun b hb => .inl hb) aB.out.2)
theorem Ir {w : World} (r : Rx) {A B : Option Addr} {n c m d : Nat} (h : aI w r A n c B m d) (E : Bool) (hE : E = (aC r && aO r)) : Calls Tryz.prog 16 #[.agg #[.int .i64 r.kind, .slice A n c, .slice B m d]] w (aU w E) := by
 obtain ⟨K, hK⟩ := eX r.kind;have HX := LH (aI w r A n c B m d /\ K = r.kind) ⟨h, hK⟩;have bK := LH (ae (w.alloc (zC K A n c B m d)) w.heap.size (zV K A n c B m d) 25) (ae.at w (zV K A n c B m d) _ 25 _ rfl rfl);have bO := aS bK.out;rw [<- hK]
 cases hv : aC r with
 |true =>
  have HV := LH (true = aC r) hv.symm;rw [hv, Bool.true_and] at hE;have HE := Lh hE;clear h hK hv hE;go_enter Tryz.func16, Tryz.ntmps16
  go_wp2_with (first
   |(refine aG rfl (.tmp 1) rfl w.heap.size (0) rfl K A B n c m d bO ?_)
   |((with_reducible refine (qQ HX.out.2 (HX.out.1.below (ai _ _)) true HV.out).mono ?_); rintro e w1 hp; obtain ⟨rfl, hb⟩ := aV hp; have H1 := LH (Bw w w1) (ah (ai _ _) hb); have nI := aS (bK.out.below hb (by simp)); clear hp hb)
   |(refine lY (by rfl) (.tmp 1) rfl w.heap.size 0 rfl K A B n c m d nI ?_)
   |((with_reducible refine (TV HX.out.2 (HX.out.1.below H1.out) E HE.out).mono ?_); rintro e w2 hp; obtain ⟨rfl, hb⟩ := aV hp; have H2 := LH (Bw w w2) (ah H1.out hb); clear hp hb))
  go_ret;exact ⟨rfl, H2.out⟩
 |false =>
  have HV := LH (false = aC r) hv.symm;rw [hv, Bool.false_and] at hE;subst hE;clear h hK hv;go_enter Tryz.func16, Tryz.ntmps16
  go_wp2_with (first
   |(refine aG rfl (.tmp 1) rfl w.heap.size (0) rfl K A B n c m d bO ?_)
   |((with_reducible refine (qQ HX.out.2 (HX.out.1.below (ai _ _)) false HV.out).mono ?_); rintro e w1 hp; obtain ⟨rfl, hb⟩ := aV hp; have H1 := LH (Bw w w1) (ah (ai _ _) hb); clear hp hb))
  go_ret;exact ⟨rfl, H1.out⟩
theorem KZ {w : World} (hd : DB w) (r : Rx) (hc : az r <= 1000000000000) {A B : Option Addr} {n c m d : Nat} (h : aI w r A n c B m d) : Calls Tryz.prog 21 #[.agg #[.int .i64 r.kind, .slice A n c, .slice B m d]] w (dB (fun _ => False) w (bP (bC r))) := by
 obtain ⟨K, hK⟩ := eX r.kind;have HX := LH (aI w r A n c B m d /\ K = r.kind /\ az r <= 1000000000000) ⟨h, hK, hc⟩;have gM := Lh hd;have bK := LH (ae ((w.alloc (zC K A n c B m d)).alloc zR) w.heap.size (zV K A n c B m d) 25) ((ae.at w (zV K A n c B m d) _ 25 _ rfl rfl).alloc _);have HZ := LH (ae ((w.alloc (zC K A n c B m d)).alloc zR) (w.heap.size + 1) zL 25) (ae.at (w.alloc (zC K A n c B m d)) zL _ 25 _ rfl (by simp));have bO := aS bK.out;have HRV := LH (∀ W, Bw w W -> Cz 53 #[.agg #[.int .i64 K, .slice A n c, .slice B m d]] W (dB (fun b => b < w.heap.size) W (bC r))) fun W hb => by rw [hK]; exact UV (fun b hb2 => Nat.lt_of_lt_of_le hb2 hb.size) hc (h.toP.below hb)
 rw [<- hK];clear h hK hc hd;go_enter Tryz.func21, Tryz.ntmps21
 go_wp2_with (first
  |(refine aG rfl (.tmp 1) rfl w.heap.size (0) rfl K A B n c m d bO ?_)
  |((with_reducible refine (HRV.out _ (aF (ai _ _) _)).mono ?_); rintro e w2 hp; obtain ⟨A2, n2, c2, B2, m2, d2, rfl, h2, hb2⟩ := dV hp; have H2 := LH (aI w2 (bC r) A2 n2 c2 B2 m2 d2 /\ Below ((w.alloc (zC K A n c B m d)).alloc zR).heap.size ((w.alloc (zC K A n c B m d)).alloc zR) w2) ⟨h2.o, hb2⟩; clear hp h2 hb2)
  |((with_reducible refine (FJ (gM.out.below (ah (aF (ai _ _) _) H2.out.2)) (bC r) (by rw [TM]; exact HX.out.2.2) H2.out.1).mono ?_); rintro e w8 hp; obtain ⟨A8, n8, c8, B8, m8, d8, rfl, h8, aK⟩ := dV hp; obtain ⟨K8, aX⟩ := eX ((bP (bC r)).kind); rw [<- aX]; have H8 := LH (ak (fun b => w2.heap.size <= b) w8 (bP (bC r)) A8 n8 c8 B8 m8 d8 /\ Below ((w.alloc (zC K A n c B m d)).alloc zR).heap.size ((w.alloc (zC K A n c B m d)).alloc zR) w8 /\ K8 = (bP (bC r)).kind) ⟨h8.mono (fun b hb => hb.elim (fun h => h.elim) id), ah H2.out.2 aK, aX⟩; clear hp h8 aK aX)
  |(refine wB rfl 25 (.tmp 2) (.tmp 5) rfl (w.heap.size + 1) 0 rfl (zV K8 A8 n8 c8 B8 m8 d8) rfl (HZ.out.below H8.out.2.1 HZ.out.lt) 3 au ?_; intro w9 ag; have aB := LH (ae w9 (w.heap.size + 1) (zV K8 A8 n8 c8 B8 m8 d8) 25 /\ Bw w w9 /\ ak (fun b => w2.heap.size <= b) w9 (bP (bC r)) A8 n8 c8 B8 m8 d8) ⟨ag.1, ag.below (ah (aF (ai _ _) _) H8.out.2.1) (by omega), il H8.out.1 ag (fun b hb => by have h1 := HZ.out.lt; have h2 := H2.out.2.size; omega)⟩; clear ag))
 exact cK rfl (w.heap.size + 1) rfl (C := (zV K8 A8 n8 c8 B8 m8 d8)) (T := 25) aB.out.1 _ Tryz.underlying25 rfl au rfl (by
  rw [H8.out.2.2];exact ⟨_, _, _, _, _, _, rfl, aB.out.2.2.mono (fun b hb => .inr (by have h2 := H2.out.2.size; simp at h2; omega)), aB.out.2.1⟩)
theorem Ww (q : Nat -> Prop) (base n : Nat) (h1 : 1 <= n) (hn : n <= 2000000000000) (w : World) (hb : base <= w.heap.size) : Calls Tryz.prog 150 #[.slice none 0 0, .int .i64 n] w fun e w' => ∃ v, e = .returned v /\ aD q base v [] w' /\ Bw w w' := by
 obtain ⟨i0, aZ, hz0, hz1, hz2⟩ := info_parts lG;have h := Any8.slices_Grow_grow (P := Tryz.prog) (ρ := KH) Tryz.growRx i0 _ aZ hz0 (by omega) none 0 0 n [] w (Nat.le_refl _) (by omega) (by rw [hz2]; omega) (by omega) (by simp) (fun _ => rfl) (fun a e => by cases e);refine Calls.mono h ?_;rintro e w' ⟨rfl, rfl⟩;refine ⟨_, rfl, ⟨[], aM.nil _ _, rfl, .inr ⟨w.heap.size, _, _, rfl, hb, heap_alloc_new w.drew _, Nat.zero_le _, grownCap_le_maxLen w _ _ _ (by unfold maxLen; omega), ?_, by simp⟩⟩, aF (Below.refl _ _).drew _⟩;have h2 := grownCap_ge w (0 + n) 0 25;have h3 : (Value.agg #[.int .i64 0, .slice none 0 0, .slice none 0 0]).cells.size = 3 := rfl;simp only [Array.size_append, size_zeroCells, h3, List.size_toArray, List.length_nil];have h4 : KH.t 25 = 25 := rfl;rw [h4];omega
def jy (ks : Nat -> List Rx) : Nat -> List Rx
 |0 => []
 |i + 1 => jy ks i ++ ks i
theorem LD (ks : Nat -> List Rx) {i N : Nat} (h : i <= N) : (jy ks i).length <= (jy ks N).length := by
  induction N with
  | zero => obtain rfl : i = 0 := by omega
            exact Nat.le_refl _
  | succ N ih =>
    by_cases e : i = N + 1
    · subst e; exact Nat.le_refl _
    · have := ih (by omega)
      rw [jy, List.length_append]; omega
theorem LA {p : Nat -> Prop} (N Pb : Nat) (Bf : Nat -> Option Addr) (nf df : Nat -> Nat) (ks : Nat -> List Rx) (w : World) (hN : N <= 1000) (hcell : ∀ i, i < N -> w.cell? ⟨Pb, i, none⟩ = some (.slice (Bf i) (nf i) (df i))) (hrow : ∀ i, i < N -> nf i = (ks i).length /\ bA p w (ks i) (Bf i)) (hp : ∀ b, p b -> b < w.heap.size) (h1 : 1 <= (jy ks N).length) (hT : (jy ks N).length <= 1000000000000) :
  Calls Tryz.prog 125 #[.slice (pt Pb) N N] w fun e w' => ∃ v, e = .returned v /\ aD (fun b => p b \/ w.heap.size <= b) w.heap.size v (jy ks N) w' /\ Bw w w' := by
 obtain ⟨i0, aZ, hz0, hz1, hz2⟩ := info_parts lG;obtain ⟨q, hq⟩ : ∃ q : Nat -> Prop, q = fun b => p b \/ w.heap.size <= b := ⟨_, rfl⟩
 have HQ := LH ((∀ b, p b -> q b /\ b < w.heap.size) /\ ∀ b, w.heap.size <= b -> q b) (by subst hq; exact ⟨fun b h => ⟨.inl h, hp b h⟩, fun b h => .inr h⟩);rw [<- hq];have HC := Lh hcell;have HR := Lh hrow;have HT := LH (1 <= (jy ks N).length /\ (jy ks N).length <= 1000000000000) ⟨h1, hT⟩;obtain ⟨T, Aw⟩ := eX ((jy ks N).length);have HTE := Lh Aw;clear hq hp hcell hrow h1 hT Aw;go_enter Tryz.func125, Tryz.ntmps125;go_wp2_with fail
 go_loopg [3, 11] N (fun g s3 yG wr => ∃ (i t : Nat), i + g = N /\ yG = .int .i64 (i : Int) /\ s3 = .int .i64 (t : Int) /\ Hid (t = (jy ks i).length /\ Bw w wr))
 case atStart => exact ⟨0, 0, by omega, rfl, rfl, Lh ⟨rfl, Below.refl _ _⟩⟩
 case round =>
  obtain ⟨i, t, hi, rfl, rfl, HI⟩ := hrel
  by_cases hlt : i < N
  ·obtain ⟨gg, rfl⟩ : ∃ g, gk = g + 1 := ⟨gk - 1, by omega⟩;obtain ⟨Bi, qI⟩ := eX (Bf i);obtain ⟨ni, wZ⟩ := eX (nf i);obtain ⟨di, BJ⟩ := eX (df i);have hci : wr.cell? ⟨Pb, i, none⟩ = some (.slice Bi ni di) := by
    rw [qI, wZ, BJ];exact (HI.out.2.cell (p := ⟨Pb, i, none⟩) (World.block_lt_of_cell? w _ (HC.out i hlt))).trans (HC.out i hlt)
   have wQ : t + ni <= 1000000000000 := by
    have e1 := HI.out.1;have e2 := (HR.out i hlt).1;have e3 := LD ks (show i + 1 <= N by omega);rw [jy, List.length_append] at e3;have := HT.out.2;omega
   have HNI := LH (t + ni = (jy ks (i + 1)).length) (by rw [jy, List.length_append, wZ, HI.out.1, (HR.out i hlt).1]);have Hg : ¬ ((t : Int) + (ni : Int) < 0) := by omega
   clear qI wZ BJ;go_wp2_with fail
   go_roundg gg
   case rel => exact ⟨i + 1, t + ni, by omega, by go_num, by go_num, Lh ⟨HNI.out, HI.out.2⟩⟩
   case measure => omega
  ·obtain rfl : N = i := by omega
   obtain rfl : t = T := HI.out.1.trans HTE.out.symm
   go_wp2_with ((with_reducible refine (Ww q w.heap.size t (by rw [HI.out.1]; exact HT.out.1) (by have := HT.out.2; have := HI.out.1; omega) wr HI.out.2.size).mono ?_); rintro e w2 ⟨v2, rfl, hr2, hb2⟩; have H2 := LH (aD q w.heap.size v2 [] w2 /\ Bw w w2) ⟨hr2, ah HI.out.2 hb2⟩; clear hr2 hb2)
   go_loopg [6, 27] N (fun g s6 EW wx => ∃ (i : Nat), i + g = N /\ EW = .int .i64 (i : Int) /\ Hid (aD q w.heap.size s6 (jy ks i) wx /\ Bw w wx))
   case atStart => exact ⟨0, by omega, rfl, Lh H2.out⟩
   case round =>
    obtain ⟨j, hj, rfl, HJ⟩ := hrel;obtain ⟨B5, d5, hv, _⟩ := HJ.out.1.e;obtain ⟨N5, bD⟩ := eX ((jy ks j).length);rw [<- bD] at hv;subst hv
    by_cases lh : j < N
    ·obtain ⟨g2, rfl⟩ : ∃ g, gk = g + 1 := ⟨gk - 1, by omega⟩;obtain ⟨Bi, qI⟩ := eX (Bf j);obtain ⟨ni, wZ⟩ := eX (nf j);obtain ⟨di, BJ⟩ := eX (df j);have hci : wr.cell? ⟨Pb, j, none⟩ = some (.slice Bi ni di) := by
      rw [qI, wZ, BJ];exact (HJ.out.2.cell (p := ⟨Pb, j, none⟩) (World.block_lt_of_cell? w _ (HC.out j lh))).trans (HC.out j lh)
     have wQ : N5 + ni <= 1000000000000 := by
      have e1 := (HR.out j lh).1;have e3 := LD ks (show j + 1 <= N by omega);rw [jy, List.length_append] at e3;have := HT.out.2;omega
     have hs1 : N5 + ni <= maxLen := by unfold maxLen; omega
     have hs2 : (N5 + ni) * 56 <= 140737488355328 := by omega
     obtain ⟨xs, hC, hO⟩ := HJ.out.1;rw [<- bD] at hO;have Ed := Lh hC;have Ag := Lh hO;have jg : bA (fun b => q b /\ some b ≠ (Value.slice B5 N5 d5).ownBlock) wr (ks j) Bi := by
      rw [qI];exact ((HR.out j lh).2.below HJ.out.2).mono fun b hb => ⟨(HQ.out.1 b hb).1, fun e => by have h1 := (hO.lt b e.symm).1; have h2 := (HQ.out.1 b hb).2; omega⟩
     obtain ⟨ys, gG, jl⟩ := zY (w := wr) (size := i0.size) hz1 (wZ.trans (HR.out j lh).1) jg (d := di);have pY := Lh gG;have oI := Lh jl;have HNI := LH (ni = (ks j).length) (wZ.trans (HR.out j lh).1);have bB := Lh bD;clear qI wZ BJ hC hO jg gG jl wQ bD
     go_wp2_with (at_builtin; refine gW rfl (.tmp 31) (.tmp 32) 23 23 rfl w.heap.size 25 i0 _ 3 56 Tryz.underlying23 aZ hz0 hz1 hz2 rfl _ _ _ rfl Ag.out _ ni ys rfl oI.out hs1 hs2 HJ.out.2.size ?_; intro v9 w9 dJ dN fe; have aR := LH (aD q w.heap.size v9 (jy ks (j + 1)) w9 /\ Bw w w9) ⟨aD.app Ed.out (Below.refl _ _) pY.out HNI.out dN fe (by rw [<- bB.out]; exact dJ), eH HJ.out.2 dN (fun g hg => (Ag.out.lt _ hg).1)⟩; clear dJ dN fe)
     go_roundg g2
     case rel => exact ⟨j + 1, by omega, by go_num, aR⟩
     case measure => omega
    ·obtain rfl : N = j := by omega
     go_wp2_with fail;go_ret;exact ⟨_, rfl, HJ.out⟩
namespace Rgx
def bN (s : Int) (x : Rx) : Rx := normR false (gV s x)
theorem NF.dp {x : Rx} (s : Int) (h : aC x = true) : NF (bN s x) := NF.normR false (Ic s h)
def jA (s : Int) : List Rx -> List Rx
 |[] => []
 |r :: rs => (if (bN s r).kind ≠ 0 then [seqP (bN s r :: rs)] else []) ++ if aO r then jA s rs else []
theorem RO {ks : List Rx} (h : ∀ x ∈ ks, NF x) : ks.map (normR false) = ks := by
 induction ks with
 |nil => rfl
 |cons x t ih => rw [List.map_cons, LY (h x (by simp)), ih fun y hy => h y (by simp [hy])]
theorem MG {s : Int} : ∀ {ks : List Rx}, (∀ x ∈ ks, NF x) -> dS (jA s ks) ((kJ s ks).map (normR false))
 |[], _ => by rw [jA, kJ]; exact dS.refl _
 |r :: rs, h => by
  have ih := MG (s := s) (ks := rs) fun x hx => h x (by simp [hx])
  have mM := RO (ks := rs) fun x hx => h x (by simp [hx])
  have e1 : normR false (.mk 3 [] (gV s r :: rs)) = seqP (bN s r :: rs) := by
   rw [lH, if_pos (show (Rx.mk 3 [] (gV s r :: rs)).kind = 3 from rfl)];show seqP ((gV s r :: rs).map (normR false)) = _;rw [List.map_cons, mM]; rfl
  rw [jA, kJ, List.map_cons, e1];have hA : dS (if (bN s r).kind ≠ 0 then [seqP (bN s r :: rs)] else []) [seqP (bN s r :: rs)] := by
   by_cases h0 : (bN s r).kind ≠ 0
   ·rw [if_pos h0]; exact dS.refl _
   ·rw [if_neg h0];have h0' : (bN s r).kind = 0 := by simpa using h0
    have e2 : seqP (bN s r :: rs) = .mk 0 [] [] := by
     unfold seqP;rw [seqGo, if_pos h0']
    rw [e2];exact dS.none.symm
  have hB : dS (if aO r then jA s rs else []) ((if aO r then kJ s rs else []).map (normR false)) := by
   by_cases ha : aO r = true
   ·rw [if_pos ha, if_pos ha]; exact ih
   ·rw [if_neg ha, if_neg ha]; exact dS.refl _
  exact hA.app hB
theorem dp1 {s : Int} {x : Rx} (h : NF x) (hk : x.kind <= 1) : bN s x = .mk 0 [] [] := by
 have hr := h.rng;have : x.kind = 0 \/ x.kind = 1 := by omega
 rcases this with e | e
 ·rw [h.k0 e]; unfold bN; rw [uq]; rfl
 ·rw [h.k1 e]; unfold bN; rw [uq]; rfl
theorem dp2 {s : Int} {x : Rx} (hk : x.kind = 2) : bN s x = if x.syms.contains s then .mk 1 [] [] else .mk 0 [] [] := by
 unfold bN;rw [uq, if_pos hk]
 split <;> rfl
theorem dp3 {s : Int} {x : Rx} (h : NF x) (hk : x.kind = 3) : bN s x = altP (jA s x.kids) := by
 unfold bN;rw [uq, if_neg (by omega), if_neg (by omega), if_neg (by omega), if_pos hk, lH];rw [if_neg (show ¬ (Rx.mk 4 [] (kJ s x.kids)).kind = 3 by simp [Rx.kind]), if_pos (show (Rx.mk 4 [] (kJ s x.kids)).kind = 4 from rfl)];exact (MG h.kids).symm.of
theorem dp4 {s : Int} {x : Rx} (hk : x.kind = 4) : bN s x = altP (x.kids.map (bN s)) := by
 unfold bN;rw [uq, if_neg (by omega), if_neg (by omega), if_neg (by omega), if_neg (by omega), CJ, lH];rw [if_neg (show ¬ (Rx.mk 4 [] (x.kids.map (gV s))).kind = 3 by simp [Rx.kind]), if_pos (show (Rx.mk 4 [] (x.kids.map (gV s))).kind = 4 from rfl)];show altP ((x.kids.map (gV s)).map (normR false)) = _;rw [List.map_map]; rfl
theorem dp5 {s : Int} {x y : Rx} (h : NF x) (hk : x.kind = 5) (hy : x.kids = [y]) : bN s x = seqP [bN s y, x] := by
 unfold bN;rw [uq, if_neg (by omega), if_pos hk, lH, if_pos (show (Rx.mk 3 [] [ug s x.kids, x]).kind = 3 from rfl), hy];show seqP ([ug s [y], x].map (normR false)) = _;rw [List.map_cons, List.map_cons, List.map_nil, LY h, ug]
theorem OA {c S X Y : Int} (hc : 1 <= c) (hS : 0 <= S) (hX : X <= c * c) (hY : Y <= (S + 1) * (S + 1) - 1) : 1 + X + S + Y <= (c + S + 1) * (c + S + 1) - 1 := by
 have h1 : S <= c * S := by have := Int.mul_le_mul_of_nonneg_right hc hS; rwa [Int.one_mul] at this
 have e : (c + S + 1) * (c + S + 1) = c * c + c * S + c * S + S * S + c + c + S + S + 1 := by
  rw [Int.add_mul, Int.add_mul, Int.mul_add, Int.mul_add, Int.mul_add, Int.mul_add, Int.mul_comm S c];omega
 have e2 : (S + 1) * (S + 1) = S * S + S + S + 1 := by rw [Int.add_mul, Int.mul_add]; omega
 rw [e];rw [e2] at hY;omega
theorem KY {c S X Y : Int} (hc : 1 <= c) (hS : 0 <= S) (hX : X <= c * c) (hY : Y <= S * S) : X + Y <= (c + S) * (c + S) := by
 have h1 : 0 <= c * S := Int.mul_nonneg (by omega) hS;have e : (c + S) * (c + S) = c * c + c * S + c * S + S * S := by
  rw [Int.add_mul, Int.mul_add, Int.mul_add, Int.mul_comm S c]; omega
 rw [e]; omega
theorem qZ {a b : Int} (h0 : 0 <= a) (h : a <= b) : a * a <= b * b := Int.mul_le_mul h h h0 (by omega)
theorem Ol {s : Int} : ∀ {ks : List Rx}, (∀ x ∈ ks, az (gV s x) <= az x * az x) -> aj (kJ s ks) <= (aj ks + 1) * (aj ks + 1) - 1
 |[], _ => by rw [kJ]; simp [aj]
 |r :: rs, h => by
  have ih := Ol (s := s) (ks := rs) fun x hx => h x (by simp [hx])
  have h1 := h r (by simp);have hp := fQ r;have hq := iF rs;rw [kJ];have e0 : aj (if aO r then kJ s rs else []) <= (aj rs + 1) * (aj rs + 1) - 1 := by
   split
   ·exact ih
   ·simp only [aj];have := qZ (a := 1) (b := aj rs + 1) (by omega) (by omega);omega
  simp only [aj];have e1 : az (.mk 3 [] (gV s r :: rs)) = 1 + (az (gV s r) + aj rs) := by
   rw [fP]; simp only [Rx.kids, aj]
  rw [e1];have := OA (X := az (gV s r)) hp hq h1 e0;omega
theorem Om {s : Int} : ∀ {ks : List Rx}, (∀ x ∈ ks, az (gV s x) <= az x * az x) -> aj (ks.map (gV s)) <= aj ks * aj ks
 |[], _ => by simp [aj]
 |r :: rs, h => by
  have ih := Om (s := s) (ks := rs) fun x hx => h x (by simp [hx])
  have h1 := h r (by simp);rw [List.map_cons];simp only [aj];exact KY (fQ r) (iF rs) h1 ih
theorem Uf {s : Int} {x : Rx} (hv : aC x = true) : az (gV s x) <= az x * az x := by
 induction x using Rx.ind with
 |h x ih =>
  have hd : ∀ y ∈ x.kids, az (gV s y) <= az y * az y := fun y hy => ih y hy (jL hv y hy)
  have hp := fQ x;have h1 : 1 <= az x * az x := by have := qZ (a := 1) (b := az x) (by omega) hp; omega
  have hk := fP x;have hq := iF x.kids;have h0 : az (.mk 0 [] []) = 1 := by rw [fP]; rfl
  have y5 : az (.mk 1 [] []) = 1 := by rw [fP]; rfl
  rw [uq]
  by_cases k2 : x.kind = 2
  ·rw [if_pos k2]; split <;> omega
  ·rw [if_neg k2]
   by_cases k5 : x.kind = 5
   ·rw [if_pos k5];obtain ⟨y, hy⟩ : ∃ y, x.kids = [y] := by
     rcases kw hv with rfl | rfl | ⟨s, rfl, _⟩ | ⟨ks, rfl, _⟩ | ⟨ks, rfl, _⟩ | ⟨y, rfl, _⟩ <;> simp [Rx.kind] at k5 <;> exact ⟨_, rfl⟩
    have h2 := hd y (by rw [hy]; simp);have e : az (.mk 3 [] [ug s x.kids, x]) = 1 + (az (gV s y) + (az x + 0)) := by
     rw [fP, hy, ug]; simp only [Rx.kids, aj]
    have e2 : az x = 1 + az y := by rw [hk, hy]; simp [aj]
    have hpy := fQ y;have e3 : (1 + az y) * (1 + az y) = az y * az y + az y + az y + 1 := by
     rw [Int.add_mul, Int.mul_add, Int.mul_add]; omega
    rw [e, e2, e3];omega
   ·rw [if_neg k5]
    by_cases k1 : x.kind <= 1
    ·rw [if_pos k1]; omega
    ·rw [if_neg k1]
     by_cases k3 : x.kind = 3
     ·rw [if_pos k3, fP];show 1 + aj (kJ s x.kids) <= _;have h2 := Ol hd;rw [hk, Int.add_comm 1 (aj x.kids)];omega
     ·rw [if_neg k3, fP, CJ];show 1 + aj (x.kids.map (gV s)) <= _;have h2 := Om hd;have e3 : (1 + aj x.kids) * (1 + aj x.kids) = aj x.kids * aj x.kids + aj x.kids + aj x.kids + 1 := by
       rw [Int.add_mul, Int.mul_add, Int.mul_add]; omega
      rw [hk, e3];omega
theorem BM {s : Int} {x : Rx} (hv : aC x = true) : az (bN s x) <= az x * az x := by
 have h1 := zJ false (Ic s hv);have h2 := Uf (s := s) hv;unfold bN;omega
theorem Gl {s : Int} : ∀ {ks : List Rx}, (∀ x ∈ ks, NF x) -> aj (jA s ks) <= (aj ks + 1) * (aj ks + 1) - 1
 |[], _ => by rw [jA]; simp [aj]
 |r :: rs, h => by
  have ih := Gl (s := s) (ks := rs) fun x hx => h x (by simp [hx])
  have h1 := BM (s := s) (h r (by simp)).val;have hp := fQ r;have hq := iF rs;rw [jA, lJ];have e0 : aj (if aO r then jA s rs else []) <= (aj rs + 1) * (aj rs + 1) - 1 := by
   split
   ·exact ih
   ·simp only [aj];have := qZ (a := 1) (b := aj rs + 1) (by omega) (by omega);omega
  have e1 : aj (if (bN s r).kind ≠ 0 then [seqP (bN s r :: rs)] else []) <= 1 + az (bN s r) + aj rs := by
   have h3 := fQ (bN s r)
   split
   ·have h2 := Oa (bN s r :: rs);simp only [aj] at h2 ⊢;omega
   ·simp only [aj]; omega
  simp only [aj];have := OA (X := az (bN s r)) hp hq h1 e0;omega
theorem QO {s : Int} {ks : List Rx} {i : Nat} (hi : i < ks.length) : jA s (ks.drop i) = (if (bN s (av ks i)).kind ≠ 0 then [seqP (bN s (av ks i) :: ks.drop (i + 1))] else []) ++ if aO (av ks i) then jA s (ks.drop (i + 1)) else [] := by
 rw [List.drop_eq_getElem_cons hi, jA, gI hi]
end Rgx
theorem gX {P : Program} {fn : Func} {p q : Tmp} {ty : TypeId} {R : Ending -> World -> Prop} {a : Act} {w : World} (hr : fn.results = #[.cell p ty, .tmp q]) (g : Nat) (hp : a.tmps.getD p undef = .pointer (pt g)) {C : List Value} {T : TypeId} (hb : ae w g C T) (d : TypeDesc) (hu : P.underlying ty = some d) (hd : d.isRow = true)
  (hi : (P.info? ty).map (·.size) = some C.length) (hdf : a.defers = []) (u : Value) (hq : a.tmps.getD q undef = u) (hR : R (.returned (.tuple #[.agg C.toArray, u])) w) : bodyPost P fn R .ret a w := by
 subst hq;refine bodyPost_ret ?_ hdf hR;have hp' : a.tmps[p]?.getD undef = .pointer (pt g) := by simpa using hp
 simp [results, hr, hp', asAddr, run_loadVar_row w g T ty C.toArray (0, 0) d hb hu (by cases d <;> simp_all) (by simpa using hi)]
def D2 (p : Nat -> Prop) (w : World) (y : Rx) (V : Bool) (e : Ending) (w' : World) : Prop := ∃ A n c B m d, e = .returned (.tuple #[.agg #[.int .i64 y.kind, .slice A n c, .slice B m d], .bool V]) /\ ak (fun b => p b \/ w.heap.size <= b) w' y A n c B m d /\ Bw w w'
def uj (s : Int) (x : Rx) : Prop := ∀ (p : Nat -> Prop) (w : World) (A B : Option Addr) (n c m d : Nat), (∀ b, p b -> b < w.heap.size) -> DB w -> ak p w x A n c B m d -> Calls Tryz.prog 56 #[.agg #[.int .i64 x.kind, .slice A n c, .slice B m d], .int .i64 s] w (D2 p w (bN s x) (aO x))
theorem wh {p : Nat -> Prop} {s : Int} {w : World} {x : Rx} {K : Int} {A B : Option Addr} {n c m d : Nat} (hK : K = x.kind) (h : uj s x) (hp : ∀ b, p b -> b < w.heap.size) (hd : DB w) (hx : ak p w x A n c B m d) (y : Rx) (V : Bool) (hy : y = bN s x) (hV : V = aO x) : Calls Tryz.prog 56 #[.agg #[.int .i64 K, .slice A n c, .slice B m d], .int .i64 s] w (D2 p w y V) := by
 subst hK hy hV;exact h p w A B n c m d hp hd hx
theorem Rgx.bA.drop {p : Nat -> Prop} {w : World} {ks : List Rx} {b o o' : Nat} (h : bA p w ks (some ⟨b, o, none⟩)) (k : Nat) (ho : k < ks.length -> o' = o + k * 3) : bA p w (ks.drop k) (some ⟨b, o', none⟩) := fun i hi => by
 rw [List.length_drop] at hi;have vJ := ho (by omega);subst vJ;obtain ⟨b', o2, v1, v2, e, h1, h2, h3, h4⟩ := h (k + i) (by omega);obtain ⟨rfl, rfl⟩ : b = b' /\ o = o2 := by simpa using e
 have e1 : o + k * 3 + i * 3 = o + (k + i) * 3 := by omega
 have e2 : (ks.drop k)[i]'(by rw [List.length_drop]; omega) = ks[k + i]'(by omega) := by rw [List.getElem_drop]
 exact ⟨b, o + k * 3, v1, v2, rfl, by rw [e1, e2]; exact h1, by rw [e1]; exact h2, by rw [e1]; exact h3, by rw [e2]; exact h4⟩
theorem VP {s : Int} {ks : List Rx} {i : Nat} (hi : i < ks.length) (hN : ∀ x ∈ ks, NF x) : az (bN s (av ks i)) + aj (ks.drop (i + 1)) <= (aj ks + 1) * (aj ks + 1) := by
 have hm := gU (ks := ks) hi;have h1 := BM (s := s) (hN _ hm).val;have h2 := fQ (av ks i);have h4 : aj ks = aj (ks.take i) + (az (av ks i) + aj (ks.drop (i + 1))) := by
  have e : ks = ks.take i ++ (av ks i :: ks.drop (i + 1)) := by
   rw [gI hi, <- List.drop_eq_getElem_cons hi, List.take_append_drop]
  calc aj ks = aj (ks.take i ++ (av ks i :: ks.drop (i + 1))) := by rw [<- e]
   _ = _ := by rw [lJ]; simp only [aj]
 have h5 := iF (ks.take i);have h6 := iF (ks.drop (i + 1));have h7 := qZ (a := az (av ks i)) (b := aj ks) (by omega) (by omega);have e2 : (aj ks + 1) * (aj ks + 1) = aj ks * aj ks + aj ks + aj ks + 1 := by rw [Int.add_mul, Int.mul_add]; omega
 rw [e2];omega
theorem Qg {s : Int} (ks : List Rx) (hN : ∀ x ∈ ks, NF x) (hcm : aj ks + 1 <= 1000000) (ih : ∀ x ∈ ks, uj s x) {p : Nat -> Prop} (w : World) (hp : ∀ b, p b -> b < w.heap.size) (hd : DB w) (B : Option Addr) (m d : Nat) (hm : m = ks.length) (iA : m <= d) (fG : d <= 9223372036854775807) (hk : bA p w ks B) : Calls Tryz.prog 89 #[.slice B m d, .int .i64 s] w (D2 p w (altP (jA s ks)) (ks.all aO)) := by
 obtain ⟨i0, aZ, hz0, hz1, hz2⟩ := info_parts lG;obtain ⟨q, hq⟩ : ∃ q : Nat -> Prop, q = fun b => (p b \/ w.heap.size < b) := ⟨_, rfl⟩
 obtain ⟨R, hR⟩ := eX (altP (jA s ks));obtain ⟨VA, gK⟩ := eX (ks.all aO);rw [<- hR, <- gK];have HR := Lh hR;have HV := Lh gK;have HL := LH (m = ks.length /\ bA p w ks B /\ (∀ x ∈ ks, NF x) /\ aj ks + 1 <= 1000000) ⟨hm, hk, hN, hcm⟩;have dH := Lh ih;have gM := Lh hd;have HQ := LH ((∀ b, p b -> q b) /\ (∀ b, w.heap.size < b -> q b) /\ (∀ b, p b -> b < w.heap.size) /\ (∀ b, q b -> b ≠ w.heap.size) /\ ∀ b, q b -> p b \/ w.heap.size <= b) (by subst hq; exact ⟨fun b h => .inl h, fun b h => .inr h, hp, fun b h => by rcases h with h | h; (have := hp b h; omega); omega, fun b h => by rcases h with h | h; exact .inl h; exact .inr (by omega)⟩);have HZ := LH (ae (w.alloc zR) w.heap.size zL 25) (ae.at w zL _ 25 _ rfl rfl);have ve : m <= 1000000 := by have := mW ks; omega
 clear hm hk hN hcm ih hp hd hq hR gK;go_enter Tryz.func89, Tryz.ntmps89;go_wp2_with fail
 go_loopg [6, 13] m (fun g s6 pX wr => ∃ (i : Nat) (rs : List Rx), i + g = m /\ pX = .int .i64 (i : Int) /\ Hid (rs ++ jA s (ks.drop i) = jA s ks /\ (ks.take i).all aO = true /\ aD q (w.heap.size + 1) s6 rs wr /\ Below (w.alloc zR).heap.size (w.alloc zR) wr /\ (∀ y ∈ rs, NF y) /\ rs.length <= i))
 case atStart => exact ⟨0, [], by omega, rfl, Lh ⟨rfl, rfl, aD.nil _ _ _, Below.refl _ _, (fun y hy => by cases hy), Nat.le_refl _⟩⟩
 case round =>
  obtain ⟨i, rs, hi, rfl, HI⟩ := hrel;obtain ⟨B5, d5, hv, sW, uY, vv, wI⟩ := HI.out.2.2.1.e;obtain ⟨N5, bD⟩ := eX rs.length;rw [<- bD] at hv;subst hv;have bB := Lh bD
  by_cases hlt : i < m
  ·obtain ⟨gg, rfl⟩ : ∃ g, gk = g + 1 := ⟨gk - 1, by omega⟩;have bR := LH (i < ks.length) (by rw [<- HL.out.1]; exact hlt);have bX := LH (Below (w.alloc zR).heap.size (w.alloc zR) wr) HI.out.2.2.2.1;have bg := LH (Bw w wr) (ah (ai _ _) bX.out);obtain ⟨b, o, rfl⟩ := HL.out.2.1.place (by have := bR.out; omega);obtain ⟨A2, n2, c2, B2, m2, d2, hrg, ax⟩ := HL.out.2.1.kid bR.out;have hrg2 := iW hrg bg.out;obtain ⟨Kk, iQ⟩ := eX ((av ks i).kind);rw [<- iQ] at hrg2;have aP := Lh hrg2;have bY := gU (ks := ks) bR.out;have HK := LH (uj s (av ks i) /\ Kk = (av ks i).kind /\ ak p w (av ks i) A2 n2 c2 B2 m2 d2) ⟨dH.out _ bY, iQ, ax⟩;obtain ⟨D, hD⟩ := eX (bN s (av ks i));obtain ⟨V, hV⟩ := eX (aO (av ks i));obtain ⟨K8, aX⟩ := eX D.kind;have fU := LH (K8 = D.kind) aX;have yg := LH (NF D) (by rw [hD]; exact NF.dp s (HL.out.2.2.1 _ bY).val);have HD := LH (D = bN s (av ks i) /\ V = aO (av ks i)) ⟨hD, hV⟩;have HDC := LH (az D + aj (ks.drop (i + 1)) <= 1000000000000) (by
    have h1 := VP (s := s) bR.out HL.out.2.2.1;have h2 := qZ (a := aj ks + 1) (b := 1000000) (by have := iF ks; omega) HL.out.2.2.2;rw [hD]; omega)
   have hstep := QO (s := s) bR.out;rw [<- hD, <- hV, <- aX] at hstep;have uU := Lh hstep;obtain ⟨o9, ho9, hsl⟩ := Cc (P := Tryz.prog) (t := 23) (e := 25) (i := i0) Tryz.underlying23 aZ b o m d (i + 1) (by omega) iA;have hsl2 : ∀ W, (Instr.slice 23 (.slice (some ⟨b, o, none⟩) m d) (some (.int .i64 ((i : Int) + 1))) none none).run Tryz.prog W = .ok (.slice (some ⟨b, o9, none⟩) (m - (i + 1)) (d - (i + 1))) W := fun W => hsl W
   have hwr1 : IntKind.i64.wrap ((i : Int) + 1) = (i : Int) + 1 := by rw [IntKind.wrap_i64]; omega
   have PV := LH (bA p w (ks.drop (i + 1)) (some ⟨b, o9, none⟩)) (HL.out.2.1.drop (i + 1) fun h => by have := ho9 (by have := HL.out.1; omega); rw [hz1] at this; exact this);obtain ⟨xs, hC, hO⟩ := HI.out.2.2.1;rw [<- bD] at hO;have HC := Lh hC;have HO := Lh hO;have hs1 : N5 + 1 <= maxLen := by have h1 := HI.out.2.2.2.2.2; have h2 := bB.out; unfold maxLen; omega
   have hs2 : (N5 + 1) * 56 <= 140737488355328 := by have h1 := HI.out.2.2.2.2.2; have h2 := bB.out; omega
   have oD := LH ((∀ b, p b -> (fun b => q b /\ some b ≠ (Value.slice B5 N5 d5).ownBlock) b) /\ ∀ b, wr.heap.size <= b -> (fun b => q b /\ some b ≠ (Value.slice B5 N5 d5).ownBlock) b) ⟨fun b hb => ⟨HQ.out.1 b hb, fun e => by have h1 := (hO.lt b e.symm).1; have h2 := HQ.out.2.2.1 b hb; omega⟩, fun b hb => ⟨HQ.out.2.1 b (by have h1 := bX.out.size; simp at h1; omega), fun e => by have h1 := (hO.lt b e.symm).2; omega⟩⟩;clear hC hO;clear hrg ax hrg2 iQ bY hD hV aX hstep hsl ho9 sW uY vv wI bD
   by_cases k0 : K8 = 0
   ·have e1 : decide (K8 = 0) = true := dT k0;have e2 : (K8 == 0) = true := bT k0;have uU := LH (jA s (ks.drop i) = (if (0 : Int) ≠ 0 then [seqP (D :: ks.drop (i + 1))] else []) ++ if V = true then jA s (ks.drop (i + 1)) else []) (by have h := uU.out; rw [k0] at h; exact h);clear k0
    cases V
    ·skip
     go_wp2_with (first
       |(refine aG rfl (.tmp 16) rfl b (o + i * 3) rfl Kk A2 B2 n2 c2 m2 d2 aP.out ?_)
       |(refine wB rfl 25 (.tmp 8) (.tmp 17) rfl wr.heap.size 0 rfl (zV Kk A2 n2 c2 B2 m2 d2) rfl (ae.new' wr zL _ 25 rfl) 3 au ?_; intro w4 ag; have aA := LH (ae w4 wr.heap.size (zV Kk A2 n2 c2 B2 m2 d2) 25 /\ Bw wr w4) (dC ag); clear ag; have jb := aS aA.out.1)
       |(refine aG rfl (.tmp 8) rfl wr.heap.size (0) rfl Kk A2 B2 n2 c2 m2 d2 jb ?_)
       |((with_reducible refine (wh (p := p) HK.out.2.1 HK.out.1 (fun b hb => by have h1 := HQ.out.2.2.1 b hb; have h2 := bg.out.size; have h3 := aA.out.2.size; omega) (gM.out.below (ah bg.out aA.out.2)) (HK.out.2.2.below (ah bg.out aA.out.2)) D false HD.out.1 HD.out.2).mono ?_); rintro e w5 ⟨A8, n8, c8, B8, m8, d8, rfl, h8, aK⟩; rw [<- fU.out]; have H5 := LH (ak (fun b => q b /\ some b ≠ (Value.slice B5 N5 d5).ownBlock) w5 D A8 n8 c8 B8 m8 d8 /\ Bw wr w5) ⟨h8.mono (fun b hb => by
          rcases hb with hb | hb
          ·exact oD.out.1 b hb
          ·exact oD.out.2 b (by have h3 := aA.out.2.size; omega)), ah aA.out.2 aK⟩; clear h8 aK)
       |(refine wB rfl 25 (.tmp 9) (.tmp 22) rfl w5.heap.size 0 rfl (zV K8 A8 n8 c8 B8 m8 d8) rfl (ae.new' w5 zL _ 25 rfl) 3 au ?_; intro w6 ag; have aJ := LH (ae w6 w5.heap.size (zV K8 A8 n8 c8 B8 m8 d8) 25 /\ Bw w5 w6) (dC ag); clear ag; have JU := aJ.out.1.cell (j := 0) rfl; have eZ := LH (Bw wr w6) (ah H5.out.2 aJ.out.2); have jo := LH ((fun w' : World => w'.rangeAt w5.heap.size 0 (zV K8 A8 n8 c8 B8 m8 d8)) w6.drew) (aS aJ.out.1))
       )
     have dZ := LH (aD q (w.heap.size + 1) (.slice B5 N5 d5) (rs) w6 /\ Below (w.alloc zR).heap.size (w.alloc zR) w6) ⟨HI.out.2.2.1.below eZ.out, ah bX.out eZ.out⟩;have mQ := LH (∀ y ∈ rs, NF y) (HI.out.2.2.2.2.1);have wY := LH (rs = jA s ks) (by
       have h1 := HI.out.1;have h2 := uU.out;rw [if_neg (by simp), if_neg (by simp)] at h2;rw [h2] at h1
       simpa using h1)
     have xX := LH (ks.all aO = false) (by
       rw [List.all_eq_false];exact ⟨av ks i, gU bR.out, by simp [<- HD.out.2]⟩)
     obtain ⟨Bz, dz, yF, DY, hzb, zh, _⟩ := dZ.out.1.e;rw [Value.slice.injEq] at yF;obtain ⟨rfl, -, rfl⟩ := yF;have fK := LH (Below (w.alloc zR).heap.size (w.alloc zR) w6 /\ (rs).length <= d5 /\ d5 <= 9223372036854775807 /\ (∀ y ∈ rs, NF y) /\ aj (rs) <= 1000000000000 /\ bA (fun b => q b /\ b < w6.heap.size) w6 (rs) B5) ⟨dZ.out.2, DY, hzb, mQ.out, by
       have h1 := Gl (s := s) HL.out.2.2.1;have h2 := qZ (a := aj ks + 1) (b := 1000000) (by have := iF ks; omega) HL.out.2.2.2;rw [wY.out]; omega, (zh.mono fun b hb => hb.1).lt⟩
     clear DY hzb zh
     go_wp2_with (first
       |((with_reducible refine (CG (p := fun b => q b /\ b < w6.heap.size) w6 (fun b hb => hb.2) (gM.out.below (ah (ai _ _) fK.out.1)) (rs) B5 N5 d5 bB.out (by rw [bB.out]; exact fK.out.2.1) fK.out.2.2.1 fK.out.2.2.2.1 fK.out.2.2.2.2.1 fK.out.2.2.2.2.2).mono ?_); rintro e kX hp; obtain ⟨A9, n9, c9, B9, m9, d9, rfl, h9, fo⟩ := dV hp; have lV := LH (ak q kX (altP (rs)) A9 n9 c9 B9 m9 d9 /\ Below (w.alloc zR).heap.size (w.alloc zR) kX) ⟨h9.mono (fun b hb => by
          rcases hb with hb | hb
          ·exact hb.1
          ·exact HQ.out.2.1 b (by have h1 := fK.out.1.size; simp at h1; omega)), ah fK.out.1 fo⟩; clear hp h9 fo)
       |(refine wB rfl 25 (.tmp 4) (.tmp 42) rfl w.heap.size 0 rfl [.int .i64 (altP (rs)).kind, .slice A9 n9 c9, .slice B9 m9 d9] rfl (HZ.out.below lV.out.2 (by simp)) 3 au ?_; intro w9 ag; have aB := LH (ae w9 w.heap.size [.int .i64 (altP (rs)).kind, .slice A9 n9 c9, .slice B9 m9 d9] 25 /\ Bw w w9 /\ ak q w9 (altP (rs)) A9 n9 c9 B9 m9 d9) ⟨ag.1, ag.below (ah (ai _ _) lV.out.2) (Nat.le_refl _), il lV.out.1 ag HQ.out.2.2.2.1⟩; clear ag))
     exact gX rfl w.heap.size rfl (C := [.int .i64 (altP (rs)).kind, .slice A9 n9 c9, .slice B9 m9 d9]) (T := 25) aB.out.1 _ Tryz.underlying25 rfl au rfl (.bool false) rfl (by
       rw [HR.out, HV.out];rw [<- wY.out, xX.out];exact ⟨_, _, _, _, _, _, rfl, aB.out.2.2.mono (fun b hb => by rcases HQ.out.2.2.2.2 b hb with h | h; exact .inl h; exact .inr (by omega)), aB.out.2.1⟩)
    ·skip
     go_wp2_with (first
       |(refine aG rfl (.tmp 16) rfl b (o + i * 3) rfl Kk A2 B2 n2 c2 m2 d2 aP.out ?_)
       |(refine wB rfl 25 (.tmp 8) (.tmp 17) rfl wr.heap.size 0 rfl (zV Kk A2 n2 c2 B2 m2 d2) rfl (ae.new' wr zL _ 25 rfl) 3 au ?_; intro w4 ag; have aA := LH (ae w4 wr.heap.size (zV Kk A2 n2 c2 B2 m2 d2) 25 /\ Bw wr w4) (dC ag); clear ag; have jb := aS aA.out.1)
       |(refine aG rfl (.tmp 8) rfl wr.heap.size (0) rfl Kk A2 B2 n2 c2 m2 d2 jb ?_)
       |((with_reducible refine (wh (p := p) HK.out.2.1 HK.out.1 (fun b hb => by have h1 := HQ.out.2.2.1 b hb; have h2 := bg.out.size; have h3 := aA.out.2.size; omega) (gM.out.below (ah bg.out aA.out.2)) (HK.out.2.2.below (ah bg.out aA.out.2)) D true HD.out.1 HD.out.2).mono ?_); rintro e w5 ⟨A8, n8, c8, B8, m8, d8, rfl, h8, aK⟩; rw [<- fU.out]; have H5 := LH (ak (fun b => q b /\ some b ≠ (Value.slice B5 N5 d5).ownBlock) w5 D A8 n8 c8 B8 m8 d8 /\ Bw wr w5) ⟨h8.mono (fun b hb => by
          rcases hb with hb | hb
          ·exact oD.out.1 b hb
          ·exact oD.out.2 b (by have h3 := aA.out.2.size; omega)), ah aA.out.2 aK⟩; clear h8 aK)
       |(refine wB rfl 25 (.tmp 9) (.tmp 22) rfl w5.heap.size 0 rfl (zV K8 A8 n8 c8 B8 m8 d8) rfl (ae.new' w5 zL _ 25 rfl) 3 au ?_; intro w6 ag; have aJ := LH (ae w6 w5.heap.size (zV K8 A8 n8 c8 B8 m8 d8) 25 /\ Bw w5 w6) (dC ag); clear ag; have JU := aJ.out.1.cell (j := 0) rfl; have eZ := LH (Bw wr w6) (ah H5.out.2 aJ.out.2); have jo := LH ((fun w' : World => w'.rangeAt w5.heap.size 0 (zV K8 A8 n8 c8 B8 m8 d8)) w6.drew) (aS aJ.out.1))
       )
     have dZ := LH (aD q (w.heap.size + 1) (.slice B5 N5 d5) (rs) w6 /\ Below (w.alloc zR).heap.size (w.alloc zR) w6) ⟨HI.out.2.2.1.below eZ.out, ah bX.out eZ.out⟩;have mQ := LH (∀ y ∈ rs, NF y) (HI.out.2.2.2.2.1);go_wp2_with fail
     go_roundg gg
     case rel => exact ⟨i + 1, rs, by omega, by go_num, Lh ⟨by
       have h1 := HI.out.1;have h2 := uU.out;rw [if_neg (by simp), if_pos (by first | rfl | trivial)] at h2;rw [h2] at h1
       simpa using h1, by rw [List.take_succ_eq_append_getElem bR.out, List.all_append, HI.out.2.1, <- gI bR.out]; simp [<- HD.out.2], dZ.out.1, dZ.out.2, mQ.out, by have h1 := HI.out.2.2.2.2.2; omega⟩⟩
     case measure => omega
   ·have e1 : decide (K8 = 0) = false := dF k0;have e2 : (K8 == 0) = false := bF k0;have xY := LH (K8 ≠ 0) k0;clear k0
    cases V
    ·skip
     go_wp2_with (first
       |(refine aG rfl (.tmp 16) rfl b (o + i * 3) rfl Kk A2 B2 n2 c2 m2 d2 aP.out ?_)
       |(refine wB rfl 25 (.tmp 8) (.tmp 17) rfl wr.heap.size 0 rfl (zV Kk A2 n2 c2 B2 m2 d2) rfl (ae.new' wr zL _ 25 rfl) 3 au ?_; intro w4 ag; have aA := LH (ae w4 wr.heap.size (zV Kk A2 n2 c2 B2 m2 d2) 25 /\ Bw wr w4) (dC ag); clear ag; have jb := aS aA.out.1)
       |(refine aG rfl (.tmp 8) rfl wr.heap.size (0) rfl Kk A2 B2 n2 c2 m2 d2 jb ?_)
       |((with_reducible refine (wh (p := p) HK.out.2.1 HK.out.1 (fun b hb => by have h1 := HQ.out.2.2.1 b hb; have h2 := bg.out.size; have h3 := aA.out.2.size; omega) (gM.out.below (ah bg.out aA.out.2)) (HK.out.2.2.below (ah bg.out aA.out.2)) D false HD.out.1 HD.out.2).mono ?_); rintro e w5 ⟨A8, n8, c8, B8, m8, d8, rfl, h8, aK⟩; rw [<- fU.out]; have H5 := LH (ak (fun b => q b /\ some b ≠ (Value.slice B5 N5 d5).ownBlock) w5 D A8 n8 c8 B8 m8 d8 /\ Bw wr w5) ⟨h8.mono (fun b hb => by
          rcases hb with hb | hb
          ·exact oD.out.1 b hb
          ·exact oD.out.2 b (by have h3 := aA.out.2.size; omega)), ah aA.out.2 aK⟩; clear h8 aK)
       |(refine wB rfl 25 (.tmp 9) (.tmp 22) rfl w5.heap.size 0 rfl (zV K8 A8 n8 c8 B8 m8 d8) rfl (ae.new' w5 zL _ 25 rfl) 3 au ?_; intro w6 ag; have aJ := LH (ae w6 w5.heap.size (zV K8 A8 n8 c8 B8 m8 d8) 25 /\ Bw w5 w6) (dC ag); clear ag; have JU := aJ.out.1.cell (j := 0) rfl; have eZ := LH (Bw wr w6) (ah H5.out.2 aJ.out.2); have jo := LH ((fun w' : World => w'.rangeAt w5.heap.size 0 (zV K8 A8 n8 c8 B8 m8 d8)) w6.drew) (aS aJ.out.1))
       )
     refine wp_region_held_drew (S := fun w' => w'.rangeAt w5.heap.size 0 (zV K8 A8 n8 c8 B8 m8 d8)) (by kernel_rfl) (jo.out) (fun cO => ?_);refine dP 0 ?_;refine wX 1 rfl (yieldsIf_load_mid (by rfl) _ _ rfl _ _ rfl _ _ (fun w h => h) Tryz.underlying25 rfl au) ?_;refine dP 3 ?_;refine dP 4 ?_;refine dP 5 ?_;refine dP 6 ?_;refine wpAnyH_ready (rs := [2]) (by kernel_rfl) (by simp) ?_;refine wA rfl (fun K hK => ?_) AllReadyH.nil
     go_simp;have jk := LH (ae (w6.alloc (zC K8 A8 n8 c8 B8 m8 d8)).drew w6.heap.size (zV K8 A8 n8 c8 B8 m8 d8) 25 /\ Bw w6 (w6.alloc (zC K8 A8 n8 c8 B8 m8 d8)).drew) ⟨ae.at w6 (zV K8 A8 n8 c8 B8 m8 d8) _ 25 _ rfl rfl, (ai _ _).drew⟩;refine hK.out _ _ (aS (aJ.out.1.below jk.out.2 aJ.out.1.lt)) (fun hS1 => ?_);clear hK K cO;(try simp only [Act.put, pP]);refine wpAnyH_ready (rs := [7]) (by kernel_rfl) (by simp) ?_;refine wA rfl (fun K hK => ?_) AllReadyH.nil
     go_simp;have bM := LH (ae ((w6.alloc (zC K8 A8 n8 c8 B8 m8 d8)).alloc (.cells #[.slice (pt w6.heap.size) 1 1, .slice (some ⟨b, o9, none⟩) (m - (i + 1)) (d - (i + 1))] 23)).drew (w6.heap.size + 1) [.slice (pt w6.heap.size) 1 1, .slice (some ⟨b, o9, none⟩) (m - (i + 1)) (d - (i + 1))] 23 /\ Bw w6 ((w6.alloc (zC K8 A8 n8 c8 B8 m8 d8)).alloc (.cells #[.slice (pt w6.heap.size) 1 1, .slice (some ⟨b, o9, none⟩) (m - (i + 1)) (d - (i + 1))] 23)).drew /\ ae ((w6.alloc (zC K8 A8 n8 c8 B8 m8 d8)).alloc (.cells #[.slice (pt w6.heap.size) 1 1, .slice (some ⟨b, o9, none⟩) (m - (i + 1)) (d - (i + 1))] 23)).drew w6.heap.size (zV K8 A8 n8 c8 B8 m8 d8) 25) ⟨ae.at (w6.alloc (zC K8 A8 n8 c8 B8 m8 d8)) [.slice (pt w6.heap.size) 1 1, .slice (some ⟨b, o9, none⟩) (m - (i + 1)) (d - (i + 1))] _ 23 _ rfl (by simp), (aF (ai _ _) _).drew, (ae.at w6 (zV K8 A8 n8 c8 B8 m8 d8) _ 25 _ rfl rfl).alloc _⟩;refine hK.out _ _ (aS (aJ.out.1.below bM.out.2.1 aJ.out.1.lt)) (fun dh => ?_);clear hK K hS1;obtain ⟨x8, jO⟩ := eX (((w6.alloc (zC K8 A8 n8 c8 B8 m8 d8)).alloc (.cells #[.slice (pt w6.heap.size) 1 1, .slice (some ⟨b, o9, none⟩) (m - (i + 1)) (d - (i + 1))] 23)).drew);rw [<- jO] at bM ⊢;clear jO;(try simp only [Act.put, pP]);refine wpAnyH_ready (rs := [8]) (by kernel_rfl) (by simp) ?_;refine wA rfl (fun K hK => ?_) AllReadyH.nil
     go_simp;have E9 := LA (p := fun b => (fun b => q b /\ some b ≠ (Value.slice B5 N5 d5).ownBlock) b /\ b < x8.heap.size) 2 (w6.heap.size + 1) (fun j => if j = 0 then some ⟨w6.heap.size, 0, none⟩ else some ⟨b, o9, none⟩) (fun j => if j = 0 then 1 else m - (i + 1)) (fun j => if j = 0 then 1 else d - (i + 1)) (fun j => if j = 0 then [D] else ks.drop (i + 1)) x8 (by omega) (fun j hj => by
        match j, hj with
        | 0, _ => exact bM.out.1.cell (j := 0) rfl
        | 1, _ => exact bM.out.1.cell (j := 1) rfl) (fun j hj => by
        match j, hj with
        | 0, _ =>
          have hB : ae x8 w6.heap.size (zV D.kind A8 n8 c8 B8 m8 d8) 25 := by rw [<- fU.out]; exact bM.out.2.2
          have DT := H5.out.1.below (ah aJ.out.2 bM.out.2.1);exact ⟨rfl, aM.e (aM.one (DT.and DT.o.toP).q) fun j v hv => by rw [Nat.zero_add]; exact hB.cell hv⟩
        | 1, _ => exact ⟨by show m - (i + 1) = _; rw [if_neg (by decide), List.length_drop, HL.out.1], (PV.out.below (ah bg.out (ah eZ.out bM.out.2.1))).mono fun b hb => ⟨oD.out.1 b hb, by have h1 := HQ.out.2.2.1 b hb; have h2 := bg.out.size; have h3 := eZ.out.size; have h4 := bM.out.2.1.size; omega⟩⟩) (fun b hb => hb.2) (by simp [jy]) (by
        have h1 := bR.out;have h2 := HL.out.1;simp [jy]; omega)
     go_at_call 125;refine E9.mono ?_;rintro e x9 ⟨v9, rfl, Dj, fo⟩;obtain ⟨B9, d9, rfl, vF, Em, ym, _⟩ := Dj.e;have Eu : jy (fun j => if j = 0 then [D] else ks.drop (i + 1)) 2 = D :: ks.drop (i + 1) := rfl;rw [Eu] at vF ym ⊢;obtain ⟨N9, wP⟩ := eX ((D :: ks.drop (i + 1)).length);rw [<- wP] at vF ⊢;have aR := LH (bA (fun b => (fun b => q b /\ some b ≠ (Value.slice B5 N5 d5).ownBlock) b /\ b < x9.heap.size) x9 (D :: ks.drop (i + 1)) B9 /\ N9 <= d9 /\ d9 <= 9223372036854775807 /\ Bw w6 x9 /\ N9 = (D :: ks.drop (i + 1)).length) ⟨(ym.mono (fun b hb => by
        rcases hb.1 with h | h
        · exact h.1
        · exact oD.out.2 b (by have h3 := eZ.out.size; have h4 := bM.out.2.1.size; omega))).lt, vF, Em, ah bM.out.2.1 fo, wP⟩
     clear Dj fo vF Em ym E9 wP Eu;refine hK.out _ _ (aS (aJ.out.1.below aR.out.2.2.2.1 aJ.out.1.lt)) (fun kV => ?_);clear hK K dh;(try simp only [Act.put, pP]);refine wpAnyH_ready (rs := [9]) (by kernel_rfl) (by simp) ?_;refine wA rfl (fun K hK => ?_) AllReadyH.nil
     go_simp;go_at_call 81;refine (FL (p := fun b => (fun b => q b /\ some b ≠ (Value.slice B5 N5 d5).ownBlock) b /\ b < x9.heap.size) x9 (fun b hb => hb.2) (D :: ks.drop (i + 1)) B9 N9 d9 aR.out.2.2.2.2 aR.out.2.1 aR.out.2.2.1 (fun x hx => by
        rcases List.mem_cons.1 hx with rfl | hx
        · exact yg.out
        · exact HL.out.2.2.1 x (List.mem_of_mem_drop hx)) (by have := HDC.out; simp only [aj]; omega) aR.out.1).mono ?_
     rintro e yZ hp;obtain ⟨pq, n10, c10, pG, pK, pW, rfl, h10, qE⟩ := dV hp;have yw := LH (ak (fun b => q b /\ some b ≠ (Value.slice B5 N5 d5).ownBlock) yZ (seqP (D :: ks.drop (i + 1))) pq n10 c10 pG pK pW /\ Bw w6 yZ) ⟨h10.mono (fun b hb => by
        rcases hb with hb | hb
        · exact hb.1
        · exact oD.out.2 b (by have h3 := eZ.out.size; have h4 := aR.out.2.2.2.1.size; omega)), ah aR.out.2.2.2.1 qE⟩
     clear hp h10 qE;refine hK.out _ _ (aS (aJ.out.1.below yw.out.2 aJ.out.1.lt)) (fun Dr => ?_);clear hK K kV;(try simp only [Act.put, pP]);refine wpAnyH_ready (rs := [10]) (by kernel_rfl) (by simp) ?_;refine wA rfl (fun K hK => ?_) AllReadyH.nil
     go_simp;have pF := LH (Bw w6 (yZ.alloc (.cells #[.int .i64 (seqP (D :: ks.drop (i + 1))).kind, .slice pq n10 c10, .slice pG pK pW] 25))) (aF yw.out.2 _);refine hK.out _ _ (aS (aJ.out.1.below pF.out aJ.out.1.lt)) (fun EN => ?_);clear hK K Dr;(try simp only [Act.put, pP]);refine wpAnyH_ready (rs := [11]) (by kernel_rfl) (by simp) ?_;refine AllReadyH.cons (o := ⟨some 38, .call { callee := .builtin Builtin.append, args := #[.tmp 27, .tmp 37], argTypes := #[23, 23] }, 23, _, _, none⟩) rfl (fun K hK => ?_) AllReadyH.nil
     refine xM rfl (.tmp 27) (.tmp 37) 23 23 rfl (w.heap.size + 1) 25 i0 _ 3 56 Tryz.underlying23 aZ hz0 hz1 hz2 rfl _ _ _ rfl (gu HO.out (ah eZ.out pF.out)) _ 1 [.int .i64 (seqP (D :: ks.drop (i + 1))).kind, .slice pq n10 c10, .slice pG pK pW] rfl (jR hz1 _ _ _ _ _ _ _ _) hs1 hs2 (by have h1 := bX.out.size; have h2 := eZ.out.size; have h3 := pF.out.size; simp at h1 h3 ⊢; omega) ?_;intro v12 jP DC uZ Dc;have zm := LH (aD q (w.heap.size + 1) v12 (rs ++ [seqP (D :: ks.drop (i + 1))]) jP /\ Below (w.alloc zR).heap.size (w.alloc zR) jP /\ jP.rangeAt w5.heap.size 0 (zV K8 A8 n8 c8 B8 m8 d8)) ⟨aD.app HC.out (ah eZ.out pF.out) (aM.one (yw.out.1.below (ai _ _)).q) rfl uZ Dc (by rw [<- bB.out]; exact DC), eH (ah bX.out (ah eZ.out pF.out)) uZ (fun g hg => by have h1 := (HO.out.lt _ hg).1; simpa using h1), aS ((aJ.out.1.below pF.out aJ.out.1.lt).grown uZ (fun e => by have h1 := (HO.out.lt _ e.symm).2; have h2 := H5.out.2.size; omega))⟩;clear DC uZ Dc;refine hK.out _ _ zm.out.2.2 (fun hS6 => ?_);clear hK K EN;(try simp only [Act.put, pP]);refine dP 12 ?_;refine wpAnyH_done (by kernel_rfl) ?_ _;have dZ := LH (aD q (w.heap.size + 1) v12 (rs ++ [seqP (D :: ks.drop (i + 1))]) jP /\ Below (w.alloc zR).heap.size (w.alloc zR) jP) ⟨zm.out.1, zm.out.2.1⟩;have mQ := LH (∀ y ∈ rs ++ [seqP (D :: ks.drop (i + 1))], NF y) (fun y hy => by
       rcases List.mem_append.1 hy with hy | hy
       ·exact HI.out.2.2.2.2.1 y hy
       ·rw [show y = seqP (D :: ks.drop (i + 1)) by simpa using hy]; exact NF.seqP fun z hz => by
          rcases List.mem_cons.1 hz with rfl | hz
          ·exact yg.out
          ·exact HL.out.2.2.1 z (List.mem_of_mem_drop hz))
     have wY := LH (rs ++ [seqP (D :: ks.drop (i + 1))] = jA s ks) (by
       have h1 := HI.out.1;have h2 := uU.out;rw [if_pos xY.out, if_neg (by simp)] at h2;rw [h2] at h1
       simpa using h1)
     have xX := LH (ks.all aO = false) (by
       rw [List.all_eq_false];exact ⟨av ks i, gU bR.out, by simp [<- HD.out.2]⟩)
     obtain ⟨Bz, dz, yF, DY, hzb, zh, _⟩ := dZ.out.1.e;subst yF;obtain ⟨Nz, hNz⟩ := eX ((rs ++ [seqP (D :: ks.drop (i + 1))]).length);rw [<- hNz];have fK := LH (Below (w.alloc zR).heap.size (w.alloc zR) jP /\ (rs ++ [seqP (D :: ks.drop (i + 1))]).length <= dz /\ dz <= 9223372036854775807 /\ (∀ y ∈ rs ++ [seqP (D :: ks.drop (i + 1))], NF y) /\ aj (rs ++ [seqP (D :: ks.drop (i + 1))]) <= 1000000000000 /\ bA (fun b => q b /\ b < jP.heap.size) jP (rs ++ [seqP (D :: ks.drop (i + 1))]) Bz) ⟨dZ.out.2, DY, hzb, mQ.out, by
       have h1 := Gl (s := s) HL.out.2.2.1;have h2 := qZ (a := aj ks + 1) (b := 1000000) (by have := iF ks; omega) HL.out.2.2.2;rw [wY.out]; omega, (zh.mono fun b hb => hb.1).lt⟩
     have HNZ := Lh hNz;clear DY hzb zh hNz
     go_wp2_with (first
       |((with_reducible refine (CG (p := fun b => q b /\ b < jP.heap.size) jP (fun b hb => hb.2) (gM.out.below (ah (ai _ _) fK.out.1)) (rs ++ [seqP (D :: ks.drop (i + 1))]) Bz Nz dz HNZ.out (by rw [HNZ.out]; exact fK.out.2.1) fK.out.2.2.1 fK.out.2.2.2.1 fK.out.2.2.2.2.1 fK.out.2.2.2.2.2).mono ?_); rintro e kX hp; obtain ⟨A9, n9, c9, B9, m9, d9, rfl, h9, fo⟩ := dV hp; have lV := LH (ak q kX (altP (rs ++ [seqP (D :: ks.drop (i + 1))])) A9 n9 c9 B9 m9 d9 /\ Below (w.alloc zR).heap.size (w.alloc zR) kX) ⟨h9.mono (fun b hb => by
          rcases hb with hb | hb
          ·exact hb.1
          ·exact HQ.out.2.1 b (by have h1 := fK.out.1.size; simp at h1; omega)), ah fK.out.1 fo⟩; clear hp h9 fo)
       |(refine wB rfl 25 (.tmp 4) (.tmp 42) rfl w.heap.size 0 rfl [.int .i64 (altP (rs ++ [seqP (D :: ks.drop (i + 1))])).kind, .slice A9 n9 c9, .slice B9 m9 d9] rfl (HZ.out.below lV.out.2 (by simp)) 3 au ?_; intro w9 ag; have aB := LH (ae w9 w.heap.size [.int .i64 (altP (rs ++ [seqP (D :: ks.drop (i + 1))])).kind, .slice A9 n9 c9, .slice B9 m9 d9] 25 /\ Bw w w9 /\ ak q w9 (altP (rs ++ [seqP (D :: ks.drop (i + 1))])) A9 n9 c9 B9 m9 d9) ⟨ag.1, ag.below (ah (ai _ _) lV.out.2) (Nat.le_refl _), il lV.out.1 ag HQ.out.2.2.2.1⟩; clear ag))
     exact gX rfl w.heap.size rfl (C := [.int .i64 (altP (rs ++ [seqP (D :: ks.drop (i + 1))])).kind, .slice A9 n9 c9, .slice B9 m9 d9]) (T := 25) aB.out.1 _ Tryz.underlying25 rfl au rfl (.bool false) rfl (by
       rw [HR.out, HV.out];rw [<- wY.out, xX.out];exact ⟨_, _, _, _, _, _, rfl, aB.out.2.2.mono (fun b hb => by rcases HQ.out.2.2.2.2 b hb with h | h; exact .inl h; exact .inr (by omega)), aB.out.2.1⟩)
    ·skip
     go_wp2_with (first
       |(refine aG rfl (.tmp 16) rfl b (o + i * 3) rfl Kk A2 B2 n2 c2 m2 d2 aP.out ?_)
       |(refine wB rfl 25 (.tmp 8) (.tmp 17) rfl wr.heap.size 0 rfl (zV Kk A2 n2 c2 B2 m2 d2) rfl (ae.new' wr zL _ 25 rfl) 3 au ?_; intro w4 ag; have aA := LH (ae w4 wr.heap.size (zV Kk A2 n2 c2 B2 m2 d2) 25 /\ Bw wr w4) (dC ag); clear ag; have jb := aS aA.out.1)
       |(refine aG rfl (.tmp 8) rfl wr.heap.size (0) rfl Kk A2 B2 n2 c2 m2 d2 jb ?_)
       |((with_reducible refine (wh (p := p) HK.out.2.1 HK.out.1 (fun b hb => by have h1 := HQ.out.2.2.1 b hb; have h2 := bg.out.size; have h3 := aA.out.2.size; omega) (gM.out.below (ah bg.out aA.out.2)) (HK.out.2.2.below (ah bg.out aA.out.2)) D true HD.out.1 HD.out.2).mono ?_); rintro e w5 ⟨A8, n8, c8, B8, m8, d8, rfl, h8, aK⟩; rw [<- fU.out]; have H5 := LH (ak (fun b => q b /\ some b ≠ (Value.slice B5 N5 d5).ownBlock) w5 D A8 n8 c8 B8 m8 d8 /\ Bw wr w5) ⟨h8.mono (fun b hb => by
          rcases hb with hb | hb
          ·exact oD.out.1 b hb
          ·exact oD.out.2 b (by have h3 := aA.out.2.size; omega)), ah aA.out.2 aK⟩; clear h8 aK)
       |(refine wB rfl 25 (.tmp 9) (.tmp 22) rfl w5.heap.size 0 rfl (zV K8 A8 n8 c8 B8 m8 d8) rfl (ae.new' w5 zL _ 25 rfl) 3 au ?_; intro w6 ag; have aJ := LH (ae w6 w5.heap.size (zV K8 A8 n8 c8 B8 m8 d8) 25 /\ Bw w5 w6) (dC ag); clear ag; have JU := aJ.out.1.cell (j := 0) rfl; have eZ := LH (Bw wr w6) (ah H5.out.2 aJ.out.2); have jo := LH ((fun w' : World => w'.rangeAt w5.heap.size 0 (zV K8 A8 n8 c8 B8 m8 d8)) w6.drew) (aS aJ.out.1))
       )
     refine wp_region_held_drew (S := fun w' => w'.rangeAt w5.heap.size 0 (zV K8 A8 n8 c8 B8 m8 d8)) (by kernel_rfl) (jo.out) (fun cO => ?_);refine dP 0 ?_;refine wX 1 rfl (yieldsIf_load_mid (by rfl) _ _ rfl _ _ rfl _ _ (fun w h => h) Tryz.underlying25 rfl au) ?_;refine dP 3 ?_;refine dP 4 ?_;refine dP 5 ?_;refine dP 6 ?_;refine wpAnyH_ready (rs := [2]) (by kernel_rfl) (by simp) ?_;refine wA rfl (fun K hK => ?_) AllReadyH.nil
     go_simp;have jk := LH (ae (w6.alloc (zC K8 A8 n8 c8 B8 m8 d8)).drew w6.heap.size (zV K8 A8 n8 c8 B8 m8 d8) 25 /\ Bw w6 (w6.alloc (zC K8 A8 n8 c8 B8 m8 d8)).drew) ⟨ae.at w6 (zV K8 A8 n8 c8 B8 m8 d8) _ 25 _ rfl rfl, (ai _ _).drew⟩;refine hK.out _ _ (aS (aJ.out.1.below jk.out.2 aJ.out.1.lt)) (fun hS1 => ?_);clear hK K cO;(try simp only [Act.put, pP]);refine wpAnyH_ready (rs := [7]) (by kernel_rfl) (by simp) ?_;refine wA rfl (fun K hK => ?_) AllReadyH.nil
     go_simp;have bM := LH (ae ((w6.alloc (zC K8 A8 n8 c8 B8 m8 d8)).alloc (.cells #[.slice (pt w6.heap.size) 1 1, .slice (some ⟨b, o9, none⟩) (m - (i + 1)) (d - (i + 1))] 23)).drew (w6.heap.size + 1) [.slice (pt w6.heap.size) 1 1, .slice (some ⟨b, o9, none⟩) (m - (i + 1)) (d - (i + 1))] 23 /\ Bw w6 ((w6.alloc (zC K8 A8 n8 c8 B8 m8 d8)).alloc (.cells #[.slice (pt w6.heap.size) 1 1, .slice (some ⟨b, o9, none⟩) (m - (i + 1)) (d - (i + 1))] 23)).drew /\ ae ((w6.alloc (zC K8 A8 n8 c8 B8 m8 d8)).alloc (.cells #[.slice (pt w6.heap.size) 1 1, .slice (some ⟨b, o9, none⟩) (m - (i + 1)) (d - (i + 1))] 23)).drew w6.heap.size (zV K8 A8 n8 c8 B8 m8 d8) 25) ⟨ae.at (w6.alloc (zC K8 A8 n8 c8 B8 m8 d8)) [.slice (pt w6.heap.size) 1 1, .slice (some ⟨b, o9, none⟩) (m - (i + 1)) (d - (i + 1))] _ 23 _ rfl (by simp), (aF (ai _ _) _).drew, (ae.at w6 (zV K8 A8 n8 c8 B8 m8 d8) _ 25 _ rfl rfl).alloc _⟩;refine hK.out _ _ (aS (aJ.out.1.below bM.out.2.1 aJ.out.1.lt)) (fun dh => ?_);clear hK K hS1;obtain ⟨x8, jO⟩ := eX (((w6.alloc (zC K8 A8 n8 c8 B8 m8 d8)).alloc (.cells #[.slice (pt w6.heap.size) 1 1, .slice (some ⟨b, o9, none⟩) (m - (i + 1)) (d - (i + 1))] 23)).drew);rw [<- jO] at bM ⊢;clear jO;(try simp only [Act.put, pP]);refine wpAnyH_ready (rs := [8]) (by kernel_rfl) (by simp) ?_;refine wA rfl (fun K hK => ?_) AllReadyH.nil
     go_simp;have E9 := LA (p := fun b => (fun b => q b /\ some b ≠ (Value.slice B5 N5 d5).ownBlock) b /\ b < x8.heap.size) 2 (w6.heap.size + 1) (fun j => if j = 0 then some ⟨w6.heap.size, 0, none⟩ else some ⟨b, o9, none⟩) (fun j => if j = 0 then 1 else m - (i + 1)) (fun j => if j = 0 then 1 else d - (i + 1)) (fun j => if j = 0 then [D] else ks.drop (i + 1)) x8 (by omega) (fun j hj => by
        match j, hj with
        | 0, _ => exact bM.out.1.cell (j := 0) rfl
        | 1, _ => exact bM.out.1.cell (j := 1) rfl) (fun j hj => by
        match j, hj with
        | 0, _ =>
          have hB : ae x8 w6.heap.size (zV D.kind A8 n8 c8 B8 m8 d8) 25 := by rw [<- fU.out]; exact bM.out.2.2
          have DT := H5.out.1.below (ah aJ.out.2 bM.out.2.1);exact ⟨rfl, aM.e (aM.one (DT.and DT.o.toP).q) fun j v hv => by rw [Nat.zero_add]; exact hB.cell hv⟩
        | 1, _ => exact ⟨by show m - (i + 1) = _; rw [if_neg (by decide), List.length_drop, HL.out.1], (PV.out.below (ah bg.out (ah eZ.out bM.out.2.1))).mono fun b hb => ⟨oD.out.1 b hb, by have h1 := HQ.out.2.2.1 b hb; have h2 := bg.out.size; have h3 := eZ.out.size; have h4 := bM.out.2.1.size; omega⟩⟩) (fun b hb => hb.2) (by simp [jy]) (by
        have h1 := bR.out;have h2 := HL.out.1;simp [jy]; omega)
     go_at_call 125;refine E9.mono ?_;rintro e x9 ⟨v9, rfl, Dj, fo⟩;obtain ⟨B9, d9, rfl, vF, Em, ym, _⟩ := Dj.e;have Eu : jy (fun j => if j = 0 then [D] else ks.drop (i + 1)) 2 = D :: ks.drop (i + 1) := rfl;rw [Eu] at vF ym ⊢;obtain ⟨N9, wP⟩ := eX ((D :: ks.drop (i + 1)).length);rw [<- wP] at vF ⊢;have aR := LH (bA (fun b => (fun b => q b /\ some b ≠ (Value.slice B5 N5 d5).ownBlock) b /\ b < x9.heap.size) x9 (D :: ks.drop (i + 1)) B9 /\ N9 <= d9 /\ d9 <= 9223372036854775807 /\ Bw w6 x9 /\ N9 = (D :: ks.drop (i + 1)).length) ⟨(ym.mono (fun b hb => by
        rcases hb.1 with h | h
        · exact h.1
        · exact oD.out.2 b (by have h3 := eZ.out.size; have h4 := bM.out.2.1.size; omega))).lt, vF, Em, ah bM.out.2.1 fo, wP⟩
     clear Dj fo vF Em ym E9 wP Eu;refine hK.out _ _ (aS (aJ.out.1.below aR.out.2.2.2.1 aJ.out.1.lt)) (fun kV => ?_);clear hK K dh;(try simp only [Act.put, pP]);refine wpAnyH_ready (rs := [9]) (by kernel_rfl) (by simp) ?_;refine wA rfl (fun K hK => ?_) AllReadyH.nil
     go_simp;go_at_call 81;refine (FL (p := fun b => (fun b => q b /\ some b ≠ (Value.slice B5 N5 d5).ownBlock) b /\ b < x9.heap.size) x9 (fun b hb => hb.2) (D :: ks.drop (i + 1)) B9 N9 d9 aR.out.2.2.2.2 aR.out.2.1 aR.out.2.2.1 (fun x hx => by
        rcases List.mem_cons.1 hx with rfl | hx
        · exact yg.out
        · exact HL.out.2.2.1 x (List.mem_of_mem_drop hx)) (by have := HDC.out; simp only [aj]; omega) aR.out.1).mono ?_
     rintro e yZ hp;obtain ⟨pq, n10, c10, pG, pK, pW, rfl, h10, qE⟩ := dV hp;have yw := LH (ak (fun b => q b /\ some b ≠ (Value.slice B5 N5 d5).ownBlock) yZ (seqP (D :: ks.drop (i + 1))) pq n10 c10 pG pK pW /\ Bw w6 yZ) ⟨h10.mono (fun b hb => by
        rcases hb with hb | hb
        · exact hb.1
        · exact oD.out.2 b (by have h3 := eZ.out.size; have h4 := aR.out.2.2.2.1.size; omega)), ah aR.out.2.2.2.1 qE⟩
     clear hp h10 qE;refine hK.out _ _ (aS (aJ.out.1.below yw.out.2 aJ.out.1.lt)) (fun Dr => ?_);clear hK K kV;(try simp only [Act.put, pP]);refine wpAnyH_ready (rs := [10]) (by kernel_rfl) (by simp) ?_;refine wA rfl (fun K hK => ?_) AllReadyH.nil
     go_simp;have pF := LH (Bw w6 (yZ.alloc (.cells #[.int .i64 (seqP (D :: ks.drop (i + 1))).kind, .slice pq n10 c10, .slice pG pK pW] 25))) (aF yw.out.2 _);refine hK.out _ _ (aS (aJ.out.1.below pF.out aJ.out.1.lt)) (fun EN => ?_);clear hK K Dr;(try simp only [Act.put, pP]);refine wpAnyH_ready (rs := [11]) (by kernel_rfl) (by simp) ?_;refine AllReadyH.cons (o := ⟨some 38, .call { callee := .builtin Builtin.append, args := #[.tmp 27, .tmp 37], argTypes := #[23, 23] }, 23, _, _, none⟩) rfl (fun K hK => ?_) AllReadyH.nil
     refine xM rfl (.tmp 27) (.tmp 37) 23 23 rfl (w.heap.size + 1) 25 i0 _ 3 56 Tryz.underlying23 aZ hz0 hz1 hz2 rfl _ _ _ rfl (gu HO.out (ah eZ.out pF.out)) _ 1 [.int .i64 (seqP (D :: ks.drop (i + 1))).kind, .slice pq n10 c10, .slice pG pK pW] rfl (jR hz1 _ _ _ _ _ _ _ _) hs1 hs2 (by have h1 := bX.out.size; have h2 := eZ.out.size; have h3 := pF.out.size; simp at h1 h3 ⊢; omega) ?_;intro v12 jP DC uZ Dc;have zm := LH (aD q (w.heap.size + 1) v12 (rs ++ [seqP (D :: ks.drop (i + 1))]) jP /\ Below (w.alloc zR).heap.size (w.alloc zR) jP /\ jP.rangeAt w5.heap.size 0 (zV K8 A8 n8 c8 B8 m8 d8)) ⟨aD.app HC.out (ah eZ.out pF.out) (aM.one (yw.out.1.below (ai _ _)).q) rfl uZ Dc (by rw [<- bB.out]; exact DC), eH (ah bX.out (ah eZ.out pF.out)) uZ (fun g hg => by have h1 := (HO.out.lt _ hg).1; simpa using h1), aS ((aJ.out.1.below pF.out aJ.out.1.lt).grown uZ (fun e => by have h1 := (HO.out.lt _ e.symm).2; have h2 := H5.out.2.size; omega))⟩;clear DC uZ Dc;refine hK.out _ _ zm.out.2.2 (fun hS6 => ?_);clear hK K EN;(try simp only [Act.put, pP]);refine dP 12 ?_;refine wpAnyH_done (by kernel_rfl) ?_ _;have dZ := LH (aD q (w.heap.size + 1) v12 (rs ++ [seqP (D :: ks.drop (i + 1))]) jP /\ Below (w.alloc zR).heap.size (w.alloc zR) jP) ⟨zm.out.1, zm.out.2.1⟩;have mQ := LH (∀ y ∈ rs ++ [seqP (D :: ks.drop (i + 1))], NF y) (fun y hy => by
       rcases List.mem_append.1 hy with hy | hy
       ·exact HI.out.2.2.2.2.1 y hy
       ·rw [show y = seqP (D :: ks.drop (i + 1)) by simpa using hy]; exact NF.seqP fun z hz => by
          rcases List.mem_cons.1 hz with rfl | hz
          ·exact yg.out
          ·exact HL.out.2.2.1 z (List.mem_of_mem_drop hz))
     go_wp2_with fail
     go_roundg gg
     case rel => exact ⟨i + 1, rs ++ [seqP (D :: ks.drop (i + 1))], by omega, by go_num, Lh ⟨by
       have h1 := HI.out.1;have h2 := uU.out;rw [if_pos xY.out, if_pos (by first | rfl | trivial)] at h2;rw [h2] at h1
       simpa using h1, by rw [List.take_succ_eq_append_getElem bR.out, List.all_append, HI.out.2.1, <- gI bR.out]; simp [<- HD.out.2], dZ.out.1, dZ.out.2, mQ.out, by have h1 := HI.out.2.2.2.2.2; simp; omega⟩⟩
     case measure => omega
  ·skip
   obtain rfl : m = i := by omega
   have dZ := LH (aD q (w.heap.size + 1) (.slice B5 N5 d5) rs wr /\ Below (w.alloc zR).heap.size (w.alloc zR) wr) ⟨HI.out.2.2.1, HI.out.2.2.2.1⟩;have mQ := LH (∀ y ∈ rs, NF y) HI.out.2.2.2.2.1;have wY := LH (rs = jA s ks) (by
    have h1 := HI.out.1;rw [List.drop_of_length_le (by rw [HL.out.1]; exact Nat.le_refl _), jA, List.append_nil] at h1;exact h1)
   have xX := LH (ks.all aO = true) (by
    have h1 := HI.out.2.1
    rwa [List.take_of_length_le (by rw [HL.out.1]; exact Nat.le_refl _)] at h1)
   have fK := LH (Below (w.alloc zR).heap.size (w.alloc zR) wr /\ rs.length <= d5 /\ d5 <= 9223372036854775807 /\ (∀ y ∈ rs, NF y) /\ aj rs <= 1000000000000 /\ bA (fun b => q b /\ b < wr.heap.size) wr rs B5) ⟨dZ.out.2, sW, uY, mQ.out, by
    have h1 := Gl (s := s) HL.out.2.2.1;have h2 := qZ (a := aj ks + 1) (b := 1000000) (by have := iF ks; omega) HL.out.2.2.2;rw [wY.out]; omega, (vv.mono fun b hb => hb.1).lt⟩
   clear sW uY vv wI bD
   go_wp2_with (first
    |((with_reducible refine (CG (p := fun b => q b /\ b < wr.heap.size) wr (fun b hb => hb.2) (gM.out.below (ah (ai _ _) fK.out.1)) (rs) B5 N5 d5 bB.out (by rw [bB.out]; exact fK.out.2.1) fK.out.2.2.1 fK.out.2.2.2.1 fK.out.2.2.2.2.1 fK.out.2.2.2.2.2).mono ?_); rintro e kX hp; obtain ⟨A9, n9, c9, B9, m9, d9, rfl, h9, fo⟩ := dV hp; have lV := LH (ak q kX (altP (rs)) A9 n9 c9 B9 m9 d9 /\ Below (w.alloc zR).heap.size (w.alloc zR) kX) ⟨h9.mono (fun b hb => by
       rcases hb with hb | hb
       ·exact hb.1
       ·exact HQ.out.2.1 b (by have h1 := fK.out.1.size; simp at h1; omega)), ah fK.out.1 fo⟩; clear hp h9 fo)
    |(refine wB rfl 25 (.tmp 4) (.tmp 45) rfl w.heap.size 0 rfl [.int .i64 (altP (rs)).kind, .slice A9 n9 c9, .slice B9 m9 d9] rfl (HZ.out.below lV.out.2 (by simp)) 3 au ?_; intro w9 ag; have aB := LH (ae w9 w.heap.size [.int .i64 (altP (rs)).kind, .slice A9 n9 c9, .slice B9 m9 d9] 25 /\ Bw w w9 /\ ak q w9 (altP (rs)) A9 n9 c9 B9 m9 d9) ⟨ag.1, ag.below (ah (ai _ _) lV.out.2) (Nat.le_refl _), il lV.out.1 ag HQ.out.2.2.2.1⟩; clear ag))
   exact gX rfl w.heap.size rfl (C := [.int .i64 (altP (rs)).kind, .slice A9 n9 c9, .slice B9 m9 d9]) (T := 25) aB.out.1 _ Tryz.underlying25 rfl au rfl (.bool true) rfl (by
    rw [HR.out, HV.out];rw [<- wY.out, xX.out];exact ⟨_, _, _, _, _, _, rfl, aB.out.2.2.mono (fun b hb => by rcases HQ.out.2.2.2.2 b hb with h | h; exact .inl h; exact .inr (by omega)), aB.out.2.1⟩)
namespace Rgx
abbrev St := Nat × List Nat
mutual
def aN (M : List St) (ay : Nat) : Rx -> List St × Nat
 |.mk k s ks =>
  if k = 1 then (M, ay)
  else if k = 2 then (M ++ [(jK s, [ay])], M.length)
  else if k = 3 then eT M ay ks
  else if k = 4 then ((bL M ay ks).1 ++ [(0, (bL M ay ks).2)], (bL M ay ks).1.length)
  else if k = 5 then (((lN (M ++ [(0, [ay])]) M.length ks).1.set M.length (0, [ay, (lN (M ++ [(0, [ay])]) M.length ks).2]), M.length))
  else (M ++ [(0, [])], M.length)
def eT (M : List St) (ay : Nat) : List Rx -> List St × Nat
 |[] => (M, ay)
 |x :: xs => aN (eT M ay xs).1 (eT M ay xs).2 x
def bL (M : List St) (ay : Nat) : List Rx -> List St × List Nat
 |[] => (M, [])
 |x :: xs => ((bL (aN M ay x).1 ay xs).1, (aN M ay x).2 :: (bL (aN M ay x).1 ay xs).2)
def lN (M : List St) (ay : Nat) : List Rx -> List St × Nat
 |[] => (M, ay)
 |x :: _ => aN M ay x
end
theorem qf (M : List St) (ay : Nat) (r : Rx) : aN M ay r = if r.kind = 1 then (M, ay) else if r.kind = 2 then (M ++ [(jK r.syms, [ay])], M.length) else if r.kind = 3 then eT M ay r.kids else if r.kind = 4 then ((bL M ay r.kids).1 ++ [(0, (bL M ay r.kids).2)], (bL M ay r.kids).1.length) else if r.kind = 5 then (((lN (M ++ [(0, [ay])]) M.length r.kids).1.set M.length (0, [ay, (lN (M ++ [(0, [ay])]) M.length r.kids).2]), M.length)) else (M ++ [(0, [])], M.length) := by
 cases r with
 |mk k s ks => rw [aN]; rfl
theorem KQ (M : List St) (ay : Nat) (x : Rx) : ∀ (A : List Rx) (M : List St), bL M ay (A ++ [x]) = ((aN (bL M ay A).1 ay x).1, (bL M ay A).2 ++ [(aN (bL M ay A).1 ay x).2])
 |[], M => by simp [bL]
 |y :: A, M => by
  rw [List.cons_append, bL, KQ M ay x A, bL]
  rfl
structure iX (M M' : List St) : Prop where
 len : M.length <= M'.length
 get : ∀ i, i < M.length -> M'[i]? = M[i]?
theorem iX.refl (M : List St) : iX M M := ⟨Nat.le_refl _, fun _ _ => rfl⟩
theorem iX.tr {M N O : List St} (h1 : iX M N) (h2 : iX N O) : iX M O := ⟨Nat.le_trans h1.len h2.len, fun i hi => (h2.get i (Nat.lt_of_lt_of_le hi h1.len)).trans (h1.get i hi)⟩
theorem iX.app (M : List St) (x : St) : iX M (M ++ [x]) := ⟨by simp, fun i hi => List.getElem?_append_left hi⟩
theorem iX.set {M N : List St} (h : iX M N) {k : Nat} (hk : M.length <= k) (x : St) : iX M (N.set k x) := ⟨by rw [List.length_set]; exact h.len, fun i hi => by rw [List.getElem?_set_ne (by omega)]; exact h.get i hi⟩
mutual
theorem qP : ∀ (r : Rx) (M : List St) (ay : Nat), iX M (aN M ay r).1
 |.mk k s ks, M, ay => by
  rw [aN]
  split
  ·exact iX.refl M
  ·split
   ·exact iX.app M _
   ·split
    ·exact Fx ks M ay
    ·split
     ·exact (wm ks M ay).tr (iX.app _ _)
     ·split
      ·exact ((iX.app M _).tr (Iz ks _ _)).set (Nat.le_refl _) _
      ·exact iX.app M _
theorem Fx : ∀ (ks : List Rx) (M : List St) (ay : Nat), iX M (eT M ay ks).1
 |[], M, ay => by rw [eT]; exact iX.refl M
 |x :: xs, M, ay => by rw [eT]; exact (Fx xs M ay).tr (qP x _ _)
theorem wm : ∀ (ks : List Rx) (M : List St) (ay : Nat), iX M (bL M ay ks).1
 |[], M, ay => by rw [bL]; exact iX.refl M
 |x :: xs, M, ay => by rw [bL]; exact (qP x M ay).tr (wm xs _ _)
theorem Iz : ∀ (ks : List Rx) (M : List St) (ay : Nat), iX M (lN M ay ks).1
 |[], M, ay => by rw [lN]; exact iX.refl M
 |x :: xs, M, ay => by rw [lN]; exact qP x _ _
end
theorem Ce {r : Rx} (h : aC r = true) : ∀ x ∈ r.syms, 0 <= x /\ x < 64 := by
 rcases kw h with e | e | ⟨s, e, hs⟩ | ⟨ks, e, _⟩ | ⟨ks, e, _⟩ | ⟨x, e, _⟩ <;> subst e
 ·intro x hx; cases hx
 ·intro x hx; cases hx
 ·exact (oh.1 hs).2.2
 ·intro x hx; cases hx
 ·intro x hx; cases hx
 ·intro x hx; cases hx
structure mK (q : Nat) (M : List St) : Prop where
 nx : ∀ x ∈ M, ∀ n ∈ x.2, n < M.length
 few : ∀ x ∈ M, x.2.length <= q
 bit : ∀ x ∈ M, x.1 < 18446744073709551616
theorem mK.app {q : Nat} {M : List St} (h : mK q M) {b : Nat} {nx : List Nat} (h1 : ∀ n ∈ nx, n < M.length + 1) (h2 : nx.length <= q) (h3 : b < 18446744073709551616) : mK q (M ++ [(b, nx)]) := ⟨fun x hx n hn => by
 rw [List.length_append]
 rcases List.mem_append.1 hx with hx | hx
 ·have := h.nx x hx n hn; simp; omega
 ·have e : x = (b, nx) := by simpa using hx
  subst e;exact h1 n hn, fun x hx => by
 rcases List.mem_append.1 hx with hx | hx
 ·exact h.few x hx
 ·have e : x = (b, nx) := by simpa using hx
  subst e;exact h2, fun x hx => by
 rcases List.mem_append.1 hx with hx | hx
 ·exact h.bit x hx
 ·have e : x = (b, nx) := by simpa using hx
  subst e;exact h3⟩
theorem mK.set {q : Nat} {M : List St} (h : mK q M) {k b : Nat} {nx : List Nat} (h1 : ∀ n ∈ nx, n < M.length) (h2 : nx.length <= q) (h3 : b < 18446744073709551616) : mK q (M.set k (b, nx)) := ⟨fun x hx n hn => by
 rw [List.length_set]
 rcases List.mem_or_eq_of_mem_set hx with hx | rfl
 ·exact h.nx x hx n hn
 ·exact h1 n hn, fun x hx => by
 rcases List.mem_or_eq_of_mem_set hx with hx | rfl
 ·exact h.few x hx
 ·exact h2, fun x hx => by
 rcases List.mem_or_eq_of_mem_set hx with hx | rfl
 ·exact h.bit x hx
 ·exact h3⟩
mutual
theorem CU : ∀ (r : Rx) (M : List St) (ay : Nat), (((aN M ay r).1.length : Nat) : Int) <= M.length + az r
 |.mk k s ks, M, ay => by
  rw [aN, az]
  have h0 := iF ks
  split
  ·show (M.length : Int) <= _; omega
  ·split
   ·rw [List.length_append]; simp; omega
   ·split
    ·have := M5 ks M ay; omega
    ·split
     ·have := Gv ks M ay; rw [List.length_append]; simp; omega
     ·split
      ·have := Sa ks (M ++ [(0, [ay])]) M.length
       rw [List.length_append] at this
       show (((lN _ _ ks).1.set _ _).length : Int) <= _
       rw [List.length_set]
       simp at this
       omega
      ·rw [List.length_append]; simp; omega
theorem M5 : ∀ (ks : List Rx) (M : List St) (ay : Nat), (((eT M ay ks).1.length : Nat) : Int) <= M.length + aj ks
 |[], M, ay => by rw [eT, aj]; show (M.length : Int) <= _; omega
 |x :: xs, M, ay => by rw [eT, aj]; have h1 := M5 xs M ay; have h2 := CU x (eT M ay xs).1 (eT M ay xs).2; omega
theorem Gv : ∀ (ks : List Rx) (M : List St) (ay : Nat), (((bL M ay ks).1.length : Nat) : Int) <= M.length + aj ks
 |[], M, ay => by rw [bL, aj]; show (M.length : Int) <= _; omega
 |x :: xs, M, ay => by rw [bL, aj]; have h1 := CU x M ay; have h2 := Gv xs (aN M ay x).1 ay; show (((bL (aN M ay x).1 ay xs).1.length : Nat) : Int) <= _; omega
theorem Sa : ∀ (ks : List Rx) (M : List St) (ay : Nat), (((lN M ay ks).1.length : Nat) : Int) <= M.length + aj ks
 |[], M, ay => by rw [lN, aj]; show (M.length : Int) <= _; omega
 |x :: xs, M, ay => by rw [lN, aj]; have h1 := CU x M ay; have := iF xs; omega
end
theorem FW : ∀ (ks : List Rx) (M : List St) (ay : Nat), (bL M ay ks).2.length = ks.length
 |[], M, ay => by rw [bL]; rfl
 |x :: xs, M, ay => by rw [bL]; simp [FW xs]
mutual
theorem Gb {q : Nat} (hq : 2 <= q) : ∀ (r : Rx), (∀ x ∈ r.syms, 0 <= x /\ x < 64) -> aC r = true -> az r <= q -> ∀ (M : List St) (ay : Nat), mK q M -> ay < M.length -> mK q (aN M ay r).1 /\ (aN M ay r).2 < (aN M ay r).1.length
 |.mk k s ks, hs, hv, hc, M, ay, hM, ht => by
  have hk := jL hv
  rw [az] at hc
  rw [aN]
  split
  ·exact ⟨hM, ht⟩
  ·split
   ·exact ⟨hM.app (fun n hn => by rw [show n = ay by simpa using hn]; omega) (by simp; omega) (Cn hs), by simp⟩
   ·split
    ·exact LW hq ks hk (by omega) M ay hM ht
    ·split
     ·have h1 := Na hq ks hk (by omega) M ay hM ht
      refine ⟨h1.1.app (fun n hn => by have := h1.2 n hn; omega) ?_ (by omega), by simp⟩
      rw [FW]
      have := mW ks
      omega
     ·split
      ·have h0 : mK q (M ++ [(0, [ay])]) := hM.app (fun n hn => by rw [show n = ay by simpa using hn]; omega) (by simp; omega) (by omega)
       have h1 := Ty hq ks hk (by omega) (M ++ [(0, [ay])]) M.length h0 (by simp)
       have h2 := (Iz ks (M ++ [(0, [ay])]) M.length).len
       rw [List.length_append] at h2
       refine ⟨h1.1.set (fun n hn => ?_) (by simp; omega) (by omega), ?_⟩
       ·rcases List.mem_cons.1 hn with e | hn
        ·subst e; simp at h2; omega
        ·rw [List.mem_singleton.1 hn]; exact h1.2
       ·show M.length < ((lN _ _ ks).1.set _ _).length
        rw [List.length_set]
        simp at h2; omega
      ·exact ⟨hM.app (fun n hn => by cases hn) (by simp) (by omega), by simp⟩
theorem LW {q : Nat} (hq : 2 <= q) : ∀ (ks : List Rx), (∀ x ∈ ks, aC x = true) -> aj ks <= q -> ∀ (M : List St) (ay : Nat), mK q M -> ay < M.length -> mK q (eT M ay ks).1 /\ (eT M ay ks).2 < (eT M ay ks).1.length
 |[], _, _, M, ay, hM, ht => by rw [eT]; exact ⟨hM, ht⟩
 |x :: xs, hk, hc, M, ay, hM, ht => by
  rw [aj] at hc
  have h0 := fQ x
  have h00 := iF xs
  have h1 := LW hq xs (fun y hy => hk y (by simp [hy])) (by omega) M ay hM ht
  rw [eT]
  exact Gb hq x (Ce (hk x (by simp))) (hk x (by simp)) (by omega) _ _ h1.1 h1.2
theorem Na {q : Nat} (hq : 2 <= q) : ∀ (ks : List Rx), (∀ x ∈ ks, aC x = true) -> aj ks <= q -> ∀ (M : List St) (ay : Nat), mK q M -> ay < M.length -> mK q (bL M ay ks).1 /\ ∀ n ∈ (bL M ay ks).2, n < (bL M ay ks).1.length
 |[], _, _, M, ay, hM, ht => by rw [bL]; exact ⟨hM, fun n hn => by cases hn⟩
 |x :: xs, hk, hc, M, ay, hM, ht => by
  rw [aj] at hc
  have h0 := fQ x
  have h00 := iF xs
  have h1 := Gb hq x (Ce (hk x (by simp))) (hk x (by simp)) (by omega) M ay hM ht
  have h2 := Na hq xs (fun y hy => hk y (by simp [hy])) (by omega) (aN M ay x).1 ay h1.1 (Nat.lt_of_lt_of_le ht (qP x M ay).len)
  rw [bL]
  refine ⟨h2.1, fun n hn => ?_⟩
  rcases List.mem_cons.1 hn with e | hn
  ·rw [e]; exact Nat.lt_of_lt_of_le h1.2 (wm xs _ _).len
  ·exact h2.2 n hn
theorem Ty {q : Nat} (hq : 2 <= q) : ∀ (ks : List Rx), (∀ x ∈ ks, aC x = true) -> aj ks <= q -> ∀ (M : List St) (ay : Nat), mK q M -> ay < M.length -> mK q (lN M ay ks).1 /\ (lN M ay ks).2 < (lN M ay ks).1.length
 |[], _, _, M, ay, hM, ht => by rw [lN]; exact ⟨hM, ht⟩
 |x :: xs, hk, hc, M, ay, hM, ht => by
  rw [aj] at hc
  have h00 := iF xs
  rw [lN]
  exact Gb hq x (Ce (hk x (by simp))) (hk x (by simp)) (by omega) M ay hM ht
end
inductive lM (N : List St) : Nat -> Nat -> List Int -> Prop
 |fin : lM N 0 0 []
 |eps {k s n : Nat} {w : List Int} {nx : List Nat} : N[s]? = some (0, nx) -> n ∈ nx -> lM N k n w -> lM N (k + 1) s w
 |read {k s n b : Nat} {c : Int} {w : List Int} {nx : List Nat} : N[s]? = some (b, nx) -> 0 <= c -> c < 64 -> b.testBit c.toNat = true -> n ∈ nx -> lM N k n w -> lM N (k + 1) s (c :: w)
def jW (N M : List St) (i j : Nat) : Prop := ∀ k, i <= k -> k < j -> N[k]? = M[k]?
theorem jW.sub {N M : List St} {i j i2 j2 : Nat} (h : jW N M i j) (h1 : i <= i2) (h2 : j2 <= j) : jW N M i2 j2 := fun k a b => h k (Nat.le_trans h1 a) (Nat.lt_of_lt_of_le b h2)
theorem jW.ext {N M M' : List St} {i : Nat} (h : jW N M' i M'.length) (he : iX M M') : jW N M i M.length := fun k a b => (h k a (Nat.lt_of_lt_of_le b he.len)).trans (he.get k b)
theorem IX {N : List St} {s k : Nat} {w : List Int} {nx : List Nat} (h : N[s]? = some (0, nx)) (hs : s ≠ 0) (ha : lM N k s w) : ∃ k' n, k = k' + 1 /\ n ∈ nx /\ lM N k' n w := by
 cases ha with
 |fin => exact absurd rfl hs
 |eps h1 h2 h3 =>
  rw [h] at h1;simp only [Option.some.injEq, Prod.mk.injEq, true_and] at h1;subst h1;exact ⟨_, _, rfl, h2, h3⟩
 |read h1 h2 h3 h4 h5 h6 =>
  rw [h] at h1;simp only [Option.some.injEq, Prod.mk.injEq] at h1;rw [<- h1.1] at h4;simp at h4
theorem Wi {N : List St} {s k b : Nat} {w : List Int} {nx : List Nat} (h : N[s]? = some (b, nx)) (hb : b ≠ 0) (hs : s ≠ 0) (ha : lM N k s w) : ∃ k' n c v, k = k' + 1 /\ w = c :: v /\ (0 <= c /\ c < 64) /\ b.testBit c.toNat = true /\ n ∈ nx /\ lM N k' n v := by
 cases ha with
 |fin => exact absurd rfl hs
 |eps h1 h2 h3 =>
  rw [h] at h1;simp only [Option.some.injEq, Prod.mk.injEq] at h1;exact absurd h1.1 hb
 |read h1 h2 h3 h4 h5 h6 =>
  rw [h] at h1;simp only [Option.some.injEq, Prod.mk.injEq] at h1;obtain ⟨rfl, rfl⟩ := h1;exact ⟨_, _, _, _, rfl, rfl, ⟨h2, h3⟩, h4, h5, h6⟩
theorem Sc {s : List Int} (h : fO s = true) : jK s ≠ 0 := by
 obtain ⟨h1, _, h3⟩ := oh.1 h
 match s, h1 with
 |x :: t, _ =>
  intro e;have h4 := (Cb h3 x.toNat).2 (by have := (h3 x (by simp)).1; rw [Int.toNat_of_nonneg this]; simp);rw [e] at h4;simp at h4
def Snd (N : List St) (ay k : Nat) (P : List Int -> Prop) (w : List Int) : Prop := ∃ u v k', k' <= k /\ w = u ++ v /\ P u /\ lM N k' ay v
def Ie (r : Rx) : Prop := ∀ (M N : List St) (ay k : Nat) (w : List Int), M ≠ [] -> jW N (aN M ay r).1 M.length (aN M ay r).1.length -> lM N k (aN M ay r).2 w -> Snd N ay k (ic r) w
theorem OQ {M M' : List St} (h : iX M M') (hM : M ≠ []) : M' ≠ [] := fun e => hM (by have := h.len; rw [e] at this; exact List.eq_nil_of_length_eq_zero (by simpa using this))
theorem Od : ∀ (ks : List Rx), (∀ x ∈ ks, Ie x) -> ∀ (M N : List St) (ay k : Nat) (w : List Int), M ≠ [] -> jW N (eT M ay ks).1 M.length (eT M ay ks).1.length -> lM N k (eT M ay ks).2 w -> Snd N ay k (nZ ks) w
 |[], hk, M, N, ay, k, w, hM, hA, ha => by
  rw [eT] at ha;exact ⟨[], w, k, Nat.le_refl _, rfl, zN.2 rfl, ha⟩
 |x :: xs, hk, M, N, ay, k, w, hM, hA, ha => by
  rw [eT] at ha hA;have qL := Fx xs M ay;have sZ := qP x (eT M ay xs).1 (eT M ay xs).2;obtain ⟨u, v, k1, h1, h2, h3, h4⟩ := hk x (by simp) (eT M ay xs).1 N (eT M ay xs).2 k w (OQ qL hM) (hA.sub qL.len (Nat.le_refl _)) ha;obtain ⟨u2, v2, k2, h5, h6, h7, h8⟩ := Od xs (fun y hy => hk y (by simp [hy])) M N ay k1 v hM (hA.ext sZ) h4;exact ⟨u ++ u2, v2, k2, by omega, by rw [h2, h6, List.append_assoc], xO.2 ⟨u, u2, rfl, h3, h7⟩, h8⟩
theorem Nr : ∀ (ks : List Rx), (∀ x ∈ ks, Ie x) -> ∀ (M N : List St) (ay k n : Nat) (w : List Int), M ≠ [] -> jW N (bL M ay ks).1 M.length (bL M ay ks).1.length -> n ∈ (bL M ay ks).2 -> lM N k n w -> Snd N ay k (oP ks) w
 |[], hk, M, N, ay, k, n, w, hM, hA, hn, ha => by rw [bL] at hn; cases hn
 |x :: xs, hk, M, N, ay, k, n, w, hM, hA, hn, ha => by
  rw [bL] at hn hA;have qL := qP x M ay;have sZ := wm xs (aN M ay x).1 ay
  rcases List.mem_cons.1 hn with e | hn
  ·subst e;obtain ⟨u, v, k1, h1, h2, h3, h4⟩ := hk x (by simp) M N ay k w hM (jW.ext hA sZ) ha;exact ⟨u, v, k1, h1, h2, sJ.2 ⟨x, by simp, h3⟩, h4⟩
  ·obtain ⟨u, v, k1, h1, h2, h3, h4⟩ := Nr xs (fun y hy => hk y (by simp [hy])) (aN M ay x).1 N ay k n w (OQ qL hM) (jW.sub hA qL.len (Nat.le_refl _)) hn ha;obtain ⟨y, hy, h5⟩ := sJ.1 h3;exact ⟨u, v, k1, h1, h2, sJ.2 ⟨y, by simp [hy], h5⟩, h4⟩
theorem Ul (M : List St) (ay : Nat) : aN M ay (.mk 0 [] []) = (M ++ [(0, [])], M.length) := by rw [qf]; simp [Rx.kind]
theorem Nk (M : List St) (ay : Nat) : aN M ay (.mk 1 [] []) = (M, ay) := by rw [qf]; simp [Rx.kind]
theorem OD (M : List St) (ay : Nat) (s : List Int) : aN M ay (.mk 2 s []) = (M ++ [(jK s, [ay])], M.length) := by rw [qf]; simp [Rx.kind, Rx.syms]
theorem Oy (M : List St) (ay : Nat) (ks : List Rx) : aN M ay (.mk 3 [] ks) = eT M ay ks := by rw [qf]; simp [Rx.kind, Rx.kids]
theorem Ma (M : List St) (ay : Nat) (ks : List Rx) : aN M ay (.mk 4 [] ks) = ((bL M ay ks).1 ++ [(0, (bL M ay ks).2)], (bL M ay ks).1.length) := by rw [qf]; simp [Rx.kind, Rx.kids]
theorem Gh (M : List St) (ay : Nat) (x : Rx) : aN M ay (.mk 5 [] [x]) = ((aN (M ++ [(0, [ay])]) M.length x).1.set M.length (0, [ay, (aN (M ++ [(0, [ay])]) M.length x).2]), M.length) := by rw [qf]; simp [Rx.kind, Rx.kids, lN]
theorem Mf {N M : List St} {ay : Nat} {x : Rx} (hA : jW N (aN M ay (.mk 5 [] [x])).1 M.length (aN M ay (.mk 5 [] [x])).1.length) : N[M.length]? = some (0, [ay, (aN (M ++ [(0, [ay])]) M.length x).2]) /\ jW N (aN (M ++ [(0, [ay])]) M.length x).1 (M ++ [(0, [ay])]).length (aN (M ++ [(0, [ay])]) M.length x).1.length := by
 have hE := (qP x (M ++ [(0, [ay])]) M.length).len;rw [List.length_append] at hE;simp only [List.length_singleton] at hE;rw [Gh] at hA;simp only [List.length_set] at hA;refine ⟨?_, fun i a b => ?_⟩
 ·rw [hA M.length (Nat.le_refl _) (by omega), List.getElem?_set_self (by omega)]
 ·rw [List.length_append] at a;simp only [List.length_singleton] at a;rw [hA i (by omega) b, List.getElem?_set_ne (by omega)]
theorem BS {N M L : List St} {x : St} (h : jW N (L ++ [x]) M.length (L ++ [x]).length) (hE : M.length <= L.length) : N[L.length]? = some x := by
 have h1 := h L.length hE (by simp);rw [List.getElem?_append_right (Nat.le_refl _)] at h1
 simpa using h1
theorem Tj (r : Rx) (hv : aC r = true) : Ie r := by
 induction r using Rx.ind with
 |h r ih =>
 intro M N ay k w hM hA ha;have hM0 : 0 < M.length := List.length_pos_iff.2 hM
 rcases kw hv with e | e | ⟨s, e, hs⟩ | ⟨ks, e, hk⟩ | ⟨ks, e, hk⟩ | ⟨x, e, hx⟩ <;> subst e
 ·rw [Ul] at ha hA;obtain ⟨k', n, _, h2, _⟩ := IX (BS hA (Nat.le_refl _)) (Nat.ne_of_gt hM0) ha
  cases h2
 ·rw [Nk] at ha;exact ⟨[], w, k, Nat.le_refl _, rfl, (Fz rfl _).2 rfl, ha⟩
 ·rw [OD] at ha hA;obtain ⟨k', n, c, v, h2, h3, h4, h5, h6, h7⟩ := Wi (BS hA (Nat.le_refl _)) (Sc hs) (Nat.ne_of_gt hM0) ha;obtain rfl : n = ay := by simpa using h6
  refine ⟨[c], v, k', by omega, h3, (Ij rfl _).2 ⟨c, ?_, rfl⟩, h7⟩;have h8 := (Cb (oh.1 hs).2.2 c.toNat).1 h5
  rwa [Int.toNat_of_nonneg h4.1] at h8
 ·rw [Oy] at ha hA;obtain ⟨u, v, k', h1, h2, h3, h4⟩ := Od ks (fun x hx => ih x hx (hk x hx)) M N ay k w hM hA ha;exact ⟨u, v, k', h1, h2, (zG rfl _).2 h3, h4⟩
 ·rw [Ma] at ha hA;have hE := (wm ks M ay).len;obtain ⟨k', n, h2, h3, h4⟩ := IX (BS hA hE) (by omega) ha;obtain ⟨u, v, k2, h5, h6, h7, h8⟩ := Nr ks (fun x hx => ih x hx (hk x hx)) M N ay k' n w hM (jW.ext hA (iX.app _ _)) h3 h4;exact ⟨u, v, k2, by omega, h6, (zO rfl _).2 h7, h8⟩
 ·have AU := Mf hA;rw [Gh] at ha;have hH : ∀ (k : Nat) (w : List Int), lM N k M.length w -> ∃ u v k', k' <= k /\ w = u ++ v /\ kR (ic x) u /\ lM N k' ay v := by
   intro k
   induction k using Nat.strongRecOn with
   |_ k ihk =>
    intro w ha;obtain ⟨k', n, h2, h3, h4⟩ := IX AU.1 (by omega) ha
    rcases List.mem_cons.1 h3 with e | h3
    ·subst e;exact ⟨[], w, k', by omega, rfl, .nil, h4⟩
    ·obtain rfl : n = (aN (M ++ [(0, [ay])]) M.length x).2 := by simpa using h3
     obtain ⟨u, v, k2, h5, h6, h7, h8⟩ := ih x (by simp [Rx.kids]) hx (M ++ [(0, [ay])]) N M.length k' w (by simp) AU.2 h4;obtain ⟨u2, v2, k3, h9, h10, h11, tX⟩ := ihk k2 (by omega) v h8;exact ⟨u ++ u2, v2, k3, by omega, by rw [h6, h10, List.append_assoc], kR.cons h7 h11, tX⟩
  obtain ⟨u, v, k', h2, h3, h4, h5⟩ := hH k w ha;exact ⟨u, v, k', h2, h3, (Cx u).2 h4, h5⟩
def Ac (N : List St) (s : Nat) (w : List Int) : Prop := ∃ k, lM N k s w
theorem Ac.eps {N : List St} {s n : Nat} {w : List Int} {nx : List Nat} (h1 : N[s]? = some (0, nx)) (h2 : n ∈ nx) (h : Ac N n w) : Ac N s w := by
 obtain ⟨k, h⟩ := h;exact ⟨k + 1, .eps h1 h2 h⟩
def IU (r : Rx) : Prop := ∀ (M N : List St) (ay : Nat) (u v : List Int), jW N (aN M ay r).1 M.length (aN M ay r).1.length -> ic r u -> Ac N ay v -> Ac N (aN M ay r).2 (u ++ v)
theorem KU : ∀ (ks : List Rx), (∀ x ∈ ks, IU x) -> ∀ (M N : List St) (ay : Nat) (u v : List Int), jW N (eT M ay ks).1 M.length (eT M ay ks).1.length -> nZ ks u -> Ac N ay v -> Ac N (eT M ay ks).2 (u ++ v)
 |[], hk, M, N, ay, u, v, hA, hu, ha => by
  obtain rfl := zN.1 hu;rw [eT];exact ha
 |x :: xs, hk, M, N, ay, u, v, hA, hu, ha => by
  rw [eT] at hA ⊢;obtain ⟨u1, u2, rfl, h1, h2⟩ := xO.1 hu;have qL := Fx xs M ay;have sZ := qP x (eT M ay xs).1 (eT M ay xs).2;have h3 := KU xs (fun y hy => hk y (by simp [hy])) M N ay u2 v (hA.ext sZ) h2 ha;rw [List.append_assoc];exact hk x (by simp) _ N _ u1 (u2 ++ v) (hA.sub qL.len (Nat.le_refl _)) h1 h3
theorem Ny : ∀ (ks : List Rx), (∀ x ∈ ks, IU x) -> ∀ (M N : List St) (ay : Nat) (u v : List Int), jW N (bL M ay ks).1 M.length (bL M ay ks).1.length -> oP ks u -> Ac N ay v -> ∃ n ∈ (bL M ay ks).2, Ac N n (u ++ v)
 |[], hk, M, N, ay, u, v, hA, hu, ha => by obtain ⟨x, hx, _⟩ := sJ.1 hu; cases hx
 |x :: xs, hk, M, N, ay, u, v, hA, hu, ha => by
  rw [bL] at hA ⊢;have qL := qP x M ay;have sZ := wm xs (aN M ay x).1 ay;obtain ⟨y, hy, h1⟩ := sJ.1 hu
  rcases List.mem_cons.1 hy with e | hy
  ·subst e;exact ⟨_, by simp, hk y (by simp) M N ay u v (jW.ext hA sZ) h1 ha⟩
  ·obtain ⟨n, hn, h2⟩ := Ny xs (fun y hy => hk y (by simp [hy])) (aN M ay x).1 N ay u v (jW.sub hA qL.len (Nat.le_refl _)) (sJ.2 ⟨y, hy, h1⟩) ha;exact ⟨n, by simp [hn], h2⟩
theorem TR (r : Rx) (hv : aC r = true) : IU r := by
 induction r using Rx.ind with
 |h r ih =>
 intro M N ay u v hA hu ha
 rcases kw hv with e | e | ⟨s, e, hs⟩ | ⟨ks, e, hk⟩ | ⟨ks, e, hk⟩ | ⟨x, e, hx⟩ <;> subst e
 ·exact absurd hu (BX rfl u)
 ·obtain rfl := (Fz rfl u).1 hu;rw [Nk];exact ha
 ·obtain ⟨c, hc, rfl⟩ := (Ij rfl u).1 hu;rw [OD] at hA ⊢;have h3 := (oh.1 hs).2.2;obtain ⟨k, ha⟩ := ha;exact ⟨k + 1, .read (BS hA (Nat.le_refl _)) (h3 c hc).1 (h3 c hc).2 ((Cb h3 c.toNat).2 (by rw [Int.toNat_of_nonneg (h3 c hc).1]; exact hc)) (by simp) ha⟩
 ·rw [Oy] at hA ⊢;exact KU ks (fun x hx => ih x hx (hk x hx)) M N ay u v hA ((zG rfl u).1 hu) ha
 ·rw [Ma] at hA ⊢;have hE := (wm ks M ay).len;obtain ⟨n, hn, h1⟩ := Ny ks (fun x hx => ih x hx (hk x hx)) M N ay u v (jW.ext hA (iX.app _ _)) ((zO rfl u).1 hu) ha;exact h1.eps (BS hA hE) hn
 ·have AU := Mf hA;rw [Gh];have h1 := (Cx u).1 hu;clear hu;show Ac N M.length (u ++ v)
  induction h1 with
  |nil => exact ha.eps AU.1 (by simp)
  |app hu hne hv' bV =>
   rw [List.append_assoc];exact (ih x (by simp [Rx.kids]) hx (M ++ [(0, [ay])]) N M.length _ _ AU.2 hu bV).eps AU.1 (by simp)
def Ck (r : Rx) : List St × Nat := aN [(0, [])] 0 r
theorem Vr {N : List St} {k : Nat} {w : List Int} (h : N[0]? = some (0, [])) (ha : lM N k 0 w) : w = [] := by
 cases ha with
 |fin => rfl
 |eps h1 h2 h3 =>
  rw [h] at h1;simp only [Option.some.injEq, Prod.mk.injEq, true_and] at h1;subst h1
  cases h2
 |read h1 h2 h3 h4 h5 h6 =>
  rw [h] at h1;simp only [Option.some.injEq, Prod.mk.injEq] at h1;rw [<- h1.2] at h5
  cases h5
theorem TY {r : Rx} (hv : aC r = true) (w : List Int) : Ac (Ck r).1 (Ck r).2 w ↔ ic r w := by
 have h0 : (Ck r).1[0]? = some (0, []) := (qP r [(0, [])] 0).get 0 (by simp);have hA : jW (Ck r).1 (aN [(0, [])] 0 r).1 ([(0, [])] : List St).length (aN [(0, [])] 0 r).1.length := fun _ _ _ => rfl
 constructor
 ·rintro ⟨k, h⟩;obtain ⟨u, v, k', h1, h2, h3, h4⟩ := Tj r hv [(0, [])] _ 0 k w (by simp) hA h;rw [Vr h0 h4, List.append_nil] at h2;rw [h2]; exact h3
 ·intro h;have h1 := TR r hv [(0, [])] _ 0 w [] hA h ⟨0, .fin⟩;rw [List.append_nil] at h1;exact h1
inductive o6 (N : List St) : Nat -> Nat -> Prop
 |refl (s : Nat) : o6 N s s
 |step {s n t : Nat} {nx : List Nat} : o6 N s t -> N[t]? = some (0, nx) -> n ∈ nx -> o6 N s n
def zw (N : List St) (now L : List Nat) : Prop := ∀ n, n ∈ L ↔ ∃ a ∈ now, o6 N a n
def oZ (N : List St) (c : Int) (L now : List Nat) : Prop := ∀ n, n ∈ now ↔ ∃ s ∈ L, ∃ b nx, N[s]? = some (b, nx) /\ (0 <= c /\ c < 64) /\ b.testBit c.toNat = true /\ n ∈ nx
theorem o6.ac {N : List St} {s t : Nat} {w : List Int} (h : o6 N s t) (ha : Ac N t w) : Ac N s w := by
 induction h with
 |refl => exact ha
 |step h1 h2 h3 ih => exact ih (ha.eps h2 h3)
theorem o6.head {N : List St} {s n t : Nat} {nx : List Nat} (h1 : N[s]? = some (0, nx)) (h2 : n ∈ nx) (h : o6 N n t) : o6 N s t := by
 induction h with
 |refl => exact .step (.refl s) h1 h2
 |step h3 h4 h5 ih => exact .step ih h4 h5
theorem Ll {N : List St} {s k : Nat} {w : List Int} (h : lM N k s w) : (w = [] /\ o6 N s 0) \/ ∃ c v t n b nx, w = c :: v /\ o6 N s t /\ N[t]? = some (b, nx) /\ (0 <= c /\ c < 64) /\ b.testBit c.toNat = true /\ n ∈ nx /\ Ac N n v := by
 induction h with
 |fin => exact .inl ⟨rfl, .refl 0⟩
 |eps h1 h2 h3 ih =>
  rcases ih with ⟨e, h⟩ | ⟨c, v, t, n, b, nx, e, h, r⟩
  ·exact .inl ⟨e, h.head h1 h2⟩
  ·exact .inr ⟨c, v, t, n, b, nx, e, h.head h1 h2, r⟩
 |read h1 h2 h3 h4 h5 h6 ih => exact .inr ⟨_, _, _, _, _, _, rfl, .refl _, h1, ⟨h2, h3⟩, h4, h5, _, h6⟩
def Any (N : List St) (now : List Nat) (w : List Int) : Prop := ∃ s ∈ now, Ac N s w
theorem any_nil {N : List St} {now L : List Nat} (h : zw N now L) : Any N now [] ↔ 0 ∈ L := by
 rw [h 0];constructor
 ·rintro ⟨s, hs, k, ha⟩
  rcases Ll ha with ⟨_, h⟩ | ⟨c, v, t, n, b, nx, e, _⟩
  ·exact ⟨s, hs, h⟩
  ·cases e
 ·rintro ⟨s, hs, h⟩;exact ⟨s, hs, h.ac ⟨0, .fin⟩⟩
theorem any_cons {N : List St} {now L PG : List Nat} {c : Int} {w : List Int} (h : zw N now L) (h2 : oZ N c L PG) : Any N now (c :: w) ↔ Any N PG w := by
 constructor
 ·rintro ⟨s, hs, k, ha⟩
  rcases Ll ha with ⟨e, _⟩ | ⟨c', v, t, n, b, nx, e, h3, h4, h5, h6, h7, h8⟩
  ·cases e
  ·simp only [List.cons.injEq] at e;obtain ⟨rfl, rfl⟩ := e;exact ⟨n, (h2 n).2 ⟨t, (h t).2 ⟨s, hs, h3⟩, b, nx, h4, h5, h6, h7⟩, h8⟩
 ·rintro ⟨n, hn, k, ha⟩;obtain ⟨t, ht, b, nx, h4, h5, h6, h7⟩ := (h2 n).1 hn;obtain ⟨s, hs, h3⟩ := (h t).1 ht;exact ⟨s, hs, h3.ac ⟨k + 1, .read h4 h5.1 h5.2 h6 h7 ha⟩⟩
theorem RI {N : List St} {w : List Int} : ¬ Any N [] w := by rintro ⟨s, hs, _⟩; cases hs
end Rgx
namespace Rgx
structure eD (p : Nat -> Prop) (w : World) (l : List Rx) (B : Option Addr) (m d : Nat) : Prop where
 mlen : m = l.length
 mcap : m <= d
 dmax : d <= 9223372036854775807
 kids : bA p w l B
 blk : l ≠ [] -> ∀ b o, B = some ⟨b, o, none⟩ -> p b
section
variable {p q : Nat -> Prop} {w W : World} {l : List Rx} {B : Option Addr} {m d : Nat}
theorem eD.below (h : eD p w l B m d) (hb : Bw w W) : eD p W l B m d := ⟨h.mlen, h.mcap, h.dmax, h.kids.below hb, h.blk⟩
theorem eD.mono (h : eD p w l B m d) (jF : ∀ b, p b -> q b) : eD q w l B m d := ⟨h.mlen, h.mcap, h.dmax, h.kids.mono jF, fun hn b o e => jF b (h.blk hn b o e)⟩
theorem eD.nil (p : Nat -> Prop) (w : World) : eD p w [] none 0 0 := ⟨rfl, Nat.le_refl _, Nat.zero_le _, fun i hi => absurd hi (by simp), fun h => absurd rfl h⟩
theorem bA.ltk (h : bA p w l B) : bA (fun b => p b /\ b < w.heap.size) w l B := fun i hi => by
 obtain ⟨b, o, v1, v2, e, h1, h2, h3, h4⟩ := h i hi;exact ⟨b, o, v1, v2, e, h1, h2, h3, aY.and _ h4 (iE.q _ (aY.ok _ h4))⟩
theorem eD.lt (h : eD p w l B m d) : eD (fun b => p b /\ b < w.heap.size) w l B m d := ⟨h.mlen, h.mcap, h.dmax, h.kids.ltk, fun hn b o e => ⟨h.blk hn b o e, by
 obtain ⟨b', o', v1, v2, e', h1, _⟩ := h.kids 0 (List.length_pos_iff.2 hn);obtain ⟨rfl, rfl⟩ : b = b' /\ o = o' := by rw [e] at e'; simpa using e'
 exact World.block_lt_of_cell? w _ h1⟩⟩
theorem bA.take (h : bA p w l B) (i : Nat) : bA p w (l.take i) B := fun j hj => by
 obtain ⟨b, o, v1, v2, e, h1⟩ := h j (by rw [List.length_take] at hj; omega);refine ⟨b, o, v1, v2, e, ?_⟩;rw [List.getElem_take];exact h1
theorem bA.dropk {b o o' : Nat} (h : bA p w l (some ⟨b, o, none⟩)) (i : Nat) (ho : i < l.length -> o' = o + i * 3) : bA p w (l.drop i) (some ⟨b, o', none⟩) := fun j hj => by
 rw [List.length_drop] at hj;obtain ⟨b', o2, v1, v2, e, h1, h2, h3, h4⟩ := h (i + j) (by omega);obtain ⟨rfl, rfl⟩ : b = b' /\ o = o2 := by simpa using e
 have e2 := ho (by omega);subst e2;refine ⟨b, o + i * 3, v1, v2, rfl, ?_, ?_, ?_, ?_⟩
 ·rw [List.getElem_drop, show o + i * 3 + j * 3 = o + (i + j) * 3 by omega]; exact h1
 ·rw [show o + i * 3 + j * 3 + 1 = o + (i + j) * 3 + 1 by omega]; exact h2
 ·rw [show o + i * 3 + j * 3 + 2 = o + (i + j) * 3 + 2 by omega]; exact h3
 ·rw [List.getElem_drop]; exact h4
end
theorem F9 : ∀ (l : List Rx) (x : Rx) (i : Nat), i <= l.length -> (∀ j, j < i -> bI (av l j) x < 0) -> (i < l.length -> ¬ bI (av l i) x < 0) -> dK l x = if i < l.length /\ bI (av l i) x = 0 then l else l.take i ++ [x] ++ l.drop i
 |[], x, i, hi, h1, h2 => by
  obtain rfl : i = 0 := by simpa using hi
  simp [dK]
 |y :: l, x, 0, hi, h1, h2 => by
  have h3 := h2 (by simp);have e : av (y :: l) 0 = y := rfl;rw [e] at h3 ⊢;rw [dK, if_neg h3]
  by_cases h4 : bI y x = 0
  ·rw [if_pos h4, if_pos ⟨by simp, h4⟩]
  ·rw [if_neg h4, if_neg (fun h => h4 h.2)]; rfl
 |y :: l, x, i + 1, hi, h1, h2 => by
  have h3 : bI y x < 0 := h1 0 (by omega);have e : ∀ j, av (y :: l) (j + 1) = av l j := fun j => rfl
  rw [dK, if_pos h3, F9 l x i (by simpa using hi) (fun j hj => by rw [<- e]; exact h1 (j + 1) (by omega)) (fun h => by rw [<- e]; exact h2 (by simpa using h)), e]
  by_cases h4 : i < l.length /\ bI (av l i) x = 0
  ·rw [if_pos h4, if_pos ⟨by simpa using h4.1, h4.2⟩]
  ·rw [if_neg h4, if_neg (fun h => h4 ⟨by simpa using h.1, h.2⟩)]; rfl
end Rgx
def F7 (p : Nat -> Prop) (w : World) (l : List Rx) (e : Ending) (w' : World) : Prop := ∃ B m d, e = .returned (.slice B m d) /\ eD (fun b => p b \/ w.heap.size <= b) w' l B m d /\ Bw w w'
theorem QK {p : Nat -> Prop} {w w' : World} {l : List Rx} {e : Ending} (h : F7 p w l e w') : ∃ B m d, e = .returned (.slice B m d) /\ eD (fun b => p b \/ w.heap.size <= b) w' l B m d /\ Bw w w' := h
theorem UN {r t : Rx} {K K2 : Int} {A B A2 B2 : Option Addr} {n c m d n2 c2 m2 d2 : Nat} {w : World} (hK : K = r.kind) (hK2 : K2 = t.kind) (y : Int) (hy : y = bI r t) (h1 : aI w r A n c B m d) (h2 : aI w t A2 n2 c2 B2 m2 d2) : Calls Tryz.prog 49 #[.agg #[.int .i64 K, .slice A n c, .slice B m d], .agg #[.int .i64 K2, .slice A2 n2 c2, .slice B2 m2 d2]] w (nV w y) := by
 subst hK; subst hK2; subst hy;exact Lb h1 h2
theorem BN {r t : Rx} {K K2 : Int} {A B A2 B2 : Option Addr} {n c m d n2 c2 m2 d2 : Nat} {w : World} (hK : K = r.kind) (hK2 : K2 = t.kind) (V : Bool) (hV : V = decide (bI r t = 0)) (h1 : aI w r A n c B m d) (h2 : aI w t A2 n2 c2 B2 m2 d2) : Calls Tryz.prog 18 #[.agg #[.int .i64 K, .slice A n c, .slice B m d], .agg #[.int .i64 K2, .slice A2 n2 c2, .slice B2 m2 d2]] w (aU w V) := by
 subst hK; subst hK2;exact WH r t V hV _ _ _ _ _ _ _ _ _ _ _ _ w h1 h2
theorem TW {size : Nat} (hs : size = 3) {w : World} {g : Nat} {K : Int} {A B : Option Addr} {n c m d : Nat} (h : ae w g (zV K A n c B m d) 25) : Src Tryz.prog size 23 (.slice (pt g) 1 1) 1 (zV K A n c B m d) w := by
 subst hs;refine Src.ofSlice _ Tryz.underlying23 _ 1 1 _ rfl (fun j u hu => ?_) (by simp [Value.oneCell']);have rO : (⟨g, 0, none⟩ : Addr).add j = ⟨g, j, none⟩ := by unfold Addr.add; split <;> simp_all
 rw [rO];exact h.cell hu
theorem Gt {q q2 : Nat -> Prop} {base : Nat} {v : Value} {l : List Rx} {w : World} (h : aD q base v l w) (hq : ∀ b, q b -> q2 b) (hb : ∀ b, base <= b -> q2 b) : ∃ B m d, v = .slice B m d /\ eD q2 w l B m d := by
 obtain ⟨B, d, e, h1, h2, h3, h4⟩ := h.e;refine ⟨B, _, d, e, rfl, h1, h2, h3.mono fun b hb2 => hq b hb2.1, fun hn b o e2 => ?_⟩;obtain ⟨g, e3, h5, _⟩ := h4 hn;rw [e2] at e3;obtain ⟨rfl, _⟩ : b = g /\ o = 0 := by simpa using e3
 exact hb b h5
theorem Vx {P : Program} {t e : TypeId} {i : TypeInfo} (h : P.underlying t = some (.slice e)) (hi : P.info? e = some i) (B : Option Addr) (m d k : Nat) (hk : k <= m) (hm : m <= d) (hB : m ≠ 0 -> ∃ b o, B = some ⟨b, o, none⟩) : ∃ B', (∀ b o, B = some ⟨b, o, none⟩ -> ∃ o', B' = some ⟨b, o', none⟩ /\ (k < d -> o' = o + k * i.size)) /\ ∀ w, (Instr.slice t (.slice B m d) (some (.int .i64 (k : Int))) none none).run P w = .ok (.slice B' (m - k) (d - k)) w := by
 have h2 : (k : Int) <= (m : Int) := by omega
 cases B with
 |none =>
  obtain rfl : m = 0 := Classical.byContradiction fun h => by obtain ⟨b, o, e⟩ := hB h; cases e
  obtain rfl : k = 0 := by omega
  refine ⟨none, fun b o e => (by cases e), fun w => ?_⟩;simp [Instr.slice, Instr.sliceBounds, Instr.sliceBound, asIntOf, run_underlying h, sizeOf, typeInfo, hi, go_sem]
 |some a =>
  by_cases hd : d = k
  ·refine ⟨some a, fun b o e => ⟨o, e, fun h => by omega⟩, fun w => ?_⟩;simp [Instr.slice, Instr.sliceBounds, Instr.sliceBound, asIntOf, run_underlying h, sizeOf, typeInfo, hi, h2, hd, go_sem];intro h3;omega
  ·refine ⟨some (a.add (k * i.size)), fun b o e => ?_, fun w => ?_⟩
   ·obtain rfl := Option.some.inj e;exact ⟨o + k * i.size, by simp [Addr.add], fun _ => rfl⟩
   ·simp [Instr.slice, Instr.sliceBounds, Instr.sliceBound, asIntOf, run_underlying h, sizeOf, typeInfo, hi, h2, hd, go_sem];intro h3;omega
theorem Sj {P : Program} {t e : TypeId} {i : TypeInfo} (h : P.underlying t = some (.slice e)) (hi : P.info? e = some i) (B : Option Addr) (m d k : Nat) (hk : k <= m) (hm : m <= d) (hB : m ≠ 0 -> ∃ b o, B = some ⟨b, o, none⟩) : ∀ w, (Instr.slice t (.slice B m d) none (some (.int .i64 (k : Int))) none).run P w = .ok (.slice B k d) w := by
 intro w;have h2 : (k : Int) <= (m : Int) := by omega
 have h3 : k <= d := by omega
 cases B with
 |none =>
  obtain rfl : m = 0 := Classical.byContradiction fun h => by obtain ⟨b, o, e⟩ := hB h; cases e
  obtain rfl : k = 0 := by omega
  simp [Instr.slice, Instr.sliceBounds, Instr.sliceBound, asIntOf, run_underlying h, sizeOf, typeInfo, hi, go_sem]
 |some a =>
  by_cases hd : d = 0
  ·obtain rfl : k = 0 := by omega
   simp [Instr.slice, Instr.sliceBounds, Instr.sliceBound, asIntOf, run_underlying h, sizeOf, typeInfo, hi, h3, hd, go_sem]
  ·simp [Instr.slice, Instr.sliceBounds, Instr.sliceBound, asIntOf, run_underlying h, sizeOf, typeInfo, hi, h3, hd, go_sem]
theorem Sk {p : Nat -> Prop} (w : World) (hp : ∀ b, p b -> b < w.heap.size) (l : List Rx) (B : Option Addr) (m d : Nat) (hl : eD p w l B m d) (hm : m <= 1000000000001) (x : Rx) (K : Int) (hK : K = x.kind) (A B2 : Option Addr) (n c m2 d2 : Nat) (hx : ak p w x A n c B2 m2 d2) : Calls Tryz.prog 124 #[.slice B m d, .agg #[.int .i64 K, .slice A n c, .slice B2 m2 d2]] w (F7 p w (dK l x)) := by
 obtain ⟨i0, aZ, hz0, hz1, hz2⟩ := info_parts lG;have HL := Lh hl;have HP := Lh hp;have bQ := LH (ak p w x A n c B2 m2 d2 /\ K = x.kind) ⟨hx, hK⟩;have dw := LH (ae (w.alloc (zC K A n c B2 m2 d2)) w.heap.size (zV K A n c B2 m2 d2) 25) (ae.at w (zV K A n c B2 m2 d2) _ 25 _ rfl rfl);have iA := hl.mcap;clear hl hp hx hK;go_enter Tryz.func124, Tryz.ntmps124;go_wp2_with fail
 go_loopg [5] m (fun g s5 wr => ∃ i : Nat, i + g = m /\ s5 = .int .i64 (i : Int) /\ Hid ((∀ j, j < i -> bI (av l j) x < 0) /\ Below (w.alloc (zC K A n c B2 m2 d2)).heap.size (w.alloc (zC K A n c B2 m2 d2)) wr))
 case atStart => exact ⟨0, by omega, rfl, Lh ⟨fun j hj => by omega, Below.refl _ _⟩⟩
 case round =>
  obtain ⟨i, hi, rfl, HI⟩ := hrel;have bg := LH (Bw w wr) (ah (ai _ _) HI.out.2);have bX := LH (Bw wr wr) (Below.refl _ _);have Eh : i <= m := by omega
  have GV : m ≠ 0 -> ∃ b o, B = some ⟨b, o, none⟩ := fun h => HL.out.kids.place (by have := HL.out.mlen; omega)
  have hsl1 := Sj (P := Tryz.prog) (t := 23) (e := 25) (i := i0) Tryz.underlying23 aZ B m d i Eh iA GV;obtain ⟨B9, hB9, hsl2⟩ := Vx (P := Tryz.prog) (t := 23) (e := 25) (i := i0) Tryz.underlying23 aZ B m d i Eh iA GV;have oI := LH (∀ W : World, Bw w W -> ∃ ys, aM p W ys (l.take i) /\ Src Tryz.prog i0.size 23 (.slice B i d) i ys W) fun W hb => zY hz1 (by rw [List.length_take]; have := HL.out.mlen; omega) ((HL.out.kids.take i).below hb)
  have HSRD := LH (∀ W : World, Bw w W -> ∃ ys, aM p W ys (l.drop i) /\ Src Tryz.prog i0.size 23 (.slice B9 (m - i) (d - i)) (m - i) ys W) fun W hb => by
   refine zY hz1 (by rw [List.length_drop]; have := HL.out.mlen; omega) ?_
   by_cases h : m = 0
   ·intro j hj; rw [List.length_drop] at hj; have := HL.out.mlen; omega
   ·obtain ⟨b, o, e⟩ := GV h;obtain ⟨o', e', ho'⟩ := hB9 b o e;rw [e'];exact bA.below (bA.dropk (by rw [<- e]; exact HL.out.kids) i fun h9 => by have := ho' (by have := HL.out.mlen; omega); rw [hz1] at this; exact this) hb
  have hs0 : 0 + i <= maxLen := by unfold maxLen; omega
  have Pz : (0 + i) * 56 <= 140737488355328 := by omega
  have hs1 : i + 1 <= maxLen := by unfold maxLen; omega
  have PI : (i + 1) * 56 <= 140737488355328 := by omega
  have hs2 : i + 1 + (m - i) <= maxLen := by unfold maxLen; omega
  have hs22 : (i + 1 + (m - i)) * 56 <= 140737488355328 := by omega
  clear hB9 GV
  by_cases hlt : i < m
  focus
   have d1a : decide (i < m) = true := dT hlt;have d1b : decide ((i : Int) < (m : Int)) = true := dT (by omega);obtain ⟨b, o, rfl⟩ := HL.out.kids.place (by have := HL.out.mlen; omega);obtain ⟨A5, n5, c5, B5, m5, d5, hrg, ax⟩ := HL.out.kids.kid (i := i) (by rw [<- HL.out.mlen]; exact hlt);obtain ⟨Kk, iQ⟩ := eX ((av l i).kind);rw [<- iQ] at hrg;have aP := LH (∀ p : Wo (Below wr.heap.size wr), p.wo.rangeAt b (o + i * 3) (zV Kk A5 n5 c5 B5 m5 d5)) fun p => iW hrg (ah bg.out p.ok)
   have kE := LH (∀ p : Wo (Below wr.heap.size wr), p.wo.rangeAt w.heap.size 0 (zV K A n c B2 m2 d2)) fun p => aS (dw.out.below (ah HI.out.2 p.ok) (by simp))
   obtain ⟨y, hy⟩ := eX (bI (av l i) x);have qB := LH (∀ W, Bw wr W -> Cz 49 #[.agg #[.int .i64 Kk, .slice A5 n5 c5, .slice B5 m5 d5], .agg #[.int .i64 K, .slice A n c, .slice B2 m2 d2]] W fun e w' => e = .returned (.int .i64 y) /\ Bw wr w') fun W hb => (UN iQ bQ.out.2 y hy (ax.o.below (ah bg.out hb)) (bQ.out.1.o.below (ah bg.out hb))).mono fun e w' hp => ⟨hp.1, ah hb hp.2⟩
   have HSX := LH (∀ V : Bool, V = decide (y = 0) -> ∀ W, Bw wr W -> Cz 18 #[.agg #[.int .i64 Kk, .slice A5 n5 c5, .slice B5 m5 d5], .agg #[.int .i64 K, .slice A n c, .slice B2 m2 d2]] W fun e w' => e = .returned (.bool V) /\ Bw wr w') fun V hV W hb => (BN iQ bQ.out.2 V (by rw [hV, hy]) (ax.o.below (ah bg.out hb)) (bQ.out.1.o.below (ah bg.out hb))).mono fun e w' hp => ⟨(aV hp).1, ah hb (aV hp).2⟩
   have HY := LH (y = bI (av l i) x) hy;clear hrg ax iQ hy
   by_cases nP : y < 0
   ·obtain ⟨g, rfl⟩ : ∃ g, gk = g + 1 := ⟨gk - 1, by omega⟩;have d2a : decide (y < 0) = true := dT nP;go_wp2_with fail;haveI : Nonempty (Wo (Below wr.heap.size wr)) := ⟨⟨wr, bX.out⟩⟩;refine jB (Below wr.heap.size wr) jC (by kernel_rfl) (below_drewN bX.out 1) ?_
    iterate 8 (go_big_quiet_step (fail))
    refine jX (by rfl) (.tmp 14) rfl b (o + i * 3) rfl Kk A5 B5 n5 c5 m5 d5 aP.out ?_;(try simp only [Act.put, pP]);refine jX (by rfl) (.tmp 3) rfl w.heap.size 0 rfl K A B2 n c m2 d2 kE.out ?_;try simp only [Act.put, pP]
    repeat (go_big_quiet_step ((go_at_call 49; exact qh qB.out _)))
    refine wpQuiet_nil ?_;intro x1 hw2;obtain ⟨⟨iy, ax⟩, hw3⟩ := hw2;have hw4 : x1 = iy := hw3;subst hw4;have fE := Lh ax;clear hw3 ax;go_wp2_with fail
    go_roundg g
    case rel => exact ⟨i + 1, by omega, by go_num, Lh ⟨fun j hj => by
     by_cases e : j = i
     ·subst e; rw [<- HY.out]; exact nP
     ·exact HI.out.1 j (by omega), ah HI.out.2 fE.out⟩⟩
    case measure => omega
   have d2a : decide (y < 0) = false := dF nP
   by_cases iG : y = 0
   ·skip
    have iT := Lh (HSX.out true (by rw [iG]; rfl));go_wp2_with fail;haveI : Nonempty (Wo (Below wr.heap.size wr)) := ⟨⟨wr, bX.out⟩⟩;refine jB (Below wr.heap.size wr) jC (by kernel_rfl) (below_drewN bX.out 1) ?_
    iterate 8 (go_big_quiet_step (fail))
    refine jX (by rfl) (.tmp 14) rfl b (o + i * 3) rfl Kk A5 B5 n5 c5 m5 d5 aP.out ?_;(try simp only [Act.put, pP]);refine jX (by rfl) (.tmp 3) rfl w.heap.size 0 rfl K A B2 n c m2 d2 kE.out ?_;try simp only [Act.put, pP]
    repeat (go_big_quiet_step ((go_at_call 49; exact qh qB.out _)))
    refine wpQuiet_nil ?_;intro x1 hw2;obtain ⟨⟨iy, ax⟩, hw3⟩ := hw2;have hw4 : x1 = iy := hw3;subst hw4;have fE := Lh ax;clear hw3 ax;go_wp2_with fail;refine jB (Below wr.heap.size wr) jC (by kernel_rfl) (below_drewN fE.out 1) ?_
    iterate 8 (go_big_quiet_step (fail))
    refine jX (by rfl) (.tmp 29) rfl b (o + i * 3) rfl Kk A5 B5 n5 c5 m5 d5 aP.out ?_;(try simp only [Act.put, pP]);refine jX (by rfl) (.tmp 3) rfl w.heap.size 0 rfl K A B2 n c m2 d2 kE.out ?_;try simp only [Act.put, pP]
    repeat (go_big_quiet_step ((go_at_call 18; exact qh iT.out _)))
    refine wpQuiet_nil ?_;intro x2 hw2;obtain ⟨⟨Fh, ax⟩, hw3⟩ := hw2;have hw4 : x2 = Fh := hw3;subst hw4;have tZ := Lh ax;clear hw3 ax;have HE := LH (F7 p w (dK l x) (.returned (.slice (some ⟨b, o, none⟩) m d)) x2) (by
     rw [F9 l x i (by rw [<- HL.out.mlen]; exact Eh) HI.out.1 (fun _ => by rw [<- HY.out]; omega), if_pos ⟨by rw [<- HL.out.mlen]; exact hlt, by rw [<- HY.out]; exact iG⟩];exact ⟨_, _, _, rfl, (HL.out.below (ah bg.out tZ.out)).mono (fun b hb => .inl hb), (ah bg.out tZ.out)⟩)
    go_wp2_with fail;go_ret;exact HE.out
   have EB := LH (dK l x = l.take i ++ [x] ++ l.drop i) (by rw [F9 l x i (by rw [<- HL.out.mlen]; exact Eh) HI.out.1 (fun _ => by rw [<- HY.out]; omega), if_neg (fun h => iG (by rw [HY.out]; exact h.2))]);have iT := Lh (HSX.out false (by rw [dF iG]));go_wp2_with fail;haveI : Nonempty (Wo (Below wr.heap.size wr)) := ⟨⟨wr, bX.out⟩⟩;refine jB (Below wr.heap.size wr) jC (by kernel_rfl) (below_drewN bX.out 1) ?_
   iterate 8 (go_big_quiet_step (fail))
   refine jX (by rfl) (.tmp 14) rfl b (o + i * 3) rfl Kk A5 B5 n5 c5 m5 d5 aP.out ?_;(try simp only [Act.put, pP]);refine jX (by rfl) (.tmp 3) rfl w.heap.size 0 rfl K A B2 n c m2 d2 kE.out ?_;try simp only [Act.put, pP]
   repeat (go_big_quiet_step ((go_at_call 49; exact qh qB.out _)))
   refine wpQuiet_nil ?_;intro x1 hw2;obtain ⟨⟨iy, ax⟩, hw3⟩ := hw2;have hw4 : x1 = iy := hw3;subst hw4;have fE := Lh ax;clear hw3 ax;go_wp2_with fail;refine jB (Below wr.heap.size wr) jC (by kernel_rfl) (below_drewN fE.out 1) ?_
   iterate 8 (go_big_quiet_step (fail))
   refine jX (by rfl) (.tmp 29) rfl b (o + i * 3) rfl Kk A5 B5 n5 c5 m5 d5 aP.out ?_;(try simp only [Act.put, pP]);refine jX (by rfl) (.tmp 3) rfl w.heap.size 0 rfl K A B2 n c m2 d2 kE.out ?_;try simp only [Act.put, pP]
   repeat (go_big_quiet_step ((go_at_call 18; exact qh iT.out _)))
   refine wpQuiet_nil ?_;intro x2 hw2;obtain ⟨⟨Fh, ax⟩, hw3⟩ := hw2;have hw4 : x2 = Fh := hw3;subst hw4;have tZ := Lh ax;clear hw3 ax;have bK := LH (Below (w.alloc (zC K A n c B2 m2 d2)).heap.size (w.alloc (zC K A n c B2 m2 d2)) x2) (ah HI.out.2 tZ.out)
  rotate_left
  have d1a : decide (i < m) = false := dF hlt;have d1b : decide ((i : Int) < (m : Int)) = false := dF (by omega);have EB := LH (dK l x = l.take i ++ [x] ++ l.drop i) (by rw [F9 l x i (by rw [<- HL.out.mlen]; exact Eh) HI.out.1 (fun h => absurd h (by rw [<- HL.out.mlen]; exact hlt)), if_neg (fun h => hlt (by rw [HL.out.mlen]; exact h.1))]);go_wp2_with fail;haveI : Nonempty (Wo (Below wr.heap.size wr)) := ⟨⟨wr, bX.out⟩⟩;refine jB (Below wr.heap.size wr) jC (by kernel_rfl) (below_drewN bX.out 1) ?_
  repeat (go_big_quiet_step (fail))
  refine wpQuiet_nil ?_;intro x1 hw2;obtain ⟨⟨iy, ax⟩, hw3⟩ := hw2;have hw4 : x1 = iy := hw3;subst hw4;have fE := Lh ax;clear hw3 ax;go_wp2_with fail;refine jB (Below wr.heap.size wr) jC (by kernel_rfl) (below_drewN fE.out 1) ?_
  repeat (go_big_quiet_step (fail))
  refine wpQuiet_nil ?_;intro x2 hw2;obtain ⟨⟨Fh, ax⟩, hw3⟩ := hw2;have hw4 : x2 = Fh := hw3;subst hw4;have tZ := Lh ax;clear hw3 ax;have bK := LH (Below (w.alloc (zC K A n c B2 m2 d2)).heap.size (w.alloc (zC K A n c B2 m2 d2)) x2) (ah HI.out.2 tZ.out)
  all_goals
   have jo := LH ((fun w' => w'.rangeAt w.heap.size 0 (zV K A n c B2 m2 d2)) x2.drew) (aS (dw.out.below (ah bK.out (below_drewN (Below.refl _ _) 1)) (by simp)));have lX := LH (Bw x2 x2.drew) (below_drewN (Below.refl _ _) 1);go_wp2_with fail;refine wp_region_held_drew (S := fun w' => w'.rangeAt w.heap.size 0 (zV K A n c B2 m2 d2)) (by kernel_rfl) (jo.out) (fun cO => ?_);refine dP 0 ?_;refine dP 1 ?_;refine dP 2 ?_;refine dP 3 ?_;refine wX 5 rfl (yieldsIf_load_mid (by rfl) _ _ rfl _ _ rfl _ _ (fun w h => h) Tryz.underlying25 rfl au) ?_;refine wpAnyH_ready (rs := [4, 6]) (by kernel_rfl) (by simp) ?_;refine wA rfl (fun K0 hK => ?_) (wA rfl (fun K0 hK => ?_) AllReadyH.nil)
   focus
    obtain ⟨ys, gG, jl⟩ := oI.out _ (ah bg.out (ah tZ.out (lX.out)));have pY := Lh gG;have HSR := Lh jl;clear gG jl;refine xM rfl (.tmp 35) (.tmp 38) 23 23 rfl (w.heap.size + 1) 25 i0 _ 3 56 Tryz.underlying23 aZ hz0 hz1 hz2 rfl _ 0 [] rfl ⟨rfl, .inl ⟨rfl, rfl⟩⟩ _ i ys rfl HSR.out hs0 Pz (by have h1 := bK.out.size; simp at h1 ⊢; omega) ?_;intro v5 w5 ed cB dW;have bf := LH (aD (fun b => p b \/ w.heap.size <= b) (w.heap.size + 1) v5 (l.take i) w5 /\ Bw x2 w5) ⟨by
     have h1 := aD.app (q := (fun b => p b \/ w.heap.size <= b)) (rs := []) (aM.nil _ _) (Below.refl _ _) (pY.out.mono fun b hb => ⟨.inl hb, fun e => by cases e⟩) (by rw [List.length_take]; have := HL.out.mlen; omega) cB dW ed
     simpa using h1, eH (lX.out) cB (fun g hg => by cases hg)⟩
    clear ed cB dW;refine hK.out _ _ (aS (dw.out.below (ah bK.out (bf.out.2)) (by simp))) (fun hS1 => ?_);clear hK K0 cO;(try simp only [Act.put, pP]);refine wpAnyH_ready (rs := [6]) (by kernel_rfl) (by simp) ?_;refine wA rfl (fun K0 hK => ?_) AllReadyH.nil
    go_simp;refine hK.out _ _ (aS (dw.out.below (ah bK.out (aF bf.out.2 _)) (by simp))) (fun dh => ?_);clear hK K0 hS1;(try simp only [Act.put, pP]);refine wpAnyH_ready (rs := [7]) (by kernel_rfl) (by simp) ?_;refine wA rfl (fun K0 hK => ?_) AllReadyH.nil
    obtain ⟨xs5, DJ, uJ⟩ := bf.out.1;rw [show (l.take i).length = i by rw [List.length_take]; have := HL.out.mlen; omega] at uJ;have Ed := Lh DJ;have Ag := Lh uJ;have Eg := LH (∀ g, v5.ownBlock = some g -> (w.heap.size + 1) <= g) fun g hg => (uJ.lt g hg).1
    clear DJ uJ;refine xM rfl (.tmp 39) (.tmp 41) 23 23 rfl (w.heap.size + 1) 25 i0 _ 3 56 Tryz.underlying23 aZ hz0 hz1 hz2 rfl _ i xs5 rfl (gu Ag.out (ai _ _)) _ 1 (zV K A n c B2 m2 d2) rfl (jR hz1 _ _ _ _ _ _ _ _) hs1 PI (by have h1 := bK.out.size; have h2 := bf.out.2.size; simp at h1 ⊢; omega) ?_;intro v7 w7 E8 yo Dt;have jk := LH (aD (fun b => p b \/ w.heap.size <= b) (w.heap.size + 1) v7 (l.take i ++ [x]) w7 /\ Below (w.alloc (zC K A n c B2 m2 d2)).heap.size (w.alloc (zC K A n c B2 m2 d2)) w7) ⟨aD.app (m := 1) (ys := (zV K A n c B2 m2 d2)) Ed.out (ai _ _) (by rw [bQ.out.2]; exact aM.one (aY.mono (fun b hb => ⟨.inl hb, fun e => by have h1 := Eg.out b e.symm; have h2 := HP.out b hb; omega⟩) _ ((bQ.out.1.below (ah bg.out (ah tZ.out (ah bf.out.2 (ai _ _))))).q))) rfl yo Dt (by rw [show (l.take i).length = i by rw [List.length_take]; have := HL.out.mlen; omega]; exact E8), eH (ah bK.out (ah bf.out.2 (ai _ _))) yo (fun g hg => by have h1 := Eg.out g hg; simpa using h1)⟩;clear E8 yo Dt;refine hK.out _ _ (aS (dw.out.below jk.out.2 (by simp))) (fun kV => ?_);clear hK K0 dh;(try simp only [Act.put, pP]);refine dP 8 ?_;refine wpAnyH_done (by kernel_rfl) ?_ _
   rotate_left
   focus
    go_simp;have EH := LH (ae (x2.alloc (zC K A n c B2 m2 d2)).drew x2.heap.size (zV K A n c B2 m2 d2) 25 /\ Bw x2 (x2.alloc (zC K A n c B2 m2 d2)).drew) ⟨ae.at x2 (zV K A n c B2 m2 d2) _ 25 _ rfl rfl, (ai _ _).drew⟩;refine hK.out _ _ (aS (dw.out.below (ah bK.out (EH.out.2)) (by simp))) (fun hS1 => ?_);clear hK K0 cO;(try simp only [Act.put, pP]);refine wpAnyH_ready (rs := [4]) (by kernel_rfl) (by simp) ?_;refine wA rfl (fun K0 hK => ?_) AllReadyH.nil
    obtain ⟨ys, gG, jl⟩ := oI.out _ (ah bg.out (ah tZ.out (EH.out.2)));have pY := Lh gG;have HSR := Lh jl;clear gG jl;refine xM rfl (.tmp 35) (.tmp 38) 23 23 rfl (w.heap.size + 1) 25 i0 _ 3 56 Tryz.underlying23 aZ hz0 hz1 hz2 rfl _ 0 [] rfl ⟨rfl, .inl ⟨rfl, rfl⟩⟩ _ i ys rfl HSR.out hs0 Pz (by have h1 := bK.out.size; simp at h1 ⊢; omega) ?_;intro v5 w5 ed cB dW;have bf := LH (aD (fun b => p b \/ w.heap.size <= b) (w.heap.size + 1) v5 (l.take i) w5 /\ Bw x2 w5 /\ ae w5 x2.heap.size (zV K A n c B2 m2 d2) 25) ⟨by
     have h1 := aD.app (q := (fun b => p b \/ w.heap.size <= b)) (rs := []) (aM.nil _ _) (Below.refl _ _) (pY.out.mono fun b hb => ⟨.inl hb, fun e => by cases e⟩) (by rw [List.length_take]; have := HL.out.mlen; omega) cB dW ed
     simpa using h1, eH (EH.out.2) cB (fun g hg => by cases hg), EH.out.1.below (eH (Below.refl _ _) cB (fun g hg => by cases hg)) EH.out.1.lt⟩
    clear ed cB dW;refine hK.out _ _ (aS (dw.out.below (ah bK.out (bf.out.2.1)) (by simp))) (fun dh => ?_);clear hK K0 hS1;(try simp only [Act.put, pP]);refine wpAnyH_ready (rs := [7]) (by kernel_rfl) (by simp) ?_;refine wA rfl (fun K0 hK => ?_) AllReadyH.nil
    obtain ⟨xs5, DJ, uJ⟩ := bf.out.1;rw [show (l.take i).length = i by rw [List.length_take]; have := HL.out.mlen; omega] at uJ;have Ed := Lh DJ;have Ag := Lh uJ;have Eg := LH (∀ g, v5.ownBlock = some g -> (w.heap.size + 1) <= g) fun g hg => (uJ.lt g hg).1
    clear DJ uJ;refine xM rfl (.tmp 39) (.tmp 41) 23 23 rfl (w.heap.size + 1) 25 i0 _ 3 56 Tryz.underlying23 aZ hz0 hz1 hz2 rfl _ i xs5 rfl (gu Ag.out (Below.refl _ _)) _ 1 (zV K A n c B2 m2 d2) rfl (TW hz1 bf.out.2.2) hs1 PI (by have h1 := bK.out.size; have h2 := bf.out.2.1.size; simp at h1 ⊢; omega) ?_;intro v7 w7 E8 yo Dt;have jk := LH (aD (fun b => p b \/ w.heap.size <= b) (w.heap.size + 1) v7 (l.take i ++ [x]) w7 /\ Below (w.alloc (zC K A n c B2 m2 d2)).heap.size (w.alloc (zC K A n c B2 m2 d2)) w7) ⟨aD.app (m := 1) (ys := (zV K A n c B2 m2 d2)) Ed.out (Below.refl _ _) (by rw [bQ.out.2]; exact aM.one (aY.mono (fun b hb => ⟨.inl hb, fun e => by have h1 := Eg.out b e.symm; have h2 := HP.out b hb; omega⟩) _ ((bQ.out.1.below (ah bg.out (ah tZ.out (ah bf.out.2.1 (Below.refl _ _))))).q))) rfl yo Dt (by rw [show (l.take i).length = i by rw [List.length_take]; have := HL.out.mlen; omega]; exact E8), eH (ah bK.out (ah bf.out.2.1 (Below.refl _ _))) yo (fun g hg => by have h1 := Eg.out g hg; simpa using h1)⟩;clear E8 yo Dt;refine hK.out _ _ (aS (dw.out.below jk.out.2 (by simp))) (fun kV => ?_);clear hK K0 dh;(try simp only [Act.put, pP]);refine dP 8 ?_;refine wpAnyH_done (by kernel_rfl) ?_ _
   all_goals
    obtain ⟨B7, d7, D6, _⟩ := jk.out.1.e;rw [show (l.take i ++ [x]).length = i + 1 by rw [List.length_append, List.length_take]; have := HL.out.mlen; simp; omega] at D6;subst D6;obtain ⟨xs7, hC7, hO7⟩ := jk.out.1;rw [show (l.take i ++ [x]).length = i + 1 by rw [List.length_append, List.length_take]; have := HL.out.mlen; simp; omega] at hO7;have HC7 := Lh hC7;have HO7 := Lh hO7;have Pv := LH (∀ g, (Value.slice B7 (i + 1) d7).ownBlock = some g -> (w.heap.size + 1) <= g) fun g hg => (hO7.lt g hg).1
    clear hC7 hO7;obtain ⟨zs, hzs, hsz⟩ := HSRD.out w7 (ah (ai _ _) jk.out.2);have HZS := Lh (hzs.mono (q := fun b => (fun b => p b \/ w.heap.size <= b) b /\ some b ≠ (Value.slice B7 (i + 1) d7).ownBlock) fun b hb => ⟨.inl hb, fun e => by have h1 := Pv.out b e.symm; have h2 := HP.out b hb; omega⟩);have fJ := Lh hsz;clear hzs hsz;have mO := LH (∀ v8 w8, w8.ownsRow (w.heap.size + 1) 25 3 v8 (i + 1 + (m - i)) (xs7 ++ zs) -> w7.grownBy w8 (Value.slice B7 (i + 1) d7).ownBlock -> (v8.ownBlock = (Value.slice B7 (i + 1) d7).ownBlock \/ v8.ownBlock = some w7.heap.size) -> aD (fun b => p b \/ w.heap.size <= b) (w.heap.size + 1) v8 (l.take i ++ [x] ++ l.drop i) w8 /\ Below (w.alloc (zC K A n c B2 m2 d2)).heap.size (w.alloc (zC K A n c B2 m2 d2)) w8) fun v8 w8 pU kW nN => ⟨aD.app (m := m - i) HC7.out (Below.refl _ _) HZS.out (by rw [List.length_drop]; have := HL.out.mlen; omega) kW nN (by rw [show (l.take i ++ [x]).length = i + 1 by rw [List.length_append, List.length_take]; have := HL.out.mlen; simp; omega]; exact pU), eH jk.out.2 kW (fun g hg => by have h1 := Pv.out g hg; simpa using h1)⟩
    go_wp2_with (at_builtin; refine gW rfl (.tmp 43) (.tmp 46) 23 23 rfl (w.heap.size + 1) 25 i0 _ 3 56 Tryz.underlying23 aZ hz0 hz1 hz2 rfl _ (i + 1) xs7 rfl HO7.out _ (m - i) zs rfl fJ.out hs2 hs22 (by have h1 := jk.out.2.size; simp at h1; omega) ?_; intro v8 w8 pU kW nN; have bM := Lh (mO.out _ _ pU kW nN); clear pU kW nN)
    have HF := LH (F7 p w (dK l x) (.returned v8) w8) (by
     obtain ⟨B8, m8, d8, e8, h8⟩ := Gt (q2 := (fun b => p b \/ w.heap.size <= b)) bM.out.1 (fun b hb => hb) (fun b hb => .inr (by omega));rw [EB.out, e8];exact ⟨B8, m8, d8, rfl, h8, ah (ai _ _) bM.out.2⟩)
    go_ret;exact HF.out
namespace Rgx
theorem bA.keep {p : Nat -> Prop} {w W : World} {l : List Rx} {B : Option Addr} (h : bA p w l B) (hB : l ≠ [] -> ∀ b o, B = some ⟨b, o, none⟩ -> p b) (hk : ∀ b o, p b -> W.cell? ⟨b, o, none⟩ = w.cell? ⟨b, o, none⟩) : bA p W l B := fun i hi => by
 obtain ⟨b, o, v1, v2, e, h1, h2, h3, h4⟩ := h i hi;have hp := hB (List.ne_nil_of_length_pos (by omega)) b o e;exact ⟨b, o, v1, v2, e, (hk b _ hp).trans h1, (hk b _ hp).trans h2, (hk b _ hp).trans h3, aY.keep hk _ h4⟩
theorem eD.keep {p : Nat -> Prop} {w W : World} {l : List Rx} {B : Option Addr} {m d : Nat} (h : eD p w l B m d) (hk : ∀ b o, p b -> W.cell? ⟨b, o, none⟩ = w.cell? ⟨b, o, none⟩) : eD p W l B m d := ⟨h.mlen, h.mcap, h.dmax, h.kids.keep h.blk hk, h.blk⟩
theorem eD.grown {p : Nat -> Prop} {w W : World} {l : List Rx} {B : Option Addr} {m d : Nat} {G : Option Nat} (h : eD p w l B m d) (hg : w.grownBy W G) (hp : ∀ b, p b -> some b ≠ G) : eD p W l B m d := by
 have h1 := h.lt.keep (W := W) fun b o hb => World.cell?_of_block (hg.block b hb.2 (hp b hb.1))
 exact h1.mono fun b hb => hb.1
theorem ak.lt7 {p : Nat -> Prop} {w : World} {r : Rx} {A B : Option Addr} {n c m d : Nat} (h : ak p w r A n c B m d) : ak (fun b => p b /\ b < w.heap.size) w r A n c B m d := h.and h.o.toP
theorem ak.keep {p : Nat -> Prop} {w W : World} {r : Rx} {A B : Option Addr} {n c m d : Nat} (h : ak p w r A n c B m d) (hk : ∀ b o, p b -> W.cell? ⟨b, o, none⟩ = w.cell? ⟨b, o, none⟩) : ak p W r A n c B m d := by
 have h1 := aY.keep (W := W) hk r h.q;obtain ⟨A', n', c', B', m', d', e1, e2, h2⟩ := aY.op h1;simp only [Value.slice.injEq] at e1 e2;obtain ⟨rfl, rfl, rfl⟩ := e1;obtain ⟨rfl, rfl, rfl⟩ := e2;exact h2
theorem ak.grown {p : Nat -> Prop} {w W : World} {r : Rx} {A B : Option Addr} {n c m d : Nat} {G : Option Nat} (h : ak p w r A n c B m d) (hg : w.grownBy W G) (hp : ∀ b, p b -> some b ≠ G) : ak p W r A n c B m d := by
 have h1 := h.lt7.keep (W := W) fun b o hb => World.cell?_of_block (hg.block b hb.2 (hp b hb.1))
 exact h1.mono fun b hb => hb.1
theorem eD.kid7 {p : Nat -> Prop} {w : World} {l : List Rx} {B : Option Addr} {m d i : Nat} (h : eD p w l B m d) (hi : i < m) : ∃ b o, B = some ⟨b, o, none⟩ /\ ∃ A' n' c' B' m' d', w.rangeAt b (o + i * 3) [.int .i64 (av l i).kind, .slice A' n' c', .slice B' m' d'] /\ ak p w (av l i) A' n' c' B' m' d' := by
 have hl : i < l.length := by rw [<- h.mlen]; exact hi
 obtain ⟨b, o, rfl⟩ := h.kids.place (by omega);exact ⟨b, o, rfl, h.kids.kid hl⟩
def lK (L : List Rx) (s : Nat) : Bool := L.any fun x => x.syms.contains (s : Int)
def bv (f : Nat -> Bool) : List Value := (List.range 64).map fun s => .bool (f s)
theorem Ih (f : Nat -> Bool) : (bv f).length = 64 := by unfold bv; simp
theorem CQ (f : Nat -> Bool) {s : Nat} (h : s < 64) : (bv f)[s]? = some (.bool (f s)) := by unfold bv; simp [h]
theorem UC (f : Nat -> Bool) {s : Nat} (h : s < 64) : (bv f).set s (.bool true) = bv fun j => f j || decide (j = s) := by
 refine List.ext_getElem? fun j => ?_
 by_cases hj : j < 64
 ·by_cases e : s = j
  ·subst e; rw [List.getElem?_set_self (by rw [Ih]; exact h), CQ _ hj]; simp
  ·rw [List.getElem?_set_ne e, CQ _ hj, CQ _ hj];have : decide (j = s) = false := dF fun h => e h.symm
   rw [this, Bool.or_false]
 ·rw [List.getElem?_eq_none (by rw [List.length_set, Ih]; omega), List.getElem?_eq_none (by rw [Ih]; omega)]
theorem IA {f g : Nat -> Bool} (h : ∀ s, s < 64 -> f s = g s) : bv f = bv g := by
 unfold bv;exact List.map_congr_left fun s hs => by rw [h s (List.mem_range.1 hs)]
theorem Vi (L : List Rx) (x : Rx) (s : Nat) : lK (L ++ [x]) s = (lK L s || x.syms.contains (s : Int)) := by unfold lK; simp [List.any_append]
def mG (F : List Rx) (n : Nat) : List Int := ((List.range n).map Int.ofNat).filter fun s => F.any fun x => x.syms.contains s
theorem KV (F : List Rx) (n : Nat) : mG F (n + 1) = mG F n ++ if lK F n then [(n : Int)] else [] := by
 unfold mG;rw [List.range_succ, List.map_append, List.filter_append]
 congr 1
 show List.filter _ [Int.ofNat n] = _;unfold lK
 by_cases h : (F.any fun x => x.syms.contains (n : Int)) = true
 ·rw [if_pos h, List.filter_cons_of_pos (by exact h)]; rfl
 ·rw [if_neg h, List.filter_cons_of_neg (by exact h)]; rfl
theorem UL (F : List Rx) (n : Nat) : (mG F n).length <= n := by
 unfold mG;exact Nat.le_trans (List.length_filter_le _ _) (by simp)
theorem Uv (F : List Rx) : mG F 64 = dR F := rfl
theorem MP {l : List Rx} {i : Nat} (hi : i < l.length) : flatR (l.take (i + 1)) = flatR (l.take i) ++ flt (av l i) := by
 rw [List.take_succ_eq_append_getElem hi, uy, <- gI hi];simp [flatR]
def jM (L : List Rx) : List Rx := L.filter fun x => decide (2 < x.kind)
theorem V9 (L : List Rx) (x : Rx) : jM (L ++ [x]) = jM L ++ if 2 < x.kind then [x] else [] := by
 unfold jM;rw [List.filter_append]
 by_cases h : 2 < x.kind <;> simp [h]
theorem FH (L : List Rx) (x : Rx) : fw [] (jM (L ++ [x])) = if 2 < x.kind then dK (fw [] (jM L)) x else fw [] (jM L) := by
 rw [V9]
 by_cases h : 2 < x.kind
 ·rw [if_pos h, if_pos h]; unfold fw; rw [List.foldl_append]; rfl
 ·rw [if_neg h, if_neg h, List.append_nil]
def xU (L : List Rx) : Bool := L.any fun x => decide (x.kind = 1)
def xB (L : List Rx) : Bool := L.any fun x => decide (2 < x.kind) && aO x
theorem Gw (L : List Rx) (x : Rx) : xU (L ++ [x]) = (xU L || decide (x.kind = 1)) := by unfold xU; simp [List.any_append]
theorem FT (L : List Rx) (x : Rx) : xB (L ++ [x]) = (xB L || (decide (2 < x.kind) && aO x)) := by unfold xB; simp [List.any_append]
theorem MI (F : List Rx) : altOut F = (if (xU F && !xB F) = true then dK (if dR F = [] then fw [] (jM F) else dK (fw [] (jM F)) (.mk 2 (dR F) [])) (.mk 1 [] []) else (if dR F = [] then fw [] (jM F) else dK (fw [] (jM F)) (.mk 2 (dR F) []))) := rfl
theorem IY (l : List Rx) (x : Rx) : (dK l x).length <= l.length + 1 := by
 induction l with
 |nil => simp [dK]
 |cons y l ih =>
  rw [dK]
  split
  ·simpa using ih
  ·split <;> simp
theorem Im : ∀ (l out : List Rx), (fw out l).length <= out.length + l.length
 |[], out => by simp [fw]
 |x :: l, out => by
  have h1 := Im l (dK out x);have h2 := IY out x;show (fw (dK out x) l).length <= _;simp; omega
theorem NH (L : List Rx) : (jM L).length <= L.length := List.length_filter_le _ _
theorem NN (l : List Rx) : ((flatR l).length : Int) <= aj l := by have h1 := mW (flatR l); have h2 := zX l; omega
theorem GD {F : List Rx} {i : Nat} (hi : i < F.length) : F.take (i + 1) = F.take i ++ [av F i] := by rw [List.take_succ_eq_append_getElem hi, gI hi]
theorem Ry {s : List Int} {k : Nat} (hk : k < s.length) (j : Nat) : (s.take (k + 1)).contains (j : Int) = ((s.take k).contains (j : Int) || decide ((j : Int) = s.getD k 0)) := by
 have e : s.getD k 0 = s[k] := by simp [List.getD, hk]
 rw [e, List.take_succ_eq_append_getElem hk, Bool.eq_iff_iff];simp only [List.contains_eq_mem, decide_eq_true_eq, Bool.or_eq_true, List.mem_append, List.mem_singleton]
end Rgx
theorem Jd {Q : Nat -> Prop} (w : World) (hnew : ∀ b, w.heap.size <= b -> Q b) (l : List Rx) (B : Option Addr) (m d : Nat) (hl : eD Q w l B m d) (hm : m <= 1000000000001) (x : Rx) (K : Int) (hK : K = x.kind) (A B2 : Option Addr) (n c m2 d2 : Nat) (hx : ak Q w x A n c B2 m2 d2) : Calls Tryz.prog 124 #[.slice B m d, .agg #[.int .i64 K, .slice A n c, .slice B2 m2 d2]] w fun e w' => ∃ B' m' d', e = .returned (.slice B' m' d') /\ eD Q w' (dK l x) B' m' d' /\ Bw w w' := by
 refine (Sk (p := fun b => Q b /\ b < w.heap.size) w (fun b hb => hb.2) l B m d hl.lt hm x K hK A B2 n c m2 d2 hx.lt7).mono ?_;rintro e w' hp;obtain ⟨B', m', d', e1, h1, h2⟩ := QK hp;exact ⟨B', m', d', e1, h1.mono fun b hb => hb.elim (fun h => h.1) (hnew b), h2⟩
theorem Fu {w w1 w2 : World} {G : Option Nat} (h1 : w.grownBy w1 G) (h2 : w1.grownBy w2 G) : w.grownBy w2 G := ⟨h2.os.trans h1.os, h2.tape.trans h1.tape, h2.output.trans h1.output, Nat.le_trans h1.size h2.size, fun b hb hn => (h2.block b (Nat.lt_of_lt_of_le hb h1.size) hn).trans (h1.block b hb hn)⟩
theorem Tq {w : World} {r : Rx} {K : Int} {A B : Option Addr} {n c m d : Nat} (hK : K = r.kind) (h : aI w r A n c B m d) (V : Bool) (hV : V = aO r) : Calls Tryz.prog 48 #[.agg #[.int .i64 K, .slice A n c, .slice B m d]] w (aU w V) := by
 subst hK;exact Ou _ r (Nat.le_refl _) V hV A B n c m d w h
namespace Rgx
def nl (l : List Nat) : List Int := l.map Int.ofNat
theorem IG (l : List Nat) : (nl l).length = l.length := by unfold nl; simp
structure gy (p : Nat -> Prop) (w : World) (l : List Nat) (A : Option Addr) (n c : Nat) : Prop where
 len : n = l.length
 cap : n <= c
 max : c <= 9223372036854775807
 rd : Rd w A (iv (nl l))
 blk : l ≠ [] -> ∀ b o, A = some ⟨b, o, none⟩ -> p b
 full : l.length = 1 -> c = 1
section
variable {p q : Nat -> Prop} {w W : World} {l : List Nat} {A : Option Addr} {n c : Nat} {xs ys : List Value} {M : List St}
theorem uo (h : l ≠ []) : iv (nl l) ≠ [] := by cases l with | nil => exact absurd rfl h | cons x t => simp [nl, iv]
theorem gy.mono (h : gy p w l A n c) (jF : ∀ b, p b -> q b) : gy q w l A n c := ⟨h.len, h.cap, h.max, h.rd, fun hn b o e => jF b (h.blk hn b o e), h.full⟩
theorem gy.keep (h : gy p w l A n c) (hk : ∀ b o, p b -> W.cell? ⟨b, o, none⟩ = w.cell? ⟨b, o, none⟩) : gy p W l A n c := by
 refine ⟨h.len, h.cap, h.max, ?_, h.blk, h.full⟩
 by_cases hl : l = []
 ·subst hl; exact .inl rfl
 ·obtain ⟨b, o, e, hc⟩ := h.rd.open (uo hl);exact .inr ⟨b, o, e, fun k v hv => (hk b _ (h.blk hl b o e)).trans (hc k v hv)⟩
theorem gy.lt (h : gy p w l A n c) : gy (fun b => p b /\ b < w.heap.size) w l A n c := ⟨h.len, h.cap, h.max, h.rd, fun hn b o e => ⟨h.blk hn b o e, by
 obtain ⟨b', o', e', hc⟩ := h.rd.open (uo hn);obtain ⟨rfl, rfl⟩ : b = b' /\ o = o' := by rw [e] at e'; simpa using e'
 cases l with
 |nil => exact absurd rfl hn
 |cons x t => exact World.block_lt_of_cell? w _ (hc 0 _ rfl)⟩, h.full⟩
theorem gy.nil (p : Nat -> Prop) (w : World) : gy p w [] none 0 0 := ⟨rfl, Nat.le_refl _, Nat.zero_le _, .inl rfl, fun h => absurd rfl h, fun h => by simp at h⟩
theorem gy.of_blk {T : TypeId} {g : Nat} (h : ae w g (iv (nl l)) T) (hm : l.length <= 9223372036854775807) (hp : p g) : gy p w l (pt g) l.length l.length := ⟨rfl, Nat.le_refl _, hm, .inr ⟨g, 0, rfl, fun k v hv => by rw [Nat.zero_add]; exact h.cell hv⟩, fun _ b o e => by obtain ⟨rfl, _⟩ : g = b /\ 0 = o := (by simpa using e); exact hp, fun h => h⟩
def jT (p : Nat -> Prop) (w : World) (xs : List Value) (M : List St) : Prop := xs.length = M.length * 2 /\ ∀ i (h : i < M.length), ∃ A n c, xs[i * 2]? = some (.int .u64 ((M[i].1 : Nat) : Int)) /\ xs[i * 2 + 1]? = some (.slice A n c) /\ gy p w M[i].2 A n c
theorem jT.nil (p : Nat -> Prop) (w : World) : jT p w [] [] := ⟨rfl, fun i h => absurd h (by simp)⟩
theorem jT.mono (h : jT p w xs M) (jF : ∀ b, p b -> q b) : jT q w xs M := ⟨h.1, fun i hi => by
 obtain ⟨A, n, c, e1, e2, e3⟩ := h.2 i hi;exact ⟨A, n, c, e1, e2, e3.mono jF⟩⟩
theorem jT.keep (h : jT p w xs M) (hk : ∀ b o, p b -> W.cell? ⟨b, o, none⟩ = w.cell? ⟨b, o, none⟩) : jT p W xs M := ⟨h.1, fun i hi => by
 obtain ⟨A, n, c, e1, e2, e3⟩ := h.2 i hi;exact ⟨A, n, c, e1, e2, e3.keep hk⟩⟩
theorem jT.lt (h : jT p w xs M) : jT (fun b => p b /\ b < w.heap.size) w xs M := ⟨h.1, fun i hi => by
 obtain ⟨A, n, c, e1, e2, e3⟩ := h.2 i hi;exact ⟨A, n, c, e1, e2, e3.lt⟩⟩
theorem jT.snoc (h : jT p w xs M) {b : Nat} (hn : gy p w l A n c) : jT p w (xs ++ [.int .u64 ((b : Nat) : Int), .slice A n c]) (M ++ [(b, l)]) := by
 have hl := h.1;refine ⟨by rw [List.length_append, List.length_append, hl]; simp; omega, fun i hi => ?_⟩;rw [List.length_append] at hi
 by_cases e : i < M.length
 ·obtain ⟨A', n', c', e1, e2, e3⟩ := h.2 i e;rw [List.getElem?_append_left (by omega), List.getElem?_append_left (by omega), List.getElem_append_left e];exact ⟨A', n', c', e1, e2, e3⟩
 ·obtain rfl : i = M.length := by simp at hi; omega
  rw [List.getElem?_append_right (by omega), List.getElem?_append_right (by omega)];refine ⟨A, n, c, ?_, ?_, ?_⟩
  ·rw [show M.length * 2 - xs.length = 0 by omega]; simp
  ·rw [show M.length * 2 + 1 - xs.length = 1 by omega]; simp
  ·simpa using hn
theorem jT.set (h : jT p w xs M) {b k : Nat} (hk : k < M.length) (hb : M[k].1 = b) (hn : gy p w l A n c) : jT p w (xs.set (k * 2 + 1) (.slice A n c)) (M.set k (b, l)) := by
 have hl := h.1;refine ⟨by rw [List.length_set, List.length_set, hl], fun i hi => ?_⟩;have tq : i < M.length := by rwa [List.length_set] at hi
 by_cases e : i = k
 ·subst e;obtain ⟨A', n', c', e1, e2, e3⟩ := h.2 i tq;refine ⟨A, n, c, ?_, ?_, ?_⟩
  ·rw [List.getElem?_set_ne (by omega), e1, List.getElem_set_self, hb]
  ·rw [List.getElem?_set_self (by omega)]
  ·rw [List.getElem_set_self]; exact hn
 ·obtain ⟨A', n', c', e1, e2, e3⟩ := h.2 i tq;refine ⟨A', n', c', ?_, ?_, ?_⟩
  ·rw [List.getElem?_set_ne (by omega), e1, List.getElem_set_ne (by omega)]
  ·rw [List.getElem?_set_ne (by omega), e2]
  ·rw [List.getElem_set_ne (by omega)]; exact e3
end
structure bZ (q : Nat -> Prop) (mb : Nat) (v : Value) (M : List St) (w : World) : Prop where
 box : ae w mb [v] 70
 row : ∃ xs, jT (fun b => q b /\ b ≠ mb /\ some b ≠ v.ownBlock) w xs M /\ w.ownsRow (mb + 1) 109 2 v M.length xs
structure Kp (mb : Nat) (v : Value) (w w' : World) : Prop where
 os : w'.os = w.os
 tape : w'.tape = w.tape
 output : w'.output = w.output
 size : w.heap.size <= w'.heap.size
 block : ∀ k, k < w.heap.size -> k ≠ mb -> some k ≠ v.ownBlock -> w'.heap[k]? = w.heap[k]?
def Nw (w : World) (v v' : Value) : Prop := v'.ownBlock = v.ownBlock \/ ∃ g, v'.ownBlock = some g /\ w.heap.size <= g
section
variable {q q2 : Nat -> Prop} {mb : Nat} {v v1 v2 : Value} {M : List St} {w w1 w2 : World}
theorem Kp.refl (mb : Nat) (v : Value) (w : World) : Kp mb v w w := ⟨rfl, rfl, rfl, Nat.le_refl _, fun _ _ _ _ => rfl⟩
theorem Nw.refl (w : World) (v : Value) : Nw w v v := .inl rfl
theorem Kp.of_below (h : Bw w w1) : Kp mb v w w1 := ⟨h.os, h.tape, h.output, h.size, fun k hk _ _ => h.block k hk⟩
theorem Kp.tr (h1 : Kp mb v w w1) (hn : Nw w v v1) (h2 : Kp mb v1 w1 w2) : Kp mb v w w2 := ⟨h2.os.trans h1.os, h2.tape.trans h1.tape, h2.output.trans h1.output, Nat.le_trans h1.size h2.size, fun k hk hm ho => (h2.block k (Nat.lt_of_lt_of_le hk h1.size) hm (fun e => by
 rcases hn with hn | ⟨g, hg, hl⟩
 ·exact ho (e.trans hn)
 ·rw [hg] at e; obtain rfl := Option.some.inj e; omega)).trans (h1.block k hk hm ho)⟩
theorem Nw.tr (h1 : Nw w v v1) (hs : w.heap.size <= w1.heap.size) (h2 : Nw w1 v1 v2) : Nw w v v2 := by
 rcases h2 with h2 | ⟨g, hg, hl⟩
 ·rcases h1 with h1 | ⟨g, hg, hl⟩
  ·exact .inl (h2.trans h1)
  ·exact .inr ⟨g, h2.trans hg, hl⟩
 ·exact .inr ⟨g, hg, Nat.le_trans hs hl⟩
theorem Kp.cell (h : Kp mb v w w1) {b o : Nat} (hb : b < w.heap.size) (hm : b ≠ mb) (ho : some b ≠ v.ownBlock) : w1.cell? ⟨b, o, none⟩ = w.cell? ⟨b, o, none⟩ := World.cell?_of_block (h.block b hb hm ho)
theorem Kp.blk (h : Kp mb v w w1) {b : Nat} {C : List Value} {T : TypeId} (hb : ae w b C T) (hm : b ≠ mb) (ho : some b ≠ v.ownBlock) : ae w1 b C T := (h.block b hb.lt hm ho).trans hb
theorem bZ.lt (h : bZ q mb v M w) : mb < w.heap.size /\ ∀ g, v.ownBlock = some g -> mb < g /\ g < w.heap.size := ⟨h.box.lt, fun g hg => by
 obtain ⟨xs, _, hO⟩ := h.row;have := hO.lt g hg;exact ⟨by omega, this.2⟩⟩
theorem bZ.mono (h : bZ q mb v M w) (hq : ∀ b, q b -> b < w.heap.size -> q2 b) : bZ q2 mb v M w := ⟨h.box, by
 obtain ⟨xs, hC, hO⟩ := h.row;exact ⟨xs, hC.lt.mono fun b hb => ⟨hq b hb.1.1 hb.2, hb.1.2⟩, hO⟩⟩
theorem bZ.below (h : bZ q mb v M w) (hb : Bw w w1) : bZ q mb v M w1 := ⟨h.box.below hb h.box.lt, by
 obtain ⟨xs, hC, hO⟩ := h.row;exact ⟨xs, (hC.lt.keep fun b o hp => hb.cell (p := ⟨b, o, none⟩) hp.2).mono fun b hp => hp.1, gu hO hb⟩⟩
theorem bZ.grown (h : bZ q mb v M w) {G : Nat} (hg : w.grownBy w1 (some G)) (hm : G ≠ mb) (ho : v.ownBlock ≠ some G) (hq : ∀ b, q b -> b ≠ G) : bZ q mb v M w1 := ⟨(hg.block mb h.box.lt (fun e => hm (Option.some.inj e).symm)).trans h.box, by
 obtain ⟨xs, hC, hO⟩ := h.row;exact ⟨xs, (hC.lt.keep fun b o hp => World.cell?_of_block (hg.block b hp.2 (fun e => hq b hp.1.1 (Option.some.inj e)))).mono fun b hp => hp.1, hO.kept hg (.inr ho)⟩⟩
end
end Rgx
def jV (q : Nat -> Prop) (mb : Nat) (v : Value) (M' : List St) (t : Nat) (w : World) (e : Ending) (w' : World) : Prop := ∃ v', e = .returned (.int .i64 (t : Int)) /\ bZ q mb v' M' w' /\ Kp mb v w w' /\ Nw w v v'
theorem sS {q : Nat -> Prop} {mb : Nat} {v : Value} {M' : List St} {t : Nat} {w w' : World} {e : Ending} (h : jV q mb v M' t w e w') : ∃ v', e = .returned (.int .i64 (t : Int)) /\ bZ q mb v' M' w' /\ Kp mb v w w' /\ Nw w v v' := h
theorem WV : (Tryz.prog.info? 109).map (fun i => (i.zero, i.size, i.bytes)) = some (some (.agg #[.int .u64 0, .slice none 0 0]), 2, 32) := by kernel_rfl
theorem Xd : (Tryz.prog.info? 68).map (·.size) = some 1 := by kernel_rfl
theorem TS {size : Nat} (hs : size = 2) (w : World) (x : Int) (A : Option Addr) (n c : Nat) : Src Tryz.prog size 68 (.slice (pt w.heap.size) 1 1) 1 [.int .u64 x, .slice A n c] (w.alloc (.cells #[.int .u64 x, .slice A n c] 109)) := by
 subst hs;refine Src.ofSlice _ Tryz.underlying68 _ 1 1 _ rfl (fun j u hu => ?_) (by simp [Value.oneCell']);have rO : (⟨w.heap.size, 0, none⟩ : Addr).add j = ⟨w.heap.size, j, none⟩ := by unfold Addr.add; split <;> simp_all
 rw [rO];exact (ae.at w [.int .u64 x, .slice A n c] _ 109 _ rfl rfl).cell hu
theorem BQ {q : Nat -> Prop} {mb : Nat} {v : Value} {M : List St} (w : World) (hq : ∀ b, w.heap.size <= b -> q b) (hM : bZ q mb v M w) (b : Nat) (l : List Nat) (A : Option Addr) (n c : Nat) (hn : gy (fun b => q b /\ b ≠ mb /\ some b ≠ v.ownBlock) w l A n c) (hc : M.length <= 1000000000) : Calls Tryz.prog 59 #[.pointer (pt mb), .int .u64 (b : Int), .slice A n c] w (jV q mb v (M ++ [(b, l)]) M.length w) := by
 obtain ⟨i0, aZ, hz0, hz1, hz2⟩ := info_parts WV;obtain ⟨B5, d5, hv, qC, AO, fG⟩ := (by obtain ⟨xs, hC, hO⟩ := hM.row; obtain ⟨B, d, e, h1, h2, h3⟩ := Rd.of_own hO; exact ⟨B, d, e, xs, h2, h3⟩ : ∃ B d, v = .slice B M.length d /\ ∃ xs : List Value, M.length <= d /\ d <= maxLen);obtain ⟨N5, bD⟩ := eX M.length;rw [<- bD] at hv;subst hv;clear qC AO fG;obtain ⟨xs, hC, hO⟩ := hM.row;rw [<- bD] at hO;have HC := Lh hC;have HO := Lh hO;have HM := Lh hM;have HN := Lh hn;have bB := Lh bD;have hb0 : w.cell? ⟨mb, 0, none⟩ = some (.slice B5 N5 d5) := hM.box.cell (j := 0) rfl;have AQ := hM.lt.1;have iM := LH (∀ v5 w5, w5.ownsRow (mb + 1) 109 2 v5 (N5 + 1) (xs ++ [.int .u64 (b : Int), .slice A n c]) -> (w.alloc (.cells #[.int .u64 (b : Int), .slice A n c] 109)).grownBy w5 (Value.slice B5 N5 d5).ownBlock -> (v5.ownBlock = (Value.slice B5 N5 d5).ownBlock \/ v5.ownBlock = some (w.alloc (.cells #[.int .u64 (b : Int), .slice A n c] 109)).heap.size) -> ae w5 mb [Value.slice B5 N5 d5] 70 /\ ∀ w9, aT w5 w9 mb [v5] 70 -> jV q mb (Value.slice B5 N5 d5) (M ++ [(b, l)]) M.length w (.returned (.int .i64 (N5 : Int))) w9 /\ w9.cell? ⟨mb, 0, none⟩ = some v5) fun v5 w5 hown hg hat => by
  have hlt := HM.out.lt;have Kt : ae w5 mb [Value.slice B5 N5 d5] 70 := (hg.block mb (by simp; omega) (fun e => by have := hlt.2 mb e.symm; omega)).trans (HM.out.box.alloc _);refine ⟨Kt, fun w9 hst => ⟨⟨v5, by rw [bB.out], ?_, ?_, ?_⟩, hst.1.cell (j := 0) rfl⟩⟩
  ·have ho5 : v5.ownBlock ≠ some mb := fun e => by
     rcases hat with h | h
     ·have := hlt.2 mb (h.symm.trans e); omega
     ·rw [h] at e; have := Option.some.inj e; simp at this; omega
   have hw : ∀ bb o, (q bb /\ bb ≠ mb /\ some bb ≠ (Value.slice B5 N5 d5).ownBlock) /\ bb < w.heap.size -> w9.cell? ⟨bb, o, none⟩ = w.cell? ⟨bb, o, none⟩ := fun bb o hp => (World.cell?_of_block (hst.2.1 bb hp.1.2.1)).trans ((World.cell?_of_block (hg.block bb (by simp; omega) hp.1.2.2)).trans (World.cell?_alloc_lt w _ ⟨bb, o, none⟩ hp.2))
   have vD : ∀ bb, (q bb /\ bb ≠ mb /\ some bb ≠ (Value.slice B5 N5 d5).ownBlock) /\ bb < w.heap.size -> q bb /\ bb ≠ mb /\ some bb ≠ v5.ownBlock := fun bb hp => ⟨hp.1.1, hp.1.2.1, fun e => by
     rcases hat with h | h
     ·exact hp.1.2.2 (e.trans h)
     ·rw [h] at e; have := Option.some.inj e; simp at this; omega⟩
   refine ⟨hst.1, xs ++ [.int .u64 (b : Int), .slice A n c], ((HC.out.lt.keep hw).mono vD).snoc ((HN.out.lt.keep hw).mono vD), ?_⟩;rw [List.length_append, <- bB.out];exact hown.kept (row := some mb) (dG hst) (.inr ho5)
  ·refine ⟨hst.2.2.2.1.trans hg.os, hst.2.2.2.2.1.trans hg.tape, hst.2.2.2.2.2.trans hg.output, by rw [hst.2.2.1]; have := hg.size; simp at this; omega, fun k hk h1 h2 => (hst.2.1 k h1).trans ((hg.block k (by simp; omega) h2).trans (heap_alloc_old w _ hk))⟩
  ·exact hat.imp id fun h => ⟨_, h, by simp⟩
 have hs1 : N5 + 1 <= maxLen := by unfold maxLen; omega
 have hs2 : (N5 + 1) * 32 <= 140737488355328 := by omega
 clear hC hO hM hn hq bD;go_enter Tryz.func59, Tryz.ntmps59
 go_upto_region 2 with (first
  |(at_builtin; refine gW rfl (.tmp 11) (.tmp 15) 68 68 rfl (mb + 1) 109 i0 _ 2 32 Tryz.underlying68 aZ hz0 hz1 hz2 rfl _ _ _ rfl (gu HO.out (ai _ _)) _ 1 [.int .u64 (b : Int), .slice A n c] rfl (TS hz1 _ _ _ _ _) hs1 hs2 (by simp; omega) ?_; intro v5 w5 ed cB dW; obtain ⟨A6, c6, fD, _⟩ := Rd.of_own ed; subst fD; have bf := Lh (iM.out _ _ ed cB dW); clear ed cB dW)
  |(refine xA rfl 68 (.tmp 18) (.tmp 16) rfl mb 0 rfl A6 (N5 + 1) c6 rfl bf.out.1 (by simp) Xd ?_; intro w9 ag; have aR := Lh (bf.out.2 w9 ag); have fo := aR.out.2; clear ag))
 go_wp2_with fail;go_ret;exact aR.out.1
def tkC (k : Nat) (at' : Nat) (K : Int) (A : Option Addr) (n c : Nat) : List Value := [.int .u8 (k : Int), .int .i64 (at' : Int), .int .i64 K, .slice A n c, .slice none 0 0]
theorem dX : (Tryz.prog.info? 80).map (·.size) = some 5 := by kernel_rfl
theorem Hq : (Tryz.prog.info? 90).map (·.size) = some 5 := by kernel_rfl
def xq (w : World) (A : Option Addr) (n c : Nat) (e : Ending) (w' : World) : Prop := e = .returned (.agg (tkC 2 0 2 A n c).toArray) /\ Bw w w'
theorem CK {w w' : World} {A : Option Addr} {n c : Nat} {e : Ending} (h : xq w A n c e w') : e = .returned (.agg #[.int .u8 2, .int .i64 0, .int .i64 2, .slice A n c, .slice none 0 0]) /\ Bw w w' := h
theorem CE (A : Option Addr) (n c : Nat) (w : World) : Calls Tryz.prog 127 #[.slice A n c] w (xq w A n c) := by
 have HST := LH (∀ W, aT (w.alloc zT) W w.heap.size [.int .u8 2, .int .i64 0, .int .i64 2, .slice A n c, .slice none 0 0] 80 -> Bw w W /\ ae W w.heap.size [.int .u8 2, .int .i64 0, .int .i64 2, .slice A n c, .slice none 0 0] 80) fun W hst => ⟨hst.below (ai _ _) (Nat.le_refl _), hst.1⟩
 go_enter Tryz.func127, Tryz.ntmps127
 go_wp2_with (refine wB rfl 80 (.tmp 2) (.tmp 5) rfl w.heap.size 0 rfl [.int .u8 2, .int .i64 0, .int .i64 2, .slice A n c, .slice none 0 0] rfl (ae.at w zM _ 80 _ rfl rfl) 5 dX ?_; intro x5 bz; have bf := Lh (HST.out x5 bz); clear bz)
 exact cK rfl w.heap.size rfl (C := [.int .u8 2, .int .i64 0, .int .i64 2, .slice A n c, .slice none 0 0]) (T := 80) bf.out.2 _ Tryz.underlying80 rfl dX rfl ⟨rfl, bf.out.1⟩
namespace Rgx
def jS (L : List Lt) (s : B) : Nat -> Nat × Nat
 |0 => (0, 0)
 |i + 1 => if (jS L s i).2 < (L.getD i z).text.length /\ (L.getD i z).text <+: s then (i, (L.getD i z).text.length) else jS L s i
theorem BU (L : List Lt) (s : B) : ∀ i, (jS L s i).2 <= s.length /\ ((jS L s i).2 ≠ 0 -> (jS L s i).1 < i)
 |0 => ⟨Nat.zero_le _, fun h => absurd rfl h⟩
 |i + 1 => by
  have ih := BU L s i;rw [jS]
  split
  ·rename_i h
   exact ⟨h.2.length_le, fun _ => Nat.lt_succ_self i⟩
  ·exact ⟨ih.1, fun h => Nat.lt_succ_of_lt (ih.2 h)⟩
theorem NM (s t : B) : Lib.hasPrefix s t = decide (t <+: s) := by
 rw [Bool.eq_iff_iff, decide_eq_true_iff];unfold Lib.hasPrefix;simp
end Rgx
def Gs (L : List Lt) (s : B) (w : World) (e : Ending) (w' : World) : Prop := Bw w w' /\ (((jS L s L.length).2 = 0 /\ e = .returned (.tuple #[.agg #[.int .u8 0, .int .i64 0, .int .i64 0, .slice none 0 0, .slice none 0 0], .int .i64 0])) \/ ((jS L s L.length).2 ≠ 0 /\ ∃ g, w.heap.size <= g /\ ae w' g [.int .i64 ((jS L s L.length).1 : Int)] 3 /\ e = .returned (.tuple #[.agg #[.int .u8 2, .int .i64 0, .int .i64 2, .slice (pt g) 1 1, .slice none 0 0], .int .i64 ((jS L s L.length).2 : Int)])))
theorem Tc (L : List Lt) (A : Option Addr) (n c : Nat) (hn : n = L.length) (hc : n <= c) (hm : c <= 9223372036854775807) (s : B) (hs : s.length <= 1000000) (w : World) (hL : Rd w A (lv L)) (hlt : ∀ l ∈ L, l.text.length <= 1000000) : Calls Tryz.prog 129 #[.string (tb s), .slice A n c] w (Gs L s w) := by
 have HL := LH (Rd w A (lv L) /\ n = L.length /\ (∀ l ∈ L, l.text.length <= 1000000) /\ s.length <= 1000000) ⟨hL, hn, hlt, hs⟩;have HZ := LH (Bw w (w.alloc zT) /\ ae (w.alloc zT) w.heap.size zM 80) ⟨ai _ _, ae.at w zM _ 80 _ rfl rfl⟩;clear hL hn hlt hs;go_enter Tryz.func129, Tryz.ntmps129;go_wp2_with fail
 go_loopg [6, 7, 12] n (fun gq s6 s7 s12 wr => ∃ (i p1 p2 : Nat), i + gq = n /\ s12 = .int .i64 (i : Int) /\ s6 = .int .i64 (p1 : Int) /\ s7 = .int .i64 (p2 : Int) /\ Hid (p1 = (jS L s i).1 /\ p2 = (jS L s i).2 /\ Below (w.alloc zT).heap.size (w.alloc zT) wr))
 case atStart => exact ⟨0, 0, 0, by omega, rfl, rfl, rfl, Lh ⟨rfl, rfl, Below.refl _ _⟩⟩
 case round =>
  obtain ⟨i, p1, p2, hi, rfl, rfl, rfl, HI⟩ := hrel;have hp2 : p2 <= 1000000 := by rw [HI.out.2.1]; have := (BU L s i).1; have := HL.out.2.2.2; omega
  have fq := HZ.out.1.trans (HI.out.2.2.mono HZ.out.1.size)
  by_cases hlt : i < n
  ·obtain ⟨gg, rfl⟩ : ∃ g, gk = g + 1 := ⟨gk - 1, by omega⟩;have aH : i < L.length := by rw [<- HL.out.2.1]; exact hlt
   obtain ⟨b, o, rfl, lQ⟩ := z8 HL.out.1 (List.ne_nil_of_length_pos (by omega));obtain ⟨l, hl⟩ := eX (L.getD i z);have hrg : wr.rangeAt b (o + i * 5) [.string (tb l.text), .int .i64 l.base, .int .i64 l.mark, .int .i64 l.cas, .int .i64 l.width] := (lQ.below fq).range aH hl;obtain ⟨ln, yH⟩ := eX l.text.length;have HST := LH (∀ W, aT (wr.alloc (.cells #[.string ⟨#[]⟩, .int .i64 0, .int .i64 0, .int .i64 0, .int .i64 0] 90)) W wr.heap.size [.string (tb l.text), .int .i64 l.base, .int .i64 l.mark, .int .i64 l.cas, .int .i64 l.width] 90 -> Bw wr W /\ ae W wr.heap.size [.string (tb l.text), .int .i64 l.base, .int .i64 l.mark, .int .i64 l.cas, .int .i64 l.width] 90) fun W hst => ⟨hst.below (ai _ _) (Nat.le_refl _), hst.1⟩
   obtain ⟨V, hV⟩ := eX (decide (l.text <+: s));have HHP := LH (∀ W, Cz 154 #[.string (tb s), .string (tb l.text)] W fun e w' => e = .returned (.bool V) /\ w' = W) fun W => (Tryz.strings_HasPrefix _ _ W).mono fun e w' ⟨he, hw⟩ => ⟨by rw [he, C9, C9, NM, hV], hw⟩
   have hsz : (tb l.text).size = ln := by rw [yH]; show (List.toArray l.text).size = _; simp
   have HU := LH (jS L s (i + 1) = if p2 < ln /\ V = true then (i, ln) else (p1, p2)) (by
    rw [jS, <- hl, <- yH, HI.out.1, HI.out.2.1, hV];simp only [decide_eq_true_iff])
   clear hl lQ aH hV fq yH
   go_upto_region 5 with (first
    |(refine wpList_load_mid rfl 90 (.tmp 15) rfl b (o + i * 5) rfl [.string (tb l.text), .int .i64 l.base, .int .i64 l.mark, .int .i64 l.cas, .int .i64 l.width] _ hrg Tryz.underlying90 rfl Hq ?_)
    |(refine wB rfl 90 (.tmp 9) (.tmp 16) rfl wr.heap.size 0 rfl [.string (tb l.text), .int .i64 l.base, .int .i64 l.mark, .int .i64 l.cas, .int .i64 l.width] rfl (ae.at wr [.string ⟨#[]⟩, .int .i64 0, .int .i64 0, .int .i64 0, .int .i64 0] _ 90 _ rfl rfl) 5 Hq ?_; intro x5 bz; have bf := Lh (HST.out x5 bz); clear bz))
   (try simp only [Act.put]);have hcb0 := bf.out.2.cell (j := 0) rfl
   by_cases hpl : p2 < ln
   ·have e1 : decide (p2 < ln) = true := dT hpl
    cases V with
    |true =>
     have wC := LH (jS L s (i + 1) = (i, ln)) (by rw [HU.out, if_pos ⟨hpl, rfl⟩]);have bX := LH (Bw x5 x5) (Below.refl _ _);have l1 : ∀ p : Wo (Below x5.heap.size x5), p.wo.cell? ⟨wr.heap.size, 0, none⟩ = some (.string (tb l.text)) := fun p => (p.ok.cell (p := ⟨wr.heap.size, 0, none⟩) (World.block_lt_of_cell? x5 _ hcb0)).trans hcb0
     clear HU hpl
     go_upto_region 6 with ((with_reducible refine (HHP.out _).mono ?_); rintro e w6 ⟨rfl, ky⟩; have rq := ky.symm; clear ky; subst rq)
     haveI : Nonempty (Wo (Below x5.heap.size x5)) := ⟨⟨x5, bX.out⟩⟩;refine jB (Below x5.heap.size x5) jC (by kernel_rfl) (below_drewN bX.out 1) ?_
     repeat (go_big_quiet_step ((fail)))
     refine wpQuiet_nil ?_;intro x6 hw2;obtain ⟨⟨EM, ax⟩, hw3⟩ := hw2;have hw4 : x6 = EM := hw3;subst hw4;have Bh := Lh ax;clear hw3 ax;go_wp2_with fail
     go_roundg gg
     case rel => exact ⟨i + 1, _, _, by omega, by go_num, rfl, rfl, Lh ⟨by rw [wC.out], by rw [wC.out], HI.out.2.2.trans ((bf.out.1.trans (Bh.out.mono bf.out.1.size)).mono HI.out.2.2.size)⟩⟩
     case measure => omega
    |false =>
     have wC := LH (jS L s (i + 1) = (p1, p2)) (by rw [HU.out, if_neg (by intro h; cases h.2)]);clear HU hpl
     go_wp2_with ((with_reducible refine (HHP.out _).mono ?_); rintro e w6 ⟨rfl, ky⟩; have rq := ky.symm; clear ky; subst rq)
     go_roundg gg
     case rel => exact ⟨i + 1, _, _, by omega, by go_num, rfl, rfl, Lh ⟨by rw [wC.out], by rw [wC.out], HI.out.2.2.trans (bf.out.1.mono HI.out.2.2.size)⟩⟩
     case measure => omega
   ·have e1 : decide (p2 < ln) = false := dF hpl;have wC := LH (jS L s (i + 1) = (p1, p2)) (by rw [HU.out, if_neg (by intro h; exact hpl h.1)]);clear HU hpl;go_wp2_with fail
    go_roundg gg
    case rel => exact ⟨i + 1, _, _, by omega, by go_num, rfl, rfl, Lh ⟨by rw [wC.out], by rw [wC.out], HI.out.2.2.trans (bf.out.1.mono HI.out.2.2.size)⟩⟩
    case measure => omega
  ·obtain rfl : n = i := by omega
   have HB := Lh fq;have l7 := LH (p1 = (jS L s L.length).1 /\ p2 = (jS L s L.length).2) (by
    have h := HI.out;rw [HL.out.2.1] at h;exact ⟨h.1, h.2.1⟩)
   have mq := (HZ.out.2.below HI.out.2.2 HZ.out.2.lt);have dw := Lh mq;clear fq mq
   by_cases h0 : p2 = 0
   ·have HST := LH (∀ W, aT wr W w.heap.size zM 80 -> Gs L s w (.returned (.tuple #[.agg #[.int .u8 0, .int .i64 0, .int .i64 0, .slice none 0 0, .slice none 0 0], .int .i64 0])) W /\ ae W w.heap.size zM 80) fun W hst => ⟨⟨hst.below HB.out (Nat.le_refl _), .inl ⟨by rw [<- l7.out.2]; exact h0, rfl⟩⟩, hst.1⟩
    subst h0
    go_wp2_with (refine wB rfl 80 (.tmp 4) (.tmp 35) rfl w.heap.size 0 rfl zM rfl dw.out 5 dX ?_; intro x5 bz; have bf := Lh (HST.out x5 bz); clear bz)
    exact gX rfl w.heap.size rfl (C := zM) (T := 80) bf.out.2 _ Tryz.underlying80 rfl dX rfl (.int .i64 0) rfl bf.out.1
   ·have hp1 : p1 < L.length := by
     have h := (BU L s L.length).2 (by rw [<- l7.out.2]; exact h0);rw [<- l7.out.1] at h;exact h
    have e1 : ((p2 : Int) == 0) = false := bF (by omega);have yN := LH (Cz 127 #[.slice (pt wr.heap.size) 1 1] (wr.alloc (.cells #[.int .i64 (p1 : Int)] 3)) (xq (wr.alloc (.cells #[.int .i64 (p1 : Int)] 3)) (pt wr.heap.size) 1 1)) (CE _ _ _ _);have xc := LH (∀ x5, Below (wr.alloc (.cells #[.int .i64 (p1 : Int)] 3)).heap.size (wr.alloc (.cells #[.int .i64 (p1 : Int)] 3)) x5 -> ae x5 w.heap.size zM 80 /\ ∀ W, aT x5 W w.heap.size [.int .u8 2, .int .i64 0, .int .i64 2, .slice (pt wr.heap.size) 1 1, .slice none 0 0] 80 -> Gs L s w (.returned (.tuple #[.agg #[.int .u8 2, .int .i64 0, .int .i64 2, .slice (pt wr.heap.size) 1 1, .slice none 0 0], .int .i64 (p2 : Int)])) W /\ ae W w.heap.size [.int .u8 2, .int .i64 0, .int .i64 2, .slice (pt wr.heap.size) 1 1, .slice none 0 0] 80) fun x5 hb => by
     have h1 : ae (wr.alloc (.cells #[.int .i64 (p1 : Int)] 3)) wr.heap.size [.int .i64 (p1 : Int)] 3 := ae.at wr _ _ 3 _ rfl rfl;have h2 := dw.out.alloc (Obj.cells #[.int .i64 (p1 : Int)] 3);have hlt := dw.out.lt;have h3 := h1.below hb h1.lt;refine ⟨h2.below hb h2.lt, fun W hst => ⟨⟨hst.below ((aF HB.out _).trans (hb.mono (aF HB.out _).size)) (Nat.le_refl _), .inr ⟨by rw [<- l7.out.2]; exact h0, wr.heap.size, by omega, ?_, ?_⟩⟩, hst.1⟩⟩
     · rw [<- l7.out.1]; exact hst.other h3 (by omega)
     · rw [<- l7.out.2]
    clear h0 hp1
    go_wp2_with (first
     | ((with_reducible refine yN.out.mono ?_); rintro e x5 hp; obtain ⟨rfl, h1⟩ := CK hp; have H5 := Lh (xc.out x5 h1); clear hp h1)
     | (refine wB rfl 80 (.tmp 4) (.tmp 38) rfl w.heap.size 0 rfl [.int .u8 2, .int .i64 0, .int .i64 2, .slice (pt wr.heap.size) 1 1, .slice none 0 0] rfl H5.out.1 5 dX ?_; intro x6 qx; have dZ := Lh (H5.out.2 x6 qx); clear qx))
    exact gX rfl w.heap.size rfl (C := [.int .u8 2, .int .i64 0, .int .i64 2, .slice (pt wr.heap.size) 1 1, .slice none 0 0]) (T := 80) dZ.out.2 _ Tryz.underlying80 rfl dX rfl (.int .i64 (p2 : Int)) rfl dZ.out.1
abbrev fZ := Alp.B × List Int
def Cr (w : World) (S : List fZ) (b o : Nat) : Prop := ∀ k (h : k < S.length), ∃ A n c, w.cell? ⟨b, o + k * 2, none⟩ = some (.string (tb S[k].1)) /\ w.cell? ⟨b, o + k * 2 + 1, none⟩ = some (.slice A n c) /\ n = S[k].2.length /\ n <= c /\ c <= 9223372036854775807 /\ Rd w A (iv S[k].2) /\ S[k].1.length <= 9223372036854775807
structure iU (w : World) (S : List fZ) (A : Option Addr) (n c : Nat) : Prop where
 len : n = S.length
 cap : n <= c
 max : c <= 9223372036854775807
 ats : S = [] \/ ∃ b o, A = some ⟨b, o, none⟩ /\ Cr w S b o
theorem Cr.below {w W : World} {S : List fZ} {b o : Nat} (h : Cr w S b o) (hb : Bw w W) : Cr W S b o := fun k hk => by
 obtain ⟨A, n, c, e1, e2, e3, e4, e5, e6, e7⟩ := h k hk;exact ⟨A, n, c, (hb.cell (p := ⟨b, o + k * 2, none⟩) (World.block_lt_of_cell? w _ e1)).trans e1, (hb.cell (p := ⟨b, o + k * 2 + 1, none⟩) (World.block_lt_of_cell? w _ e2)).trans e2, e3, e4, e5, e6.below hb, e7⟩
theorem iU.below {w W : World} {S : List fZ} {A : Option Addr} {n c : Nat} (h : iU w S A n c) (hb : Bw w W) : iU W S A n c := ⟨h.len, h.cap, h.max, h.ats.imp id fun ⟨b, o, e, h⟩ => ⟨b, o, e, h.below hb⟩⟩
theorem iU.open {w : World} {S : List fZ} {A : Option Addr} {n c : Nat} (h : iU w S A n c) (hn : 0 < S.length) : ∃ b o, A = some ⟨b, o, none⟩ /\ Cr w S b o := by
 rcases h.ats with h | h
 ·rw [h] at hn; simp at hn
 ·exact h
theorem PY : (Tryz.prog.info? 148).map (·.size) = some 2 := by kernel_rfl
theorem Qb (args : Array Value) (W : World) : (callFunc 153 args).run Tryz.prog W = .ok (.enter 153 args) W := by kernel_rfl
theorem V8 (a nm : Alp.B) (V : Bool) (hV : V = decide (a = nm)) (A : Option Addr) (n c g : Nat) (w : World) (hg : w.cell? ⟨g, 0, none⟩ = some (.string (tb nm))) : Calls Tryz.prog 153 #[.agg #[.string (tb a), .slice A n c], .pointer (pt g)] w (aU w V) := by
 have dw := LH (ae (w.alloc (.cells #[.string (tb a), .slice A n c] 148)) w.heap.size [.string (tb a), .slice A n c] 148) (ae.at w _ _ 148 _ rfl rfl);have hc0 := dw.out.cell (j := 0) rfl;have hc1 := ((ai w (.cells #[.string (tb a), .slice A n c] 148)).cell (p := ⟨g, 0, none⟩) (World.block_lt_of_cell? w _ hg)).trans hg;have HV := LH (((tb a).toList == (tb nm).toList) = V) (by
  rw [hV, oN, oN, Bool.eq_iff_iff, beq_iff_eq, decide_eq_true_iff])
 clear hV;go_enter Tryz.func153, Tryz.ntmps153;go_wp2_with fail;go_ret;exact ⟨by rw [<- HV.out]; rfl, ai _ _⟩
namespace Rgx
def qU (S : List fZ) (nm : Alp.B) : Option Nat := S.findIdx? fun x => decide (x.1 = nm)
theorem QI {S : List fZ} {nm : Alp.B} {i : Nat} (hi : i < S.length) (h : S[i].1 = nm) (hb : ∀ j (hj : j < S.length), j < i -> S[j].1 ≠ nm) : qU S nm = some i := by
 unfold qU;rw [List.findIdx?_eq_some_iff_getElem];exact ⟨hi, dT h, fun j hj => by simpa using hb j (by omega) hj⟩
theorem Rw {S : List fZ} {nm : Alp.B} (hb : ∀ j (hj : j < S.length), S[j].1 ≠ nm) : qU S nm = none := by
 unfold qU;rw [List.findIdx?_eq_none_iff];intro x hx;obtain ⟨j, hj, rfl⟩ := List.getElem_of_mem hx
 simpa using hb j hj
end Rgx
def Ct : Option Nat -> Int
 |some i => (i : Int)
 |none => -1
def I4 (o : Option Nat) (w : World) (e : Ending) (w' : World) : Prop := Bw w w' /\ e = .returned (.int .i64 (Ct o))
theorem Jp {o : Option Nat} {w w' : World} {e : Ending} (h : I4 o w e w') : Bw w w' /\ e = .returned (.int .i64 (Ct o)) := h
theorem Qx (S : List fZ) (A : Option Addr) (n c g : Nat) (nm : Alp.B) (w : World) (hS : iU w S A n c) (hg : w.cell? ⟨g, 0, none⟩ = some (.string (tb nm))) : Calls Tryz.prog 152 #[.slice A n c, .func (.func 153) #[] #[.pointer (pt g)]] w (I4 (qU S nm) w) := by
 have HS := LH (iU w S A n c) hS;have HC := LH (∀ W, Bw w W -> ∀ ru A2 n2 c2 V, V = decide (ru = nm) -> Cz 153 #[.agg #[.string (tb ru), .slice A2 n2 c2], .pointer (pt g)] W (aU W V)) fun W hb ru A2 n2 c2 V hV => V8 ru nm V hV A2 n2 c2 g W ((hb.cell (p := ⟨g, 0, none⟩) (World.block_lt_of_cell? w _ hg)).trans hg)
 have hn := hS.cap;have hm := hS.max;have hen := Qb;clear hS hg;go_enter Tryz.func152, Tryz.ntmps152;go_wp2_with fail
 go_loopg [8] n (fun gq s8 wr => ∃ i : Nat, i + gq = n /\ s8 = .int .i64 (i : Int) /\ Hid ((∀ j (hj : j < S.length), j < i -> S[j].1 ≠ nm) /\ Bw w wr))
 case atStart => exact ⟨0, by omega, rfl, Lh ⟨fun j hj h => by omega, Below.refl _ _⟩⟩
 case round =>
  obtain ⟨i, hi, rfl, HI⟩ := hrel
  by_cases hlt : i < n
  ·obtain ⟨gg, rfl⟩ : ∃ g, gk = g + 1 := ⟨gk - 1, by omega⟩;have aH : i < S.length := by rw [<- HS.out.len]; exact hlt
   obtain ⟨b, o, rfl, hat⟩ := (HS.out.below HI.out.2).open (by omega);obtain ⟨A2, n2, c2, e1, e2, e3⟩ := hat i aH;obtain ⟨ru, En⟩ := eX (S[i].1);rw [<- En] at e1;have hrg : wr.rangeAt b (o + i * 2) [.string (tb ru), .slice A2 n2 c2] := fun j u hu => by
    match j, hu with
    |0, hu => exact e1.trans (by simpa using hu)
    |1, hu => exact e2.trans (by simpa using hu)
   obtain ⟨V, hV⟩ := eX (decide (ru = nm));have vo := LH (Cz 153 #[.agg #[.string (tb ru), .slice A2 n2 c2], .pointer (pt g)] wr (aU wr V)) (HC.out wr HI.out.2 ru A2 n2 c2 V hV)
   cases V with
   |true =>
    have HF := LH (qU S nm = some i) (QI aH (by rw [<- En]; exact of_decide_eq_true hV.symm) HI.out.1);clear En hV e1 e2 e3 hat aH
    go_wp2_with (first
     |(refine wpList_load_mid rfl 148 (.tmp 14) rfl b (o + i * 2) rfl [.string (tb ru), .slice A2 n2 c2] _ hrg Tryz.underlying148 rfl PY ?_)
     |((with_reducible refine vo.out.mono ?_); rintro e w6 hp; obtain ⟨rfl, eB⟩ := aV hp; have H6 := Lh eB; clear hp eB))
    go_ret;exact ⟨HI.out.2.trans (H6.out.mono HI.out.2.size), by rw [HF.out]; rfl⟩
   |false =>
    have HF := LH (∀ j (hj : j < S.length), j < i + 1 -> S[j].1 ≠ nm) fun j hj h => by
     by_cases e : j = i
     ·subst e; rw [<- En]; exact of_decide_eq_false hV.symm
     ·exact HI.out.1 j hj (by omega)
    clear En hV e1 e2 e3 hat aH
    go_wp2_with (first
     |(refine wpList_load_mid rfl 148 (.tmp 14) rfl b (o + i * 2) rfl [.string (tb ru), .slice A2 n2 c2] _ hrg Tryz.underlying148 rfl PY ?_)
     |((with_reducible refine vo.out.mono ?_); rintro e w6 hp; obtain ⟨rfl, eB⟩ := aV hp; have H6 := Lh eB; clear hp eB))
    go_roundg gg
    case rel => exact ⟨i + 1, by omega, by go_num, Lh ⟨HF.out, HI.out.2.trans (H6.out.mono HI.out.2.size)⟩⟩
    case measure => omega
  ·obtain rfl : n = i := by omega
   have HF := LH (qU S nm = none) (Rw fun j hj => HI.out.1 j hj (by rw [HS.out.len]; exact hj));go_wp2_with fail;go_ret;exact ⟨HI.out.2, by rw [HF.out]; rfl⟩
theorem M7 (l : List UInt8) (a b : Nat) : (tb l).extract a b = tb ((l.drop a).take (b - a)) := by
 apply ByteArray.ext
 apply Array.ext'
 simp [tb, ByteArray.data_extract]
namespace Rgx
def jY (S : List fZ) (s : Alp.B) : Nat × Rx × Nat :=
 if Lib.indexByte s 125 < 0 then (0, .mk 0 [] [], 0)
 else if Lib.indexByte s 125 = 1 then (2, .mk 0 [] [], 2)
 else match qU S ((s.drop 1).take ((Lib.indexByte s 125).toNat - 1)) with
  |none => (0, .mk 0 [] [], 0)
  |some i => if fO (S.getD i ([], [])).2 then (2, .mk 2 (S.getD i ([], [])).2 [], (Lib.indexByte s 125).toNat + 1) else (0, .mk 0 [] [], 0)
end Rgx
def fu (N0 : Nat) (w : World) (t : Nat × Rx × Nat) (e : Ending) (w' : World) : Prop := ∃ A n c B m d, e = .returned (.tuple #[.agg #[.int .u8 (t.1 : Int), .int .i64 0, .int .i64 t.2.1.kind, .slice A n c, .slice B m d], .int .i64 (t.2.2 : Int)]) /\ ak (fun b => b < N0 \/ w.heap.size <= b) w' t.2.1 A n c B m d /\ Bw w w'
theorem Jf {N0 : Nat} {w : World} {t : Nat × Rx × Nat} {e : Ending} {w' : World} (h : fu N0 w t e w') : ∃ A n c B m d, e = .returned (.tuple #[.agg #[.int .u8 (t.1 : Int), .int .i64 0, .int .i64 t.2.1.kind, .slice A n c, .slice B m d], .int .i64 (t.2.2 : Int)]) /\ ak (fun b => b < N0 \/ w.heap.size <= b) w' t.2.1 A n c B m d /\ Bw w w' := h
theorem qO {N0 : Nat} {w w' : World} {t : Nat × Rx × Nat} {k sz : Nat} (ht : t = (k, .mk 0 [] [], sz)) (hb : Bw w w') : fu N0 w t (.returned (.tuple #[.agg #[.int .u8 (k : Int), .int .i64 0, .int .i64 0, .slice none 0 0, .slice none 0 0], .int .i64 (sz : Int)])) w' := by
 subst ht;exact ⟨none, 0, 0, none, 0, 0, rfl, ak.flat _ w' (by constructor <;> decide), hb⟩
theorem BZ {N0 : Nat} {w w' : World} {t : Nat × Rx × Nat} {s : List Int} {sz : Nat} {A : Option Addr} {n c : Nat} (ht : t = (2, .mk 2 s [], sz)) (hs : ∀ x ∈ s, 0 <= x /\ x < 64) (hn : n = s.length) (hc : n <= c) (hm : c <= 9223372036854775807) (hr : Rd w' A (iv s)) (hA : s ≠ [] -> ∀ b o, A = some ⟨b, o, none⟩ -> b < N0 \/ w.heap.size <= b) (hb : Bw w w') : fu N0 w t (.returned (.tuple #[.agg #[.int .u8 2, .int .i64 0, .int .i64 2, .slice A n c, .slice none 0 0], .int .i64 (sz : Int)])) w' := by
 subst ht;exact ⟨A, n, c, none, 0, 0, rfl, ak.make (by constructor <;> decide) (fun x hx => by have := hs x hx; constructor <;> omega) hn hc (by unfold maxLen; exact hm) hr hA rfl (Nat.zero_le _) (Nat.zero_le _) (fun i hi => absurd hi (by simp)) (fun h => absurd rfl h), hb⟩
theorem Ub (S : List fZ) (A : Option Addr) (n c : Nat) (s : Alp.B) (hs : s.length <= 1000000) (w0 w : World) (hS : iU w0 S A n c) (hb0 : Bw w0 w) (Ha : s.head? = some 123) : Calls Tryz.prog 128 #[.string (tb s), .slice A n c] w (fu w0.heap.size w (jY S s)) := by
 have HZ := LH (Bw w (w.alloc zT) /\ ae (w.alloc zT) w.heap.size zM 80) ⟨ai _ _, ae.at w zM _ 80 _ rfl rfl⟩;obtain ⟨j, hj⟩ := eX (Lib.indexByte s 125);have xn := Lib.indexByte_ge s 125;rw [<- hj] at xn;have HIB := LH (∀ W, Cz 151 #[.string (tb s), .int .u8 125] W fun e w' => e = .returned (.int .i64 j) /\ w' = W) fun W => (PZ (tb s) 125 W).mono fun e w' ⟨he, hw⟩ => ⟨by rw [he, C9, hj]; rfl, hw⟩
 by_cases Hg : j < 0
 ·obtain rfl : j = -1 := by omega
  have HP := LH (jY S s = (0, .mk 0 [] [], 0)) (by unfold jY; rw [<- hj]; rfl);have HST := LH (∀ W, aT (w.alloc zT) W w.heap.size zM 80 -> fu w0.heap.size w (jY S s) (.returned (.tuple #[.agg #[.int .u8 0, .int .i64 0, .int .i64 0, .slice none 0 0, .slice none 0 0], .int .i64 0])) W /\ ae W w.heap.size zM 80) fun W hst => ⟨qO HP.out (hst.below HZ.out.1 (Nat.le_refl _)), hst.1⟩
  clear hj xn hS hb0 Hg;go_enter Tryz.func128, Tryz.ntmps128
  go_wp2_with (first
   |((with_reducible refine (HIB.out _).mono ?_); rintro e w6 ⟨rfl, ky⟩; have rq := ky.symm; clear ky; subst rq)
   |(refine wB rfl 80 (.tmp 4) (.tmp 15) rfl w.heap.size 0 rfl zM rfl HZ.out.2 5 dX ?_; intro x5 bz; have fH := Lh (HST.out x5 bz); clear bz))
  exact gX rfl w.heap.size rfl (C := zM) (T := 80) fH.out.2 _ Tryz.underlying80 rfl dX rfl (.int .i64 0) rfl fH.out.1
 obtain ⟨J, rfl⟩ : ∃ J : Nat, j = (J : Int) := ⟨j.toNat, by omega⟩;have hJ := Lib.indexByte_some hj.symm;have hJl : J < s.length := by
  rcases Nat.lt_or_ge J s.length with h | h
  ·exact h
  ·have h1 := hJ.1; rw [List.getElem?_eq_none h] at h1; cases h1
 have ER : J ≠ 0 := by
  intro e;subst e;have h1 := hJ.1;rw [<- List.head?_eq_getElem?, Ha] at h1;exact absurd h1 (by decide)
 by_cases h1 : J = 1
 ·have HP := LH (jY S s = (2, .mk 0 [] [], 2)) (by unfold jY; rw [<- hj, h1]; rfl);have HST := LH (∀ W, aT (w.alloc zT) W w.heap.size [.int .u8 2, .int .i64 0, .int .i64 0, .slice none 0 0, .slice none 0 0] 80 -> fu w0.heap.size w (jY S s) (.returned (.tuple #[.agg #[.int .u8 2, .int .i64 0, .int .i64 0, .slice none 0 0, .slice none 0 0], .int .i64 2])) W /\ ae W w.heap.size [.int .u8 2, .int .i64 0, .int .i64 0, .slice none 0 0, .slice none 0 0] 80) fun W hst => ⟨qO HP.out (hst.below HZ.out.1 (Nat.le_refl _)), hst.1⟩
  subst h1;clear hj xn hS hb0 Hg hJ hJl ER;go_enter Tryz.func128, Tryz.ntmps128
  go_wp2_with (first
   |((with_reducible refine (HIB.out _).mono ?_); rintro e w6 ⟨rfl, ky⟩; have rq := ky.symm; clear ky; subst rq)
   |(refine wB rfl 80 (.tmp 4) (.tmp 18) rfl w.heap.size 0 rfl [.int .u8 2, .int .i64 0, .int .i64 0, .slice none 0 0, .slice none 0 0] rfl HZ.out.2 5 dX ?_; intro x5 bz; have fH := Lh (HST.out x5 bz); clear bz))
  exact gX rfl w.heap.size rfl (C := [.int .u8 2, .int .i64 0, .int .i64 0, .slice none 0 0, .slice none 0 0]) (T := 80) fH.out.2 _ Tryz.underlying80 rfl dX rfl (.int .i64 2) rfl fH.out.1
 ·obtain ⟨nm, hnm⟩ := eX ((s.drop 1).take (J - 1));have Bn : (tb s).extract 1 J = tb nm := by rw [M7, hnm]
  have e1 : ((J : Int) + 1 == 0) = false := bF (by omega);have e2 : ((J : Int) + 1 == 2) = false := bF (by omega);have hsz : (tb s).size = s.length := kI s;have hJ9 : J <= 1000000 := by omega
  have hJ1 : 1 <= J := by omega
  have HJ := LH ((J : Int) = Lib.indexByte s 125 /\ nm = (s.drop 1).take (J - 1) /\ J ≠ 0 /\ J ≠ 1) ⟨hj, hnm, ER, h1⟩;have HS := LH (iU w0 S A n c /\ Bw w0 w) ⟨hS, hb0⟩;clear hj xn hS hb0 Hg hJ ER hnm h1;go_enter Tryz.func128, Tryz.ntmps128
  go_upto_region 8 with ((with_reducible refine (HIB.out _).mono ?_); rintro e w6 ⟨rfl, ky⟩; have rq := ky.symm; clear ky; subst rq)
  have HN := LH (((w.alloc zT).alloc (.cells #[.string (tb nm)] 9)).cell? ⟨w.heap.size + 1, 0, none⟩ = some (.string (tb nm)) /\ Bw w ((w.alloc zT).alloc (.cells #[.string (tb nm)] 9)) /\ ae ((w.alloc zT).alloc (.cells #[.string (tb nm)] 9)) w.heap.size zM 80) ⟨(ae.at (w.alloc zT) [.string (tb nm)] _ 9 _ rfl (by simp)).cell (j := 0) rfl, aF HZ.out.1 _, HZ.out.2.alloc _⟩;have EO := LH (Cz 152 #[.slice A n c, .func (.func 153) #[] #[.pointer (pt (w.heap.size + 1))]] ((w.alloc zT).alloc (.cells #[.string (tb nm)] 9)) (I4 (qU S nm) ((w.alloc zT).alloc (.cells #[.string (tb nm)] 9)))) (Qx S A n c (w.heap.size + 1) nm ((w.alloc zT).alloc (.cells #[.string (tb nm)] 9)) (HS.out.1.below (HS.out.2.trans (HN.out.2.1.mono HS.out.2.size))) HN.out.1);clear Bn
  cases hX : qU S nm with
  |none =>
   have HP := LH (jY S s = (0, .mk 0 [] [], 0)) (by
    have h := HJ.out;unfold jY;rw [<- h.1, if_neg (by omega), if_neg (by omega), Int.toNat_natCast, <- h.2.1, hX])
   rw [hX] at EO;clear hX;have HST := LH (∀ x5, Below ((w.alloc zT).alloc (.cells #[.string (tb nm)] 9)).heap.size ((w.alloc zT).alloc (.cells #[.string (tb nm)] 9)) x5 -> ae x5 w.heap.size zM 80 /\ ∀ W, aT x5 W w.heap.size zM 80 -> fu w0.heap.size w (jY S s) (.returned (.tuple #[.agg #[.int .u8 0, .int .i64 0, .int .i64 0, .slice none 0 0, .slice none 0 0], .int .i64 0])) W /\ ae W w.heap.size zM 80) fun x5 hb => ⟨HN.out.2.2.below hb HN.out.2.2.lt, fun W hst => ⟨qO HP.out (hst.below (HN.out.2.1.trans (hb.mono HN.out.2.1.size)) (Nat.le_refl _)), hst.1⟩⟩
   go_wp2_with (first
    | ((with_reducible refine EO.out.mono ?_); rintro e w6 hp; obtain ⟨eB, rfl⟩ := Jp hp; simp only [Ct]; have H6 := Lh (HST.out w6 eB); clear hp eB)
    | (refine wB rfl 80 (.tmp 4) (.tmp 38) rfl w.heap.size 0 rfl zM rfl H6.out.1 5 dX ?_; intro x7 rQ; have jk := Lh (H6.out.2 x7 rQ); clear rQ))
   exact gX rfl w.heap.size rfl (C := zM) (T := 80) jk.out.2 _ Tryz.underlying80 rfl dX rfl (.int .i64 0) rfl jk.out.1
  |some i =>
   have hiS : i < S.length := (List.findIdx?_eq_some_iff_getElem.1 hX).1;have oK : i < n := by rw [HS.out.1.len]; exact hiS
   obtain ⟨b, o, rfl, hat⟩ := HS.out.1.open (by omega);obtain ⟨A2, n2, c2, q1, q2, q3, q4, q5, q6, q7⟩ := hat i hiS;obtain ⟨sy, nH⟩ := eX (S[i].2);rw [<- nH] at q3 q6;obtain ⟨V, hV⟩ := eX (fO sy);have hbW : ∀ W, Below ((w.alloc zT).alloc (.cells #[.string (tb nm)] 9)).heap.size ((w.alloc zT).alloc (.cells #[.string (tb nm)] 9)) W -> Bw w0 W := fun W hb => HS.out.2.trans ((HN.out.2.1.trans (hb.mono HN.out.2.1.size)).mono HS.out.2.size)
   have HQ := LH (∀ W, Below ((w.alloc zT).alloc (.cells #[.string (tb nm)] 9)).heap.size ((w.alloc zT).alloc (.cells #[.string (tb nm)] 9)) W -> W.cell? ⟨b, o + i * 2 + 1, none⟩ = some (.slice A2 n2 c2) /\ Rd W A2 (iv sy) /\ Cz 44 #[.slice A2 n2 c2] W (aU W V) /\ Cz 127 #[.slice A2 n2 c2] W (xq W A2 n2 c2)) fun W hb => ⟨((hbW W hb).cell (p := ⟨b, o + i * 2 + 1, none⟩) (World.block_lt_of_cell? w0 _ q2)).trans q2, q6.below (hbW W hb), Mi sy A2 n2 c2 q3 q4 q5 V hV W (q6.below (hbW W hb)), CE A2 n2 c2 W⟩
   have HGD := LH (S.getD i ([], []) = S[i]) (by rw [List.getD_eq_getElem?_getD, List.getElem?_eq_getElem hiS]; rfl);have HPX := LH (jY S s = if V then (2, .mk 2 sy [], J + 1) else (0, .mk 0 [] [], 0)) (by
    have h := HJ.out;unfold jY;rw [<- h.1, if_neg (by omega), if_neg (by omega), Int.toNat_natCast, <- h.2.1, hX];show (if fO (S.getD i ([], [])).2 = true then _ else _) = _;rw [HGD.out, <- nH, hV])
   have yl := LH (sy ≠ [] -> ∀ b o, A2 = some ⟨b, o, none⟩ -> b < w0.heap.size) fun hne b o e => by
    obtain ⟨b', o', e', hc⟩ := q6.open (by intro h; apply hne; cases sy with | nil => rfl | cons x t => simp [iv] at h);rw [e] at e';obtain ⟨rfl, rfl⟩ : b = b' /\ o = o' := by simpa using e'
    cases sy with
    | nil => exact absurd rfl hne
    | cons x t => exact World.block_lt_of_cell? w0 _ (hc 0 _ rfl)
   have kL := LH (∀ W, Bw w W -> Rd W A2 (iv sy)) fun W hb => q6.below (HS.out.2.trans (hb.mono HS.out.2.size))
   have mV := LH (n2 = sy.length /\ n2 <= c2 /\ c2 <= 9223372036854775807 /\ (V = true -> ∀ x ∈ sy, 0 <= x /\ x < 64)) ⟨q3, q4, q5, fun h => (oh.1 (by rw [<- hV]; exact h)).2.2⟩;rw [hX] at EO;clear hX hat q1 q2 q3 q4 q5 q6 q7 HGD nH hV hbW hiS;have BJ : decide ((i : Int) < 0) = false := dF (by omega)
   cases V with
   |false =>
    have HP := LH (jY S s = (0, .mk 0 [] [], 0)) HPX.out;have HST := LH (∀ x5, Below ((w.alloc zT).alloc (.cells #[.string (tb nm)] 9)).heap.size ((w.alloc zT).alloc (.cells #[.string (tb nm)] 9)) x5 -> ae x5 w.heap.size zM 80 /\ ∀ W, aT x5 W w.heap.size zM 80 -> fu w0.heap.size w (jY S s) (.returned (.tuple #[.agg #[.int .u8 0, .int .i64 0, .int .i64 0, .slice none 0 0, .slice none 0 0], .int .i64 0])) W /\ ae W w.heap.size zM 80) fun x5 hb => ⟨HN.out.2.2.below hb HN.out.2.2.lt, fun W hst => ⟨qO HP.out (hst.below (HN.out.2.1.trans (hb.mono HN.out.2.1.size)) (Nat.le_refl _)), hst.1⟩⟩
    go_wp2_with (first
      | ((with_reducible refine EO.out.mono ?_); rintro e w6 hp; obtain ⟨eB, rfl⟩ := Jp hp; simp only [Ct]; have H6 := Lh eB; have hcs := (HQ.out w6 eB).1; have HV6 := Lh (HQ.out w6 eB).2.2.1; clear hp eB)
      | ((with_reducible refine HV6.out.mono ?_); rintro e w7 hp; obtain ⟨rfl, jf⟩ := aV hp; have H7 := Lh (HST.out w7 (H6.out.trans (jf.mono H6.out.size))); clear hp jf)
      | (refine wB rfl 80 (.tmp 4) (.tmp 38) rfl w.heap.size 0 rfl zM rfl H7.out.1 5 dX ?_; intro x8 oz; have bM := Lh (H7.out.2 x8 oz); clear oz))
    exact gX rfl w.heap.size rfl (C := zM) (T := 80) bM.out.2 _ Tryz.underlying80 rfl dX rfl (.int .i64 0) rfl bM.out.1
   |true =>
    have HP := LH (jY S s = (2, .mk 2 sy [], J + 1)) HPX.out;have HST := LH (∀ x5, Below ((w.alloc zT).alloc (.cells #[.string (tb nm)] 9)).heap.size ((w.alloc zT).alloc (.cells #[.string (tb nm)] 9)) x5 -> ae x5 w.heap.size zM 80 /\ ∀ W, aT x5 W w.heap.size [.int .u8 2, .int .i64 0, .int .i64 2, .slice A2 n2 c2, .slice none 0 0] 80 -> fu w0.heap.size w (jY S s) (.returned (.tuple #[.agg #[.int .u8 2, .int .i64 0, .int .i64 2, .slice A2 n2 c2, .slice none 0 0], .int .i64 ((J : Int) + 1)])) W /\ ae W w.heap.size [.int .u8 2, .int .i64 0, .int .i64 2, .slice A2 n2 c2, .slice none 0 0] 80) fun x5 hb => ⟨HN.out.2.2.below hb HN.out.2.2.lt, fun W hst => ⟨by
      have iB := hst.below (HN.out.2.1.trans (hb.mono HN.out.2.1.size)) (Nat.le_refl _);have h1 := mV.out;have h2 := BZ (N0 := w0.heap.size) (sz := J + 1) HP.out (h1.2.2.2 rfl) h1.1 h1.2.1 h1.2.2.1 (kL.out W iB) (fun hne b o e => .inl (yl.out hne b o e)) iB;exact h2, hst.1⟩⟩
    go_wp2_with (first
      | ((with_reducible refine EO.out.mono ?_); rintro e w6 hp; obtain ⟨eB, rfl⟩ := Jp hp; simp only [Ct]; have H6 := Lh eB; have hcs := (HQ.out w6 eB).1; have HV6 := Lh (HQ.out w6 eB).2.2.1; clear hp eB)
      | ((with_reducible refine HV6.out.mono ?_); rintro e w7 hp; obtain ⟨rfl, jf⟩ := aV hp; have H7 := Lh (H6.out.trans (jf.mono H6.out.size)); have hcs7 := (HQ.out w7 H7.out).1; have HA7 := Lh (HQ.out w7 H7.out).2.2.2; clear hp jf)
      | ((with_reducible refine HA7.out.mono ?_); rintro e w8 hp; obtain ⟨rfl, aK⟩ := CK hp; have H8 := Lh (HST.out w8 (H7.out.trans (aK.mono H7.out.size))); clear hp aK)
      | (refine wB rfl 80 (.tmp 4) (.tmp 44) rfl w.heap.size 0 rfl [.int .u8 2, .int .i64 0, .int .i64 2, .slice A2 n2 c2, .slice none 0 0] rfl H8.out.1 5 dX ?_; intro x8 oz; have bM := Lh (H8.out.2 x8 oz); clear oz))
    exact gX rfl w.heap.size rfl (C := [.int .u8 2, .int .i64 0, .int .i64 2, .slice A2 n2 c2, .slice none 0 0]) (T := 80) bM.out.2 _ Tryz.underlying80 rfl dX rfl (.int .i64 ((J : Int) + 1)) rfl bM.out.1
namespace Rgx
def uw (L : List Lt) (s : Alp.B) : Nat × Rx × Nat := if (jS L s L.length).2 = 0 then (0, .mk 0 [] [], 0) else (2, .mk 2 [((jS L s L.length).1 : Int)] [], (jS L s L.length).2)
def fA (L : List Lt) (S : List fZ) : Alp.B -> Nat × Rx × Nat
 |[] => (1, .mk 0 [] [], 0)
 |c :: t =>
  if c = 124 \/ c = 42 \/ c = 63 \/ c = 40 \/ c = 41 then (c.toNat, .mk 0 [] [], 1)
  else if c = 46 then (2, .mk 2 (iC (2 ^ L.length - 1)) [], 1)
  else if c = 45 then (2, .mk 2 [63] [], 1)
  else if c = 35 then (2, .mk 2 [62] [], 1)
  else if c = 123 then jY S (c :: t)
  else uw L (c :: t)
theorem F5 (L : List Lt) (S : List fZ) (c : UInt8) (t : Alp.B) : fA L S (c :: t) = if c = 124 \/ c = 42 \/ c = 63 \/ c = 40 \/ c = 41 then (c.toNat, .mk 0 [] [], 1) else if c = 46 then (2, .mk 2 (iC (2 ^ L.length - 1)) [], 1) else if c = 45 then (2, .mk 2 [63] [], 1) else if c = 35 then (2, .mk 2 [62] [], 1) else if c = 123 then jY S (c :: t) else uw L (c :: t) := rfl
end Rgx
theorem TQ {L : List Lt} {s : Alp.B} {w w' : World} {e : Ending} {N0 : Nat} (hn : L.length <= 60) (h : Gs L s w e w') : fu N0 w (uw L s) e w' := by
 obtain ⟨hb, ⟨h0, rfl⟩ | ⟨h0, g, hg, hblk, rfl⟩⟩ := h
 ·exact qO (k := 0) (sz := 0) (by unfold uw; rw [if_pos h0]) hb
 ·refine BZ (by unfold uw; rw [if_neg h0]) (fun x hx => ?_) rfl (Nat.le_refl _) (by decide) (.inr ⟨g, 0, rfl, fun k v hv => by rw [Nat.zero_add]; exact hblk.cell hv⟩) (fun _ b o e => by obtain ⟨rfl, _⟩ : g = b /\ 0 = o := (by simpa using e); exact .inr hg) hb;have h1 := (BU L s L.length).2 h0;rw [List.mem_singleton.1 hx];omega
theorem Sq (L : List Lt) (S : List fZ) (A B : Option Addr) (n c m d : Nat)  (w0 w : World) (hn : n = L.length) (hc : n <= c) (hm : c <= 9223372036854775807) (hS : iU w0 S B m d) (hb0 : Bw w0 w) (hL : Rd w A (lv L)) (hlt : ∀ l ∈ L, l.text.length <= 1000000) (hn60 : n <= 60) (hT : DB w) : Calls Tryz.prog 98 #[.string (tb []), .slice A n c, .slice B m d] w (fu w0.heap.size w (fA L S [])) := by
 have HZ := LH (Bw w (w.alloc zT) /\ ae (w.alloc zT) w.heap.size zM 80) ⟨ai _ _, ae.at w zM _ 80 _ rfl rfl⟩;have HST := LH (∀ W, aT (w.alloc zT) W w.heap.size [.int .u8 1, .int .i64 0, .int .i64 0, .slice none 0 0, .slice none 0 0] 80 -> fu w0.heap.size w (fA L S []) (.returned (.tuple #[.agg #[.int .u8 1, .int .i64 0, .int .i64 0, .slice none 0 0, .slice none 0 0], .int .i64 0])) W /\ ae W w.heap.size [.int .u8 1, .int .i64 0, .int .i64 0, .slice none 0 0, .slice none 0 0] 80) fun W hst => ⟨qO (k := 1) (sz := 0) rfl (hst.below HZ.out.1 (Nat.le_refl _)), hst.1⟩
 clear hS hb0 hL hlt hT hn;have he : (tb []).toList.isEmpty = true := by rw [oN]; rfl
 go_enter Tryz.func98, Tryz.ntmps98
 go_wp2_with (refine wB rfl 80 (.tmp 6) (.tmp 10) rfl w.heap.size 0 rfl [.int .u8 1, .int .i64 0, .int .i64 0, .slice none 0 0, .slice none 0 0] rfl HZ.out.2 5 dX ?_; intro x5 bz; have fH := Lh (HST.out x5 bz); clear bz)
 exact gX rfl w.heap.size rfl (C := [.int .u8 1, .int .i64 0, .int .i64 0, .slice none 0 0, .slice none 0 0]) (T := 80) fH.out.2 _ Tryz.underlying80 rfl dX rfl (.int .i64 0) rfl fH.out.1
theorem Vt (L : List Lt) (S : List fZ) (A B : Option Addr) (n c m d : Nat) (s : Alp.B) (hs : s.length < 1000000) (w0 w : World) (hn : n = L.length) (hc : n <= c) (hm : c <= 9223372036854775807) (hS : iU w0 S B m d) (hb0 : Bw w0 w) (hL : Rd w A (lv L)) (hlt : ∀ l ∈ L, l.text.length <= 1000000) (hn60 : n <= 60) (hT : DB w) : Calls Tryz.prog 98 #[.string (tb (124 :: s)), .slice A n c, .slice B m d] w (fu w0.heap.size w (fA L S (124 :: s))) := by
 have HZ := LH (Bw w (w.alloc zT) /\ ae (w.alloc zT) w.heap.size zM 80) ⟨ai _ _, ae.at w zM _ 80 _ rfl rfl⟩;have HST := LH (∀ W, aT (w.alloc zT) W w.heap.size [.int .u8 124, .int .i64 0, .int .i64 0, .slice none 0 0, .slice none 0 0] 80 -> fu w0.heap.size w (fA L S (124 :: s)) (.returned (.tuple #[.agg #[.int .u8 124, .int .i64 0, .int .i64 0, .slice none 0 0, .slice none 0 0], .int .i64 1])) W /\ ae W w.heap.size [.int .u8 124, .int .i64 0, .int .i64 0, .slice none 0 0, .slice none 0 0] 80) fun W hst => ⟨qO (k := 124) (sz := 1) rfl (hst.below HZ.out.1 (Nat.le_refl _)), hst.1⟩
 clear hS hb0 hL hlt hT hn;have he : (tb (124 :: s)).toList.isEmpty = false := by rw [oN]; rfl
 have hsz : (tb (124 :: s)).size = s.length + 1 := kI _;go_enter Tryz.func98, Tryz.ntmps98
 go_wp2_with (refine wB rfl 80 (.tmp 6) (.tmp 21) rfl w.heap.size 0 rfl [.int .u8 124, .int .i64 0, .int .i64 0, .slice none 0 0, .slice none 0 0] rfl HZ.out.2 5 dX ?_; intro x5 bz; have fH := Lh (HST.out x5 bz); clear bz)
 exact gX rfl w.heap.size rfl (C := [.int .u8 124, .int .i64 0, .int .i64 0, .slice none 0 0, .slice none 0 0]) (T := 80) fH.out.2 _ Tryz.underlying80 rfl dX rfl (.int .i64 1) rfl fH.out.1
theorem U4 (L : List Lt) (S : List fZ) (A B : Option Addr) (n c m d : Nat) (s : Alp.B) (hs : s.length < 1000000) (w0 w : World) (hn : n = L.length) (hc : n <= c) (hm : c <= 9223372036854775807) (hS : iU w0 S B m d) (hb0 : Bw w0 w) (hL : Rd w A (lv L)) (hlt : ∀ l ∈ L, l.text.length <= 1000000) (hn60 : n <= 60) (hT : DB w) : Calls Tryz.prog 98 #[.string (tb (42 :: s)), .slice A n c, .slice B m d] w (fu w0.heap.size w (fA L S (42 :: s))) := by
 have HZ := LH (Bw w (w.alloc zT) /\ ae (w.alloc zT) w.heap.size zM 80) ⟨ai _ _, ae.at w zM _ 80 _ rfl rfl⟩;have HST := LH (∀ W, aT (w.alloc zT) W w.heap.size [.int .u8 42, .int .i64 0, .int .i64 0, .slice none 0 0, .slice none 0 0] 80 -> fu w0.heap.size w (fA L S (42 :: s)) (.returned (.tuple #[.agg #[.int .u8 42, .int .i64 0, .int .i64 0, .slice none 0 0, .slice none 0 0], .int .i64 1])) W /\ ae W w.heap.size [.int .u8 42, .int .i64 0, .int .i64 0, .slice none 0 0, .slice none 0 0] 80) fun W hst => ⟨qO (k := 42) (sz := 1) rfl (hst.below HZ.out.1 (Nat.le_refl _)), hst.1⟩
 clear hS hb0 hL hlt hT hn;have he : (tb (42 :: s)).toList.isEmpty = false := by rw [oN]; rfl
 have hsz : (tb (42 :: s)).size = s.length + 1 := kI _;go_enter Tryz.func98, Tryz.ntmps98
 go_wp2_with (refine wB rfl 80 (.tmp 6) (.tmp 21) rfl w.heap.size 0 rfl [.int .u8 42, .int .i64 0, .int .i64 0, .slice none 0 0, .slice none 0 0] rfl HZ.out.2 5 dX ?_; intro x5 bz; have fH := Lh (HST.out x5 bz); clear bz)
 exact gX rfl w.heap.size rfl (C := [.int .u8 42, .int .i64 0, .int .i64 0, .slice none 0 0, .slice none 0 0]) (T := 80) fH.out.2 _ Tryz.underlying80 rfl dX rfl (.int .i64 1) rfl fH.out.1
theorem Vy (L : List Lt) (S : List fZ) (A B : Option Addr) (n c m d : Nat) (s : Alp.B) (hs : s.length < 1000000) (w0 w : World) (hn : n = L.length) (hc : n <= c) (hm : c <= 9223372036854775807) (hS : iU w0 S B m d) (hb0 : Bw w0 w) (hL : Rd w A (lv L)) (hlt : ∀ l ∈ L, l.text.length <= 1000000) (hn60 : n <= 60) (hT : DB w) : Calls Tryz.prog 98 #[.string (tb (63 :: s)), .slice A n c, .slice B m d] w (fu w0.heap.size w (fA L S (63 :: s))) := by
 have HZ := LH (Bw w (w.alloc zT) /\ ae (w.alloc zT) w.heap.size zM 80) ⟨ai _ _, ae.at w zM _ 80 _ rfl rfl⟩;have HST := LH (∀ W, aT (w.alloc zT) W w.heap.size [.int .u8 63, .int .i64 0, .int .i64 0, .slice none 0 0, .slice none 0 0] 80 -> fu w0.heap.size w (fA L S (63 :: s)) (.returned (.tuple #[.agg #[.int .u8 63, .int .i64 0, .int .i64 0, .slice none 0 0, .slice none 0 0], .int .i64 1])) W /\ ae W w.heap.size [.int .u8 63, .int .i64 0, .int .i64 0, .slice none 0 0, .slice none 0 0] 80) fun W hst => ⟨qO (k := 63) (sz := 1) rfl (hst.below HZ.out.1 (Nat.le_refl _)), hst.1⟩
 clear hS hb0 hL hlt hT hn;have he : (tb (63 :: s)).toList.isEmpty = false := by rw [oN]; rfl
 have hsz : (tb (63 :: s)).size = s.length + 1 := kI _;go_enter Tryz.func98, Tryz.ntmps98
 go_wp2_with (refine wB rfl 80 (.tmp 6) (.tmp 21) rfl w.heap.size 0 rfl [.int .u8 63, .int .i64 0, .int .i64 0, .slice none 0 0, .slice none 0 0] rfl HZ.out.2 5 dX ?_; intro x5 bz; have fH := Lh (HST.out x5 bz); clear bz)
 exact gX rfl w.heap.size rfl (C := [.int .u8 63, .int .i64 0, .int .i64 0, .slice none 0 0, .slice none 0 0]) (T := 80) fH.out.2 _ Tryz.underlying80 rfl dX rfl (.int .i64 1) rfl fH.out.1
theorem U8 (L : List Lt) (S : List fZ) (A B : Option Addr) (n c m d : Nat) (s : Alp.B) (hs : s.length < 1000000) (w0 w : World) (hn : n = L.length) (hc : n <= c) (hm : c <= 9223372036854775807) (hS : iU w0 S B m d) (hb0 : Bw w0 w) (hL : Rd w A (lv L)) (hlt : ∀ l ∈ L, l.text.length <= 1000000) (hn60 : n <= 60) (hT : DB w) : Calls Tryz.prog 98 #[.string (tb (40 :: s)), .slice A n c, .slice B m d] w (fu w0.heap.size w (fA L S (40 :: s))) := by
 have HZ := LH (Bw w (w.alloc zT) /\ ae (w.alloc zT) w.heap.size zM 80) ⟨ai _ _, ae.at w zM _ 80 _ rfl rfl⟩;have HST := LH (∀ W, aT (w.alloc zT) W w.heap.size [.int .u8 40, .int .i64 0, .int .i64 0, .slice none 0 0, .slice none 0 0] 80 -> fu w0.heap.size w (fA L S (40 :: s)) (.returned (.tuple #[.agg #[.int .u8 40, .int .i64 0, .int .i64 0, .slice none 0 0, .slice none 0 0], .int .i64 1])) W /\ ae W w.heap.size [.int .u8 40, .int .i64 0, .int .i64 0, .slice none 0 0, .slice none 0 0] 80) fun W hst => ⟨qO (k := 40) (sz := 1) rfl (hst.below HZ.out.1 (Nat.le_refl _)), hst.1⟩
 clear hS hb0 hL hlt hT hn;have he : (tb (40 :: s)).toList.isEmpty = false := by rw [oN]; rfl
 have hsz : (tb (40 :: s)).size = s.length + 1 := kI _;go_enter Tryz.func98, Tryz.ntmps98
 go_wp2_with (refine wB rfl 80 (.tmp 6) (.tmp 21) rfl w.heap.size 0 rfl [.int .u8 40, .int .i64 0, .int .i64 0, .slice none 0 0, .slice none 0 0] rfl HZ.out.2 5 dX ?_; intro x5 bz; have fH := Lh (HST.out x5 bz); clear bz)
 exact gX rfl w.heap.size rfl (C := [.int .u8 40, .int .i64 0, .int .i64 0, .slice none 0 0, .slice none 0 0]) (T := 80) fH.out.2 _ Tryz.underlying80 rfl dX rfl (.int .i64 1) rfl fH.out.1
theorem Wx (L : List Lt) (S : List fZ) (A B : Option Addr) (n c m d : Nat) (s : Alp.B) (hs : s.length < 1000000) (w0 w : World) (hn : n = L.length) (hc : n <= c) (hm : c <= 9223372036854775807) (hS : iU w0 S B m d) (hb0 : Bw w0 w) (hL : Rd w A (lv L)) (hlt : ∀ l ∈ L, l.text.length <= 1000000) (hn60 : n <= 60) (hT : DB w) : Calls Tryz.prog 98 #[.string (tb (41 :: s)), .slice A n c, .slice B m d] w (fu w0.heap.size w (fA L S (41 :: s))) := by
 have HZ := LH (Bw w (w.alloc zT) /\ ae (w.alloc zT) w.heap.size zM 80) ⟨ai _ _, ae.at w zM _ 80 _ rfl rfl⟩;have HST := LH (∀ W, aT (w.alloc zT) W w.heap.size [.int .u8 41, .int .i64 0, .int .i64 0, .slice none 0 0, .slice none 0 0] 80 -> fu w0.heap.size w (fA L S (41 :: s)) (.returned (.tuple #[.agg #[.int .u8 41, .int .i64 0, .int .i64 0, .slice none 0 0, .slice none 0 0], .int .i64 1])) W /\ ae W w.heap.size [.int .u8 41, .int .i64 0, .int .i64 0, .slice none 0 0, .slice none 0 0] 80) fun W hst => ⟨qO (k := 41) (sz := 1) rfl (hst.below HZ.out.1 (Nat.le_refl _)), hst.1⟩
 clear hS hb0 hL hlt hT hn;have he : (tb (41 :: s)).toList.isEmpty = false := by rw [oN]; rfl
 have hsz : (tb (41 :: s)).size = s.length + 1 := kI _;go_enter Tryz.func98, Tryz.ntmps98
 go_wp2_with (refine wB rfl 80 (.tmp 6) (.tmp 21) rfl w.heap.size 0 rfl [.int .u8 41, .int .i64 0, .int .i64 0, .slice none 0 0, .slice none 0 0] rfl HZ.out.2 5 dX ?_; intro x5 bz; have fH := Lh (HST.out x5 bz); clear bz)
 exact gX rfl w.heap.size rfl (C := [.int .u8 41, .int .i64 0, .int .i64 0, .slice none 0 0, .slice none 0 0]) (T := 80) fH.out.2 _ Tryz.underlying80 rfl dX rfl (.int .i64 1) rfl fH.out.1
theorem Uj (L : List Lt) (S : List fZ) (A B : Option Addr) (n c m d : Nat) (s : Alp.B) (hs : s.length < 1000000) (w0 w : World) (hn : n = L.length) (hc : n <= c) (hm : c <= 9223372036854775807) (hS : iU w0 S B m d) (hb0 : Bw w0 w) (hL : Rd w A (lv L)) (hlt : ∀ l ∈ L, l.text.length <= 1000000) (hn60 : n <= 60) (hT : DB w) : Calls Tryz.prog 98 #[.string (tb (45 :: s)), .slice A n c, .slice B m d] w (fu w0.heap.size w (fA L S (45 :: s))) := by
 have HZ := LH (Bw w (w.alloc zT) /\ ae (w.alloc zT) w.heap.size zM 80) ⟨ai _ _, ae.at w zM _ 80 _ rfl rfl⟩;have yN := LH (Cz 127 #[.slice (pt (w.heap.size + 1)) 1 1] ((w.alloc zT).alloc (.cells #[.int .i64 63] 3)) (xq ((w.alloc zT).alloc (.cells #[.int .i64 63] 3)) (pt (w.heap.size + 1)) 1 1)) (CE _ _ _ _);have HST := LH (∀ x4, Below ((w.alloc zT).alloc (.cells #[.int .i64 63] 3)).heap.size ((w.alloc zT).alloc (.cells #[.int .i64 63] 3)) x4 -> ae x4 w.heap.size zM 80 /\ ∀ W, aT x4 W w.heap.size [.int .u8 2, .int .i64 0, .int .i64 2, .slice (pt (w.heap.size + 1)) 1 1, .slice none 0 0] 80 -> fu w0.heap.size w (fA L S (45 :: s)) (.returned (.tuple #[.agg #[.int .u8 2, .int .i64 0, .int .i64 2, .slice (pt (w.heap.size + 1)) 1 1, .slice none 0 0], .int .i64 1])) W /\ ae W w.heap.size [.int .u8 2, .int .i64 0, .int .i64 2, .slice (pt (w.heap.size + 1)) 1 1, .slice none 0 0] 80) fun x4 hb => by
  have h1 : ae ((w.alloc zT).alloc (.cells #[.int .i64 63] 3)) (w.heap.size + 1) [.int .i64 63] 3 := ae.at (w.alloc zT) _ _ 3 _ rfl (by simp);have h2 := HZ.out.2.alloc (Obj.cells #[.int .i64 63] 3);have h3 := h1.below hb h1.lt;refine ⟨h2.below hb h2.lt, fun W hst => ⟨?_, hst.1⟩⟩;have h4 := hst.other h3 (by omega);exact BZ (s := [63]) (sz := 1) rfl (by decide) rfl (Nat.le_refl _) (by decide) (.inr ⟨w.heap.size + 1, 0, rfl, fun k v hv => by rw [Nat.zero_add]; exact h4.cell hv⟩) (fun _ b o e => by obtain ⟨rfl, _⟩ : w.heap.size + 1 = b /\ 0 = o := (by simpa using e); exact .inr (by omega)) (hst.below ((aF HZ.out.1 _).trans (hb.mono (aF HZ.out.1 _).size)) (Nat.le_refl _))
 clear hS hb0 hL hlt hT hn;have he : (tb (45 :: s)).toList.isEmpty = false := by rw [oN]; rfl
 have hsz : (tb (45 :: s)).size = s.length + 1 := kI _;go_enter Tryz.func98, Tryz.ntmps98
 go_wp2_with (first
  |((with_reducible refine yN.out.mono ?_); rintro e x4 hp; obtain ⟨rfl, h1⟩ := CK hp; have H4 := Lh (HST.out x4 h1); clear hp h1)
  |(refine wB rfl 80 (.tmp 6) (.tmp 33) rfl w.heap.size 0 rfl [.int .u8 2, .int .i64 0, .int .i64 2, .slice (pt (w.heap.size + 1)) 1 1, .slice none 0 0] rfl H4.out.1 5 dX ?_; intro x5 bz; have fH := Lh (H4.out.2 x5 bz); clear bz))
 exact gX rfl w.heap.size rfl (C := [.int .u8 2, .int .i64 0, .int .i64 2, .slice (pt (w.heap.size + 1)) 1 1, .slice none 0 0]) (T := 80) fH.out.2 _ Tryz.underlying80 rfl dX rfl (.int .i64 1) rfl fH.out.1
theorem Vp (L : List Lt) (S : List fZ) (A B : Option Addr) (n c m d : Nat) (s : Alp.B) (hs : s.length < 1000000) (w0 w : World) (hn : n = L.length) (hc : n <= c) (hm : c <= 9223372036854775807) (hS : iU w0 S B m d) (hb0 : Bw w0 w) (hL : Rd w A (lv L)) (hlt : ∀ l ∈ L, l.text.length <= 1000000) (hn60 : n <= 60) (hT : DB w) : Calls Tryz.prog 98 #[.string (tb (35 :: s)), .slice A n c, .slice B m d] w (fu w0.heap.size w (fA L S (35 :: s))) := by
 have HZ := LH (Bw w (w.alloc zT) /\ ae (w.alloc zT) w.heap.size zM 80) ⟨ai _ _, ae.at w zM _ 80 _ rfl rfl⟩;have yN := LH (Cz 127 #[.slice (pt (w.heap.size + 1)) 1 1] ((w.alloc zT).alloc (.cells #[.int .i64 62] 3)) (xq ((w.alloc zT).alloc (.cells #[.int .i64 62] 3)) (pt (w.heap.size + 1)) 1 1)) (CE _ _ _ _);have HST := LH (∀ x4, Below ((w.alloc zT).alloc (.cells #[.int .i64 62] 3)).heap.size ((w.alloc zT).alloc (.cells #[.int .i64 62] 3)) x4 -> ae x4 w.heap.size zM 80 /\ ∀ W, aT x4 W w.heap.size [.int .u8 2, .int .i64 0, .int .i64 2, .slice (pt (w.heap.size + 1)) 1 1, .slice none 0 0] 80 -> fu w0.heap.size w (fA L S (35 :: s)) (.returned (.tuple #[.agg #[.int .u8 2, .int .i64 0, .int .i64 2, .slice (pt (w.heap.size + 1)) 1 1, .slice none 0 0], .int .i64 1])) W /\ ae W w.heap.size [.int .u8 2, .int .i64 0, .int .i64 2, .slice (pt (w.heap.size + 1)) 1 1, .slice none 0 0] 80) fun x4 hb => by
  have h1 : ae ((w.alloc zT).alloc (.cells #[.int .i64 62] 3)) (w.heap.size + 1) [.int .i64 62] 3 := ae.at (w.alloc zT) _ _ 3 _ rfl (by simp);have h2 := HZ.out.2.alloc (Obj.cells #[.int .i64 62] 3);have h3 := h1.below hb h1.lt;refine ⟨h2.below hb h2.lt, fun W hst => ⟨?_, hst.1⟩⟩;have h4 := hst.other h3 (by omega);exact BZ (s := [62]) (sz := 1) rfl (by decide) rfl (Nat.le_refl _) (by decide) (.inr ⟨w.heap.size + 1, 0, rfl, fun k v hv => by rw [Nat.zero_add]; exact h4.cell hv⟩) (fun _ b o e => by obtain ⟨rfl, _⟩ : w.heap.size + 1 = b /\ 0 = o := (by simpa using e); exact .inr (by omega)) (hst.below ((aF HZ.out.1 _).trans (hb.mono (aF HZ.out.1 _).size)) (Nat.le_refl _))
 clear hS hb0 hL hlt hT hn;have he : (tb (35 :: s)).toList.isEmpty = false := by rw [oN]; rfl
 have hsz : (tb (35 :: s)).size = s.length + 1 := kI _;go_enter Tryz.func98, Tryz.ntmps98
 go_wp2_with (first
  |((with_reducible refine yN.out.mono ?_); rintro e x4 hp; obtain ⟨rfl, h1⟩ := CK hp; have H4 := Lh (HST.out x4 h1); clear hp h1)
  |(refine wB rfl 80 (.tmp 6) (.tmp 37) rfl w.heap.size 0 rfl [.int .u8 2, .int .i64 0, .int .i64 2, .slice (pt (w.heap.size + 1)) 1 1, .slice none 0 0] rfl H4.out.1 5 dX ?_; intro x5 bz; have fH := Lh (H4.out.2 x5 bz); clear bz))
 exact gX rfl w.heap.size rfl (C := [.int .u8 2, .int .i64 0, .int .i64 2, .slice (pt (w.heap.size + 1)) 1 1, .slice none 0 0]) (T := 80) fH.out.2 _ Tryz.underlying80 rfl dX rfl (.int .i64 1) rfl fH.out.1
theorem VH (L : List Lt) (S : List fZ) (A B : Option Addr) (n c m d : Nat) (s : Alp.B) (hs : s.length < 1000000) (w0 w : World) (hn : n = L.length) (hc : n <= c) (hm : c <= 9223372036854775807) (hS : iU w0 S B m d) (hb0 : Bw w0 w) (hL : Rd w A (lv L)) (hlt : ∀ l ∈ L, l.text.length <= 1000000) (hn60 : n <= 60) (hT : DB w) : Calls Tryz.prog 98 #[.string (tb (46 :: s)), .slice A n c, .slice B m d] w (fu w0.heap.size w (fA L S (46 :: s))) := by
 have HZ := LH (Bw w (w.alloc zT) /\ ae (w.alloc zT) w.heap.size zM 80) ⟨ai _ _, ae.at w zM _ 80 _ rfl rfl⟩;obtain ⟨P, hP⟩ := eX (2 ^ n);have Hl : P < 18446744073709551616 := by
  rw [hP, show 18446744073709551616 = 2 ^ 64 from rfl];exact Nat.pow_lt_pow_right (by omega) (by omega)
 have hP1 : 1 <= P := by rw [hP]; exact Nat.one_le_two_pow
 have eP : IntKind.u64.wrap (2 ^ n) = (P : Int) := by
  rw [IntKind.wrap_u64, hP];have h2 : ((2 : Int) ^ n) = ((2 ^ n : Nat) : Int) := by norm_cast
  rw [h2, <- hP]; omega
 obtain ⟨Q, hQ⟩ := eX (P - 1);have eQ : IntKind.u64.wrap ((P : Int) - 1) = (Q : Int) := by rw [IntKind.wrap_u64]; omega
 have mV := LH (Cz 118 #[.int .u64 (Q : Int)] (w.alloc zT) (Gz (w.alloc zT) (iC Q))) (Mk Q (by omega) (w.alloc zT) (hT.below (ai _ _)));have HST := LH (∀ x3 A4 n4 c4, Below (w.alloc zT).heap.size (w.alloc zT) x3 -> n4 = (iC Q).length -> n4 <= c4 -> c4 <= maxLen -> Rd x3 A4 (iv (iC Q)) -> (∀ b o, A4 = some ⟨b, o, none⟩ -> (w.alloc zT).heap.size <= b /\ b < x3.heap.size) -> ∀ x4, Bw x3 x4 -> ae x4 w.heap.size zM 80 /\ ∀ W, aT x4 W w.heap.size [.int .u8 2, .int .i64 0, .int .i64 2, .slice A4 n4 c4, .slice none 0 0] 80 -> fu w0.heap.size w (fA L S (46 :: s)) (.returned (.tuple #[.agg #[.int .u8 2, .int .i64 0, .int .i64 2, .slice A4 n4 c4, .slice none 0 0], .int .i64 1])) W /\ ae W w.heap.size [.int .u8 2, .int .i64 0, .int .i64 2, .slice A4 n4 c4, .slice none 0 0] 80) fun x3 A4 n4 c4 hb3 g1 g2 g3 g4 g5 x4 hb4 => by
  have hb := hb3.trans (hb4.mono hb3.size);refine ⟨HZ.out.2.below hb HZ.out.2.lt, fun W hst => ⟨?_, hst.1⟩⟩;have hs1 : (w.alloc zT).heap.size = w.heap.size + 1 := by simp
  have hr : Rd W A4 (iv (iC Q)) := by
   rcases g4.below hb4 with h | ⟨b, o, e, h⟩
   · exact .inl h
   · exact .inr ⟨b, o, e, fun k v hv => hst.cell (by have := (g5 b o e).1; omega) (h k v hv)⟩
  exact BZ (s := iC Q) (sz := 1) (by rw [hQ, hP, hn]; rfl) (fun x hx => (zQ.1 hx).1) g1 g2 (by unfold maxLen at g3; exact g3) hr (fun _ b o e => .inr (by have := (g5 b o e).1; omega)) (hst.below (HZ.out.1.trans (hb.mono HZ.out.1.size)) (Nat.le_refl _))
 clear hS hb0 hL hlt hT hP hQ hn;have he : (tb (46 :: s)).toList.isEmpty = false := by rw [oN]; rfl
 have hsz : (tb (46 :: s)).size = s.length + 1 := kI _;go_enter Tryz.func98, Tryz.ntmps98
 go_wp2_with (first
  |((with_reducible refine mV.out.mono ?_); rintro e x3 hp; obtain ⟨A4, n4, c4, rfl, g1, g2, g3, g4, g5, g6⟩ := Oq hp; have H3 := Lh (HST.out x3 A4 n4 c4 g6 g1 g2 g3 g4 g5); have yN := LH (Cz 127 #[.slice A4 n4 c4] x3 (xq x3 A4 n4 c4)) (CE _ _ _ _); clear hp g1 g2 g3 g4 g5 g6)
  |((with_reducible refine yN.out.mono ?_); rintro e x4 hp; obtain ⟨rfl, h1⟩ := CK hp; have H4 := Lh (H3.out x4 h1); clear hp h1)
  |(refine wB rfl 80 (.tmp 6) (.tmp 29) rfl w.heap.size 0 rfl [.int .u8 2, .int .i64 0, .int .i64 2, .slice A4 n4 c4, .slice none 0 0] rfl H4.out.1 5 dX ?_; intro x5 bz; have fH := Lh (H4.out.2 x5 bz); clear bz))
 exact gX rfl w.heap.size rfl (C := [.int .u8 2, .int .i64 0, .int .i64 2, .slice A4 n4 c4, .slice none 0 0]) (T := 80) fH.out.2 _ Tryz.underlying80 rfl dX rfl (.int .i64 1) rfl fH.out.1
theorem MF {N0 : Nat} {w x4 : World} {t : Nat × Rx × Nat} {A B : Option Addr} {n c m d : Nat} (hN : N0 <= w.heap.size) (h : ak (fun b => b < N0 \/ (w.alloc zT).heap.size <= b) x4 t.2.1 A n c B m d) (hb : Below (w.alloc zT).heap.size (w.alloc zT) x4) : ae x4 w.heap.size zM 80 /\ ∀ W, aT x4 W w.heap.size [.int .u8 (t.1 : Int), .int .i64 0, .int .i64 t.2.1.kind, .slice A n c, .slice B m d] 80 -> fu N0 w t (.returned (.tuple #[.agg #[.int .u8 (t.1 : Int), .int .i64 0, .int .i64 t.2.1.kind, .slice A n c, .slice B m d], .int .i64 (t.2.2 : Int)])) W /\ ae W w.heap.size [.int .u8 (t.1 : Int), .int .i64 0, .int .i64 t.2.1.kind, .slice A n c, .slice B m d] 80 := by
 have hz : ae (w.alloc zT) w.heap.size zM 80 := ae.at w zM _ 80 _ rfl rfl;have hs1 : (w.alloc zT).heap.size = w.heap.size + 1 := by simp
 refine ⟨hz.below hb hz.lt, fun W hst => ⟨⟨A, n, c, B, m, d, rfl, ?_, ?_⟩, hst.1⟩⟩
 ·exact (h.grown (dG hst) (fun b hb e => by have := Option.some.inj e; omega)).mono fun b hb => hb.imp id fun h => by omega
 ·exact hst.below ((ai w _).trans (hb.mono (ai w _).size)) (Nat.le_refl _)
theorem U2 (L : List Lt) (S : List fZ) (A B : Option Addr) (n c m d : Nat) (s : Alp.B) (hs : s.length < 1000000) (w0 w : World) (hn : n = L.length) (hc : n <= c) (hm : c <= 9223372036854775807) (hS : iU w0 S B m d) (hb0 : Bw w0 w) (hL : Rd w A (lv L)) (hlt : ∀ l ∈ L, l.text.length <= 1000000) (hn60 : n <= 60) (hT : DB w) : Calls Tryz.prog 98 #[.string (tb (123 :: s)), .slice A n c, .slice B m d] w (fu w0.heap.size w (fA L S (123 :: s))) := by
 obtain ⟨t, ht⟩ := eX (jY S (123 :: s));have HTP := LH (fA L S (123 :: s) = t) (by rw [ht]; rfl);have iw := LH (Cz 128 #[.string (tb (123 :: s)), .slice B m d] (w.alloc zT) (fu w0.heap.size (w.alloc zT) t)) (by rw [ht]; exact Ub S B m d (123 :: s) (by simp; omega) w0 (w.alloc zT) hS (hb0.trans ((ai w _).mono hb0.size)) rfl);have tF := LH (w0.heap.size <= w.heap.size) hb0.size;rw [HTP.out];obtain ⟨T1, lg⟩ := eX t.1;obtain ⟨K, hK⟩ := eX t.2.1.kind;obtain ⟨T3, qA⟩ := eX t.2.2;have HST := LH (∀ x4 A4 n4 c4 B4 m4 d4, ak (fun b => b < w0.heap.size \/ (w.alloc zT).heap.size <= b) x4 t.2.1 A4 n4 c4 B4 m4 d4 -> Below (w.alloc zT).heap.size (w.alloc zT) x4 -> ae x4 w.heap.size zM 80 /\ ∀ W, aT x4 W w.heap.size [.int .u8 (T1 : Int), .int .i64 0, .int .i64 K, .slice A4 n4 c4, .slice B4 m4 d4] 80 -> fu w0.heap.size w t (.returned (.tuple #[.agg #[.int .u8 (T1 : Int), .int .i64 0, .int .i64 K, .slice A4 n4 c4, .slice B4 m4 d4], .int .i64 (T3 : Int)])) W /\ ae W w.heap.size [.int .u8 (T1 : Int), .int .i64 0, .int .i64 K, .slice A4 n4 c4, .slice B4 m4 d4] 80) fun x4 A4 n4 c4 B4 m4 d4 h hb => by rw [lg, hK, qA]; exact MF tF.out h hb
 have AA := LH (∀ e x4, fu w0.heap.size (w.alloc zT) t e x4 -> ∃ A4 n4 c4 B4 m4 d4, e = .returned (.tuple #[.agg #[.int .u8 (T1 : Int), .int .i64 0, .int .i64 K, .slice A4 n4 c4, .slice B4 m4 d4], .int .i64 (T3 : Int)]) /\ ak (fun b => b < w0.heap.size \/ (w.alloc zT).heap.size <= b) x4 t.2.1 A4 n4 c4 B4 m4 d4 /\ Below (w.alloc zT).heap.size (w.alloc zT) x4) fun e x4 h => by rw [lg, hK, qA]; exact Jf h
 clear hS hb0 hL hlt hT hn ht lg hK qA;have he : (tb (123 :: s)).toList.isEmpty = false := by rw [oN]; rfl
 have hsz : (tb (123 :: s)).size = s.length + 1 := kI _;go_enter Tryz.func98, Tryz.ntmps98
 go_wp2_with (first
  |((with_reducible refine iw.out.mono ?_); rintro e x4 hp; obtain ⟨A4, n4, c4, B4, m4, d4, rfl, g1, g2⟩ := AA.out e x4 hp; have H4 := Lh (HST.out x4 A4 n4 c4 B4 m4 d4 g1 g2); clear hp g1 g2)
  |(refine wB rfl 80 (.tmp 6) (.tmp 43) rfl w.heap.size 0 rfl [.int .u8 (T1 : Int), .int .i64 0, .int .i64 K, .slice A4 n4 c4, .slice B4 m4 d4] rfl H4.out.1 5 dX ?_; intro x5 bz; have fH := Lh (H4.out.2 x5 bz); clear bz))
 exact gX rfl w.heap.size rfl (C := [.int .u8 (T1 : Int), .int .i64 0, .int .i64 K, .slice A4 n4 c4, .slice B4 m4 d4]) (T := 80) fH.out.2 _ Tryz.underlying80 rfl dX rfl (.int .i64 (T3 : Int)) rfl fH.out.1
theorem Vq (L : List Lt) (S : List fZ) (A B : Option Addr) (n c m d : Nat) (s : Alp.B) (hs : s.length < 1000000) (k : UInt8) (hk : k ≠ 124 /\ k ≠ 42 /\ k ≠ 63 /\ k ≠ 40 /\ k ≠ 41 /\ k ≠ 46 /\ k ≠ 45 /\ k ≠ 35 /\ k ≠ 123) (w0 w : World) (hn : n = L.length) (hc : n <= c) (hm : c <= 9223372036854775807) (hS : iU w0 S B m d) (hb0 : Bw w0 w) (hL : Rd w A (lv L)) (hlt : ∀ l ∈ L, l.text.length <= 1000000) (hn60 : n <= 60) (hT : DB w) : Calls Tryz.prog 98 #[.string (tb (k :: s)), .slice A n c, .slice B m d] w (fu w0.heap.size w (fA L S (k :: s))) := by
 obtain ⟨t, ht⟩ := eX (uw L (k :: s));have HTP := LH (fA L S (k :: s) = t) (by rw [F5, if_neg (by simp [hk]), if_neg (by simp [hk]), if_neg (by simp [hk]), if_neg (by simp [hk]), if_neg (by simp [hk]), ht]);have iw := LH (Cz 129 #[.string (tb (k :: s)), .slice A n c] (w.alloc zT) (fu w0.heap.size (w.alloc zT) t)) (by rw [ht]; exact (Tc L A n c hn hc hm (k :: s) (by simp; omega) (w.alloc zT) (hL.below (ai _ _)) hlt).mono fun e w1 h => TQ (N0 := w0.heap.size) (by omega) h);have tF := LH (w0.heap.size <= w.heap.size) hb0.size;rw [HTP.out];obtain ⟨T1, lg⟩ := eX t.1;obtain ⟨K, hK⟩ := eX t.2.1.kind;obtain ⟨T3, qA⟩ := eX t.2.2;have HST := LH (∀ x4 A4 n4 c4 B4 m4 d4, ak (fun b => b < w0.heap.size \/ (w.alloc zT).heap.size <= b) x4 t.2.1 A4 n4 c4 B4 m4 d4 -> Below (w.alloc zT).heap.size (w.alloc zT) x4 -> ae x4 w.heap.size zM 80 /\ ∀ W, aT x4 W w.heap.size [.int .u8 (T1 : Int), .int .i64 0, .int .i64 K, .slice A4 n4 c4, .slice B4 m4 d4] 80 -> fu w0.heap.size w t (.returned (.tuple #[.agg #[.int .u8 (T1 : Int), .int .i64 0, .int .i64 K, .slice A4 n4 c4, .slice B4 m4 d4], .int .i64 (T3 : Int)])) W /\ ae W w.heap.size [.int .u8 (T1 : Int), .int .i64 0, .int .i64 K, .slice A4 n4 c4, .slice B4 m4 d4] 80) fun x4 A4 n4 c4 B4 m4 d4 h hb => by rw [lg, hK, qA]; exact MF tF.out h hb
 have AA := LH (∀ e x4, fu w0.heap.size (w.alloc zT) t e x4 -> ∃ A4 n4 c4 B4 m4 d4, e = .returned (.tuple #[.agg #[.int .u8 (T1 : Int), .int .i64 0, .int .i64 K, .slice A4 n4 c4, .slice B4 m4 d4], .int .i64 (T3 : Int)]) /\ ak (fun b => b < w0.heap.size \/ (w.alloc zT).heap.size <= b) x4 t.2.1 A4 n4 c4 B4 m4 d4 /\ Below (w.alloc zT).heap.size (w.alloc zT) x4) fun e x4 h => by rw [lg, hK, qA]; exact Jf h
 clear hS hb0 hL hlt hT hn ht lg hK qA;have he : (tb (k :: s)).toList.isEmpty = false := by rw [oN]; rfl
 have hsz : (tb (k :: s)).size = s.length + 1 := kI _;obtain ⟨z, hz⟩ : ∃ z : Nat, z = k.toNat := ⟨_, rfl⟩;have hz0 : ((tb (k :: s))[0]'(by rw [hsz]; omega)).toNat = z := by rw [hz]; rfl
 have pg : ∀ q : UInt8, k ≠ q -> z ≠ q.toNat := fun q hq e => hq (UInt8.toNat_inj.1 (by rw [<- hz]; exact e))
 have z124 : z ≠ 124 := pg 124 hk.1;have zc124 : ((z : Int) == 124) = false := bF (by omega);clear z124;have z42 : z ≠ 42 := pg 42 hk.2.1;have zc42 : ((z : Int) == 42) = false := bF (by omega);clear z42;have z63 : z ≠ 63 := pg 63 hk.2.2.1;have zc63 : ((z : Int) == 63) = false := bF (by omega);clear z63;have z40 : z ≠ 40 := pg 40 hk.2.2.2.1;have zc40 : ((z : Int) == 40) = false := bF (by omega);clear z40;have z41 : z ≠ 41 := pg 41 hk.2.2.2.2.1;have zc41 : ((z : Int) == 41) = false := bF (by omega);clear z41;have z46 : z ≠ 46 := pg 46 hk.2.2.2.2.2.1;have zc46 : ((z : Int) == 46) = false := bF (by omega);clear z46;have z45 : z ≠ 45 := pg 45 hk.2.2.2.2.2.2.1;have zc45 : ((z : Int) == 45) = false := bF (by omega);clear z45;have z35 : z ≠ 35 := pg 35 hk.2.2.2.2.2.2.2.1;have zc35 : ((z : Int) == 35) = false := bF (by omega);clear z35;have z123 : z ≠ 123 := pg 123 hk.2.2.2.2.2.2.2.2;have zc123 : ((z : Int) == 123) = false := bF (by omega);clear z123;clear pg hz hk;go_enter Tryz.func98, Tryz.ntmps98
 go_wp2_with (first
  |((with_reducible refine iw.out.mono ?_); rintro e x4 hp; obtain ⟨A4, n4, c4, B4, m4, d4, rfl, g1, g2⟩ := AA.out e x4 hp; have H4 := Lh (HST.out x4 A4 n4 c4 B4 m4 d4 g1 g2); clear hp g1 g2)
  |(refine wB rfl 80 (.tmp 6) (.tmp 48) rfl w.heap.size 0 rfl [.int .u8 (T1 : Int), .int .i64 0, .int .i64 K, .slice A4 n4 c4, .slice B4 m4 d4] rfl H4.out.1 5 dX ?_; intro x5 bz; have fH := Lh (H4.out.2 x5 bz); clear bz))
 exact gX rfl w.heap.size rfl (C := [.int .u8 (T1 : Int), .int .i64 0, .int .i64 K, .slice A4 n4 c4, .slice B4 m4 d4]) (T := 80) fH.out.2 _ Tryz.underlying80 rfl dX rfl (.int .i64 (T3 : Int)) rfl fH.out.1
theorem UJ (L : List Lt) (S : List fZ) (A B : Option Addr) (n c m d : Nat) (s : Alp.B) (hs : s.length <= 1000000) (w0 w : World) (hn : n = L.length) (hc : n <= c) (hm : c <= 9223372036854775807) (hS : iU w0 S B m d) (hb0 : Bw w0 w) (hL : Rd w A (lv L)) (hlt : ∀ l ∈ L, l.text.length <= 1000000) (hn60 : n <= 60) (hT : DB w) : Calls Tryz.prog 98 #[.string (tb s), .slice A n c, .slice B m d] w (fu w0.heap.size w (fA L S s)) := by
 match s, hs with
 |[], _ => exact Sq L S A B n c m d w0 w hn hc hm hS hb0 hL hlt hn60 hT
 |k :: s, hs =>
  have hs' : s.length < 1000000 := by simp at hs; omega
  by_cases h124 : k = 124
  ·subst h124; exact Vt L S A B n c m d s hs' w0 w hn hc hm hS hb0 hL hlt hn60 hT
  by_cases h42 : k = 42
  ·subst h42; exact U4 L S A B n c m d s hs' w0 w hn hc hm hS hb0 hL hlt hn60 hT
  by_cases h63 : k = 63
  ·subst h63; exact Vy L S A B n c m d s hs' w0 w hn hc hm hS hb0 hL hlt hn60 hT
  by_cases h40 : k = 40
  ·subst h40; exact U8 L S A B n c m d s hs' w0 w hn hc hm hS hb0 hL hlt hn60 hT
  by_cases h41 : k = 41
  ·subst h41; exact Wx L S A B n c m d s hs' w0 w hn hc hm hS hb0 hL hlt hn60 hT
  by_cases h46 : k = 46
  ·subst h46; exact VH L S A B n c m d s hs' w0 w hn hc hm hS hb0 hL hlt hn60 hT
  by_cases h45 : k = 45
  ·subst h45; exact Uj L S A B n c m d s hs' w0 w hn hc hm hS hb0 hL hlt hn60 hT
  by_cases h35 : k = 35
  ·subst h35; exact Vp L S A B n c m d s hs' w0 w hn hc hm hS hb0 hL hlt hn60 hT
  by_cases Ha : k = 123
  ·subst Ha; exact U2 L S A B n c m d s hs' w0 w hn hc hm hS hb0 hL hlt hn60 hT
  exact Vq L S A B n c m d s hs' k ⟨h124, h42, h63, h40, h41, h46, h45, h35, Ha⟩ w0 w hn hc hm hS hb0 hL hlt hn60 hT
namespace Rgx
theorem M8 (L : List Lt) (S : List fZ) (s : Alp.B) : (fA L S s).2.2 <= s.length := by
 match s with
 |[] => exact Nat.le_refl _
 |c :: t =>
  rw [F5]
  split
  ·simp
  ·split
   ·simp
   ·split
    ·simp
    ·split
     ·simp
     ·split
      ·unfold jY
       split
       ·simp
       ·split
        ·rename_i h1 h2
         have h3 := (Lib.indexByte_some (o := 1) h2).1
         rcases Nat.lt_or_ge 1 (c :: t).length with h | h
         ·exact h
         ·rw [List.getElem?_eq_none h] at h3; cases h3
        ·split
         ·simp
         ·split
          ·rename_i h1 h2 _ _ _ _
           obtain ⟨o, ho⟩ : ∃ o : Nat, Lib.indexByte (c :: t) 125 = o := ⟨(Lib.indexByte (c :: t) 125).toNat, by omega⟩;have h3 := (Lib.indexByte_some ho).1;rw [ho, Int.toNat_natCast]
           rcases Nat.lt_or_ge o (c :: t).length with h | h
           ·exact h
           ·rw [List.getElem?_eq_none h] at h3; cases h3
          ·simp
      ·unfold uw
       split
       ·simp
       ·exact (BU L (c :: t) L.length).1
end Rgx
def zo (N0 ab p : Nat) (t : Nat × Rx × Nat) (w : World) (e : Ending) (w' : World) : Prop := ∃ A n c B m d, e = .returned (.agg #[.int .u8 (t.1 : Int), .int .i64 (p : Int), .int .i64 t.2.1.kind, .slice A n c, .slice B m d]) /\ ak (fun b => b < N0 \/ w.heap.size <= b) w' t.2.1 A n c B m d /\ ae w' ab [.int .i64 ((p + t.2.2 : Nat) : Int)] 3 /\ w.grownBy w' (some ab)
theorem Vs {N0 ab p : Nat} {t : Nat × Rx × Nat} {w : World} {e : Ending} {w' : World} (h : zo N0 ab p t w e w') : ∃ A n c B m d, e = .returned (.agg #[.int .u8 (t.1 : Int), .int .i64 (p : Int), .int .i64 t.2.1.kind, .slice A n c, .slice B m d]) /\ ak (fun b => b < N0 \/ w.heap.size <= b) w' t.2.1 A n c B m d /\ ae w' ab [.int .i64 ((p + t.2.2 : Nat) : Int)] 3 /\ w.grownBy w' (some ab) := h
theorem Ud (args : Array Value) (W : World) : (callFunc 97 args).run Tryz.prog W = .ok (.enter 97 args) W := by kernel_rfl
theorem QS (L : List Lt) (S : List fZ) (A B : Option Addr) (n c m d : Nat) (s : Alp.B) (p sb ab lb eb : Nat) (w0 w : World) (hs : s.length <= 1000000) (hp : p <= s.length) (hn : n = L.length) (hc : n <= c) (hm : c <= 9223372036854775807) (hS : iU w0 S B m d) (hb0 : Bw w0 w) (hL : Rd w0 A (lv L)) (hlt : ∀ l ∈ L, l.text.length <= 1000000) (hn60 : n <= 60) (hT : DB w0) (hab : w0.heap.size <= ab) (c1 : w.cell? ⟨sb, 0, none⟩ = some (.string (tb s))) (c2 : ae w ab [.int .i64 (p : Int)] 3) (c3 : w.cell? ⟨lb, 0, none⟩ = some (.slice A n c)) (c4 : w.cell? ⟨eb, 0, none⟩ = some (.slice B m d)) : Calls Tryz.prog 97 #[.pointer (pt sb), .pointer (pt ab), .pointer (pt lb), .pointer (pt eb)] w (zo w0.heap.size ab p (fA L S (s.drop p)) w) := by
 obtain ⟨t, ht⟩ := eX (fA L S (s.drop p));obtain ⟨T1, lg⟩ := eX t.1;obtain ⟨K, hK⟩ := eX t.2.1.kind;obtain ⟨T3, qA⟩ := eX t.2.2;have hT3l : T3 <= 1000000 := by have h1 := M8 L S (s.drop p); rw [qA, ht]; rw [List.length_drop] at h1; omega
 have fJ := LH (w0.heap.size <= w.heap.size) hb0.size;have HFT := LH (∀ W, Below (w.alloc zT).heap.size (w.alloc zT) W -> Cz 98 #[.string (tb (s.drop p)), .slice A n c, .slice B m d] W (fu w0.heap.size W t)) fun W hb => by
  have fq : Bw w0 W := hb0.trans (((ai w _).trans (hb.mono (ai w _).size)).mono hb0.size);rw [ht];exact UJ L S A B n c m d (s.drop p) (by rw [List.length_drop]; omega) w0 W hn hc hm hS fq (hL.below fq) hlt hn60 (hT.below fq)
 have AA := LH (∀ N1 W e x4, fu N1 W t e x4 -> ∃ A4 n4 c4 B4 m4 d4, e = .returned (.tuple #[.agg #[.int .u8 (T1 : Int), .int .i64 0, .int .i64 K, .slice A4 n4 c4, .slice B4 m4 d4], .int .i64 (T3 : Int)]) /\ ak (fun b => b < N1 \/ W.heap.size <= b) x4 t.2.1 A4 n4 c4 B4 m4 d4 /\ Bw W x4) fun N1 W e x4 h => by rw [lg, hK, qA]; exact Jf h
 have HT := LH (fA L S (s.drop p) = t /\ T1 = t.1 /\ K = t.2.1.kind /\ T3 = t.2.2) ⟨ht.symm, lg, hK, qA⟩;have mh := Lh c2;have hc2 := c2.cell (j := 0) rfl;have iT := LH (∀ W, Below (w.alloc zT).heap.size (w.alloc zT) W -> (fun w' => w'.cell? ⟨sb, 0, none⟩ = some (.string (tb s)) /\ w'.cell? ⟨ab, 0, none⟩ = some (.int .i64 (p : Int)) /\ w'.cell? ⟨lb, 0, none⟩ = some (.slice A n c) /\ w'.cell? ⟨eb, 0, none⟩ = some (.slice B m d)) W) fun W hb => by
  have fq : Bw w W := (ai w _).trans (hb.mono (ai w _).size);exact ⟨(fq.cell (p := ⟨sb, 0, none⟩) (World.block_lt_of_cell? w _ c1)).trans c1, (fq.cell (p := ⟨ab, 0, none⟩) (World.block_lt_of_cell? w _ hc2)).trans hc2, (fq.cell (p := ⟨lb, 0, none⟩) (World.block_lt_of_cell? w _ c3)).trans c3, (fq.cell (p := ⟨eb, 0, none⟩) (World.block_lt_of_cell? w _ c4)).trans c4⟩
 have xc := LH (w0.heap.size <= ab /\ ab < w.heap.size) ⟨hab, c2.lt⟩;have HZ := LH (ae (w.alloc zT) w.heap.size zM 80) (ae.at w zM _ 80 _ rfl rfl);have Bn : (tb s).extract p s.length = tb (s.drop p) := by rw [M7, List.take_of_length_le (by rw [List.length_drop]; exact Nat.le_refl _)]
 have hsz : (tb s).size = s.length := kI s;rw [HT.out.1];clear hn hc hm hS hb0 hL hlt hn60 hT hab c1 c2 c3 c4 hc2 ht lg hK qA;go_enter Tryz.func97, Tryz.ntmps97;go_wp2_with fail;refine wp_region_held_drew (S := fun w' => w'.cell? ⟨sb, 0, none⟩ = some (.string (tb s)) /\ w'.cell? ⟨ab, 0, none⟩ = some (.int .i64 (p : Int)) /\ w'.cell? ⟨lb, 0, none⟩ = some (.slice A n c) /\ w'.cell? ⟨eb, 0, none⟩ = some (.slice B m d)) (by kernel_rfl) (iT.out _ (below_drewN (Below.refl _ _) 1)) (fun cO => ?_);refine ik 0 ?_;refine ik 1 ?_;refine ik 2 ?_;refine ik 3 ?_;refine ik 4 ?_;refine wpAnyH_ready (rs := [5, 9]) (by kernel_rfl) (by simp) ?_;refine wA rfl (fun K0 hK => ?_) (wA rfl (fun K0 hK => ?_) AllReadyH.nil)
 ·go_simp;go_at_call 98;refine (HFT.out _ (below_drewN (Below.refl _ _) 1)).mono ?_;rintro e w5 hp;obtain ⟨A4, n4, c4, B4, m4, d4, rfl, q1, q2⟩ := AA.out _ _ e w5 hp;have H5 := LH (ak (fun b => b < w0.heap.size \/ (w.alloc zT).heap.size <= b) w5 t.2.1 A4 n4 c4 B4 m4 d4 /\ Below (w.alloc zT).heap.size (w.alloc zT) w5) ⟨q1, ah (below_drewN (Below.refl _ _) 1) q2⟩;clear hp q1 q2;refine hK.out _ _ (iT.out _ H5.out.2) (fun hS1 => ?_);clear hK K0 cO;(try simp only [Act.put, pP]);refine ik 6 ?_;refine ik 7 ?_;refine ik 8 ?_;refine wpAnyH_ready (rs := [9]) (by kernel_rfl) (by simp) ?_;refine wA rfl (fun K0 hK => ?_) AllReadyH.nil
  go_simp;have HX := LH (Below (w.alloc zT).heap.size (w.alloc zT) (w5.alloc zT) /\ ae (w5.alloc zT) w5.heap.size zM 80 /\ ak (fun b => (b < w0.heap.size \/ (w.alloc zT).heap.size <= b) /\ b ≠ w5.heap.size) (w5.alloc zT) t.2.1 A4 n4 c4 B4 m4 d4 /\ (w.alloc zT).heap.size <= w5.heap.size) ⟨aF H5.out.2 _, ae.at w5 zM _ 80 _ rfl rfl, (H5.out.1.lt7.mono fun b hb => ⟨hb.1, by omega⟩).below (ai _ _), H5.out.2.size⟩;refine hK.out _ _ (iT.out _ HX.out.1) (fun dh => ?_);clear hK K0 hS1;(try simp only [Act.put, pP]);refine wpAnyH_ready (rs := [10]) (by kernel_rfl) (by simp) ?_;refine AllReadyH.cons (o := ⟨none, .store 80 (.tmp 5) (.tmp 14), 0, _, _, none⟩) rfl (fun K0 hK => ?_) AllReadyH.nil
  refine GA rfl 80 (.tmp 5) (.tmp 14) rfl w5.heap.size rfl [.int .u8 (T1 : Int), .int .i64 0, .int .i64 K, .slice A4 n4 c4, .slice B4 m4 d4] rfl HX.out.2.1 dX rfl (by simp [Value.oneCell']) ?_;intro x6 qx;have dZ := LH (Below (w.alloc zT).heap.size (w.alloc zT) x6 /\ ae x6 w5.heap.size [.int .u8 (T1 : Int), .int .i64 0, .int .i64 K, .slice A4 n4 c4, .slice B4 m4 d4] 80 /\ ak (fun b => (b < w0.heap.size \/ (w.alloc zT).heap.size <= b) /\ b ≠ w5.heap.size) x6 t.2.1 A4 n4 c4 B4 m4 d4 /\ (w.alloc zT).heap.size <= w5.heap.size) ⟨qx.below HX.out.1 HX.out.2.2.2, qx.1, HX.out.2.2.1.grown (dG qx) (fun b hb e => hb.2 (Option.some.inj e)), HX.out.2.2.2⟩;clear qx;refine hK.out _ _ (iT.out _ dZ.out.1) (fun kV => ?_);clear hK K0 dh;(try simp only [Act.put, pP]);refine ik 11 ?_;refine wpAnyH_done (by kernel_rfl) ?_ _;obtain ⟨g5, cB⟩ := eX w5.heap.size;rw [<- cB] at dZ ⊢;clear cB;have JN := dZ.out.2.1.cell (j := 1) rfl;have Kh : x6.frozen? ⟨g5, 1, none⟩ = false := dZ.out.2.1.frozen 1;have yh := LH (∀ W, W = x6.setCell ⟨g5, 1, none⟩ (.int .i64 (p : Int)) -> aT x6 W g5 [.int .u8 (T1 : Int), .int .i64 (p : Int), .int .i64 K, .slice A4 n4 c4, .slice B4 m4 d4] 80 /\ ae W ab [.int .i64 (p : Int)] 3) fun W hW => by
   have h1 := aT.of_setCell dZ.out.2.1 1 (.int .i64 (p : Int));rw [<- hW] at h1;have h2 : ae x6 ab [.int .i64 (p : Int)] 3 := mh.out.below ((ai w _).trans (dZ.out.1.mono (ai w _).size)) mh.out.lt;have hs1 : (w.alloc zT).heap.size = w.heap.size + 1 := by simp
   exact ⟨h1, h1.other h2 (by have := dZ.out.2.2.2; have := xc.out.2; omega)⟩
  go_upto_region 3 with fail
  obtain ⟨x7, ou⟩ := eX (x6.setCell ⟨g5, 1, none⟩ (.int .i64 (p : Int)));rw [<- ou];have H7 := Lh (yh.out x7 ou);clear ou JN Kh;have JJ := H7.out.2.cell (j := 0) rfl;have J6 : x7.frozen? ⟨ab, 0, none⟩ = false := H7.out.2.frozen 0;have HS8 := LH (∀ W, W = x7.setCell ⟨ab, 0, none⟩ (.int .i64 ((p : Int) + (T3 : Int))) -> aT x7 W ab [.int .i64 ((p : Int) + (T3 : Int))] 3 /\ ae W g5 [.int .u8 (T1 : Int), .int .i64 (p : Int), .int .i64 K, .slice A4 n4 c4, .slice B4 m4 d4] 80 /\ ae W w.heap.size zM 80) fun W hW => by
   have h1 := aT.of_setCell H7.out.2 0 (.int .i64 ((p : Int) + (T3 : Int)));rw [<- hW] at h1;have hs1 : (w.alloc zT).heap.size = w.heap.size + 1 := by simp
   have h3 := dZ.out.2.2.2;have h4 := xc.out.2;exact ⟨h1, h1.other H7.out.1.1 (by omega), h1.other (H7.out.1.other (HZ.out.below dZ.out.1 HZ.out.lt) (by omega)) (by omega)⟩
  go_upto_region 4 with fail
  obtain ⟨x8, jO⟩ := eX (x7.setCell ⟨ab, 0, none⟩ (.int .i64 ((p : Int) + (T3 : Int))));rw [<- jO];have H8 := Lh (HS8.out x8 jO);clear jO JJ J6;have iq := LH (∀ W, aT x8 W w.heap.size [.int .u8 (T1 : Int), .int .i64 (p : Int), .int .i64 K, .slice A4 n4 c4, .slice B4 m4 d4] 80 -> zo w0.heap.size ab p t w (.returned (.agg #[.int .u8 (T1 : Int), .int .i64 (p : Int), .int .i64 K, .slice A4 n4 c4, .slice B4 m4 d4])) W /\ ae W w.heap.size [.int .u8 (T1 : Int), .int .i64 (p : Int), .int .i64 K, .slice A4 n4 c4, .slice B4 m4 d4] 80) fun W hst => by
   have hs1 : (w.alloc zT).heap.size = w.heap.size + 1 := by simp
   have h3 := dZ.out.2.2.2;have h4 := xc.out;have iB : Bw w x6 := (ai w _).trans (dZ.out.1.mono (ai w _).size);have g6 : w.grownBy x6 (some ab) := ⟨iB.os, iB.tape, iB.output, iB.size, fun k hk _ => iB.block k hk⟩;have g9 := ((g6.andThen (dG H7.out.1) (fun j e => .inl (by have := Option.some.inj e; omega))).andThen (dG H8.out.1) (fun j e => .inr (by rw [Option.some.inj e]))).andThen (dG hst) (fun j e => .inl (by have := Option.some.inj e; omega));refine ⟨⟨A4, n4, c4, B4, m4, d4, by rw [<- HT.out.2.1, <- HT.out.2.2.1], ?_, ?_, g9⟩, hst.1⟩
   ·have r7 := dZ.out.2.2.1.grown (dG H7.out.1) (fun b hb e => hb.2 (Option.some.inj e));have r8 := r7.grown (dG H8.out.1) (fun b hb e => by have := Option.some.inj e; omega);have r9 := r8.grown (dG hst) (fun b hb e => by have := Option.some.inj e; omega);exact r9.mono fun b hb => hb.1.imp id fun h => by omega
   ·have h5 := hst.other H8.out.1.1 (by omega);rw [<- HT.out.2.2.2]
    push_cast
    exact h5
  have yl := Lh H8.out.2.1;have HBZ := Lh H8.out.2.2
  go_wp2_with (first
   |(refine LK rfl 80 (.tmp 5) rfl g5 0 rfl yl.out _ Tryz.underlying80 rfl 5 dX (by simp) ?_)
   |(refine wB rfl 80 (.tmp 4) (.tmp 21) rfl w.heap.size 0 rfl [.int .u8 (T1 : Int), .int .i64 (p : Int), .int .i64 K, .slice A4 n4 c4, .slice B4 m4 d4] rfl HBZ.out 5 dX ?_; intro x9 ag; have aR := Lh (iq.out x9 ag); clear ag))
  exact cK rfl w.heap.size rfl (C := [.int .u8 (T1 : Int), .int .i64 (p : Int), .int .i64 K, .slice A4 n4 c4, .slice B4 m4 d4]) (T := 80) aR.out.2 _ Tryz.underlying80 rfl dX rfl aR.out.1
 ·go_simp;have HY := LH (Below (w.alloc zT).heap.size (w.alloc zT) ((w.alloc zT).drew.alloc zT) /\ ae ((w.alloc zT).drew.alloc zT) (w.alloc zT).heap.size zM 80) ⟨aF (below_drewN (Below.refl _ _) 1) _, ae.at (w.alloc zT).drew zM _ 80 _ rfl rfl⟩;refine hK.out _ _ (iT.out _ HY.out.1) (fun hS1 => ?_);clear hK K0 cO;(try simp only [Act.put, pP]);refine wpAnyH_ready (rs := [5]) (by kernel_rfl) (by simp) ?_;refine wA rfl (fun K0 hK => ?_) AllReadyH.nil
  go_simp;go_at_call 98;refine (HFT.out _ HY.out.1).mono ?_;rintro e w5 hp;obtain ⟨A4, n4, c4, B4, m4, d4, rfl, q1, q2⟩ := AA.out _ _ e w5 hp;have HX := LH (Below (w.alloc zT).heap.size (w.alloc zT) w5 /\ ae w5 (w.heap.size + 1) zM 80 /\ ak (fun b => (b < w0.heap.size \/ (w.alloc zT).heap.size <= b) /\ b ≠ w.heap.size + 1) w5 t.2.1 A4 n4 c4 B4 m4 d4 /\ (w.alloc zT).heap.size <= w.heap.size + 1) (by
   have hs0 := fJ.out;have hs1 : (w.alloc zT).heap.size = w.heap.size + 1 := by simp
   have hs2 : ((w.alloc zT).drew.alloc zT).heap.size = w.heap.size + 1 + 1 := by simp
   have h1 := HY.out.2;rw [hs1] at h1;refine ⟨HY.out.1.trans (q2.mono HY.out.1.size), h1.below q2 h1.lt, q1.mono fun b hb => ?_, by omega⟩;rw [hs2] at hb;rw [hs1];omega)
  clear hp q1 q2;refine hK.out _ _ (iT.out _ HX.out.1) (fun dh => ?_);clear hK K0 hS1;(try simp only [Act.put, pP]);refine ik 6 ?_;refine ik 7 ?_;refine wpAnyH_take (i := 8) (oi := { dst := some 15, op := Op.extract (Operand.tmp 7) 1, type := 3, pos := "pattern.go:46", after := #[{ on := 6, ground := Ground.data }, { on := 10, ground := Ground.gcOnly Departure.lateStores }], guard := none }) (v := ?_) rfl (by kernel_rfl) (by kernel_rfl) (by kernel_rfl) (fun _ _ _ h => h) (Or.inl ⟨by rfl, ?_⟩) (by assumption) ?_
  rotate_left
  ·(rintro w' ⟨h1, h2, h3, h4⟩; go_simp; try with_reducible rfl)
  (try simp only [Act.put, pP]);refine wpAnyH_ready (rs := [10]) (by kernel_rfl) (by simp) ?_;refine AllReadyH.cons (o := ⟨none, .store 80 (.tmp 5) (.tmp 14), 0, _, _, none⟩) rfl (fun K0 hK => ?_) AllReadyH.nil
  refine GA rfl 80 (.tmp 5) (.tmp 14) rfl (w.heap.size + 1) rfl [.int .u8 (T1 : Int), .int .i64 0, .int .i64 K, .slice A4 n4 c4, .slice B4 m4 d4] rfl HX.out.2.1 dX rfl (by simp [Value.oneCell']) ?_;intro x6 qx;have dZ := LH (Below (w.alloc zT).heap.size (w.alloc zT) x6 /\ ae x6 (w.heap.size + 1) [.int .u8 (T1 : Int), .int .i64 0, .int .i64 K, .slice A4 n4 c4, .slice B4 m4 d4] 80 /\ ak (fun b => (b < w0.heap.size \/ (w.alloc zT).heap.size <= b) /\ b ≠ (w.heap.size + 1)) x6 t.2.1 A4 n4 c4 B4 m4 d4 /\ (w.alloc zT).heap.size <= (w.heap.size + 1)) ⟨qx.below HX.out.1 HX.out.2.2.2, qx.1, HX.out.2.2.1.grown (dG qx) (fun b hb e => hb.2 (Option.some.inj e)), HX.out.2.2.2⟩;clear qx;refine hK.out _ _ (iT.out _ dZ.out.1) (fun kV => ?_);clear hK K0 dh;(try simp only [Act.put, pP]);refine ik 11 ?_;refine wpAnyH_done (by kernel_rfl) ?_ _;obtain ⟨g5, cB⟩ := eX (w.heap.size + 1);rw [<- cB] at dZ ⊢;clear cB;have JN := dZ.out.2.1.cell (j := 1) rfl;have Kh : x6.frozen? ⟨g5, 1, none⟩ = false := dZ.out.2.1.frozen 1;have yh := LH (∀ W, W = x6.setCell ⟨g5, 1, none⟩ (.int .i64 (p : Int)) -> aT x6 W g5 [.int .u8 (T1 : Int), .int .i64 (p : Int), .int .i64 K, .slice A4 n4 c4, .slice B4 m4 d4] 80 /\ ae W ab [.int .i64 (p : Int)] 3) fun W hW => by
   have h1 := aT.of_setCell dZ.out.2.1 1 (.int .i64 (p : Int));rw [<- hW] at h1;have h2 : ae x6 ab [.int .i64 (p : Int)] 3 := mh.out.below ((ai w _).trans (dZ.out.1.mono (ai w _).size)) mh.out.lt;have hs1 : (w.alloc zT).heap.size = w.heap.size + 1 := by simp
   exact ⟨h1, h1.other h2 (by have := dZ.out.2.2.2; have := xc.out.2; omega)⟩
  go_upto_region 3 with fail
  obtain ⟨x7, ou⟩ := eX (x6.setCell ⟨g5, 1, none⟩ (.int .i64 (p : Int)));rw [<- ou];have H7 := Lh (yh.out x7 ou);clear ou JN Kh;have JJ := H7.out.2.cell (j := 0) rfl;have J6 : x7.frozen? ⟨ab, 0, none⟩ = false := H7.out.2.frozen 0;have HS8 := LH (∀ W, W = x7.setCell ⟨ab, 0, none⟩ (.int .i64 ((p : Int) + (T3 : Int))) -> aT x7 W ab [.int .i64 ((p : Int) + (T3 : Int))] 3 /\ ae W g5 [.int .u8 (T1 : Int), .int .i64 (p : Int), .int .i64 K, .slice A4 n4 c4, .slice B4 m4 d4] 80 /\ ae W w.heap.size zM 80) fun W hW => by
   have h1 := aT.of_setCell H7.out.2 0 (.int .i64 ((p : Int) + (T3 : Int)));rw [<- hW] at h1;have hs1 : (w.alloc zT).heap.size = w.heap.size + 1 := by simp
   have h3 := dZ.out.2.2.2;have h4 := xc.out.2;exact ⟨h1, h1.other H7.out.1.1 (by omega), h1.other (H7.out.1.other (HZ.out.below dZ.out.1 HZ.out.lt) (by omega)) (by omega)⟩
  go_upto_region 4 with fail
  obtain ⟨x8, jO⟩ := eX (x7.setCell ⟨ab, 0, none⟩ (.int .i64 ((p : Int) + (T3 : Int))));rw [<- jO];have H8 := Lh (HS8.out x8 jO);clear jO JJ J6;have iq := LH (∀ W, aT x8 W w.heap.size [.int .u8 (T1 : Int), .int .i64 (p : Int), .int .i64 K, .slice A4 n4 c4, .slice B4 m4 d4] 80 -> zo w0.heap.size ab p t w (.returned (.agg #[.int .u8 (T1 : Int), .int .i64 (p : Int), .int .i64 K, .slice A4 n4 c4, .slice B4 m4 d4])) W /\ ae W w.heap.size [.int .u8 (T1 : Int), .int .i64 (p : Int), .int .i64 K, .slice A4 n4 c4, .slice B4 m4 d4] 80) fun W hst => by
   have hs1 : (w.alloc zT).heap.size = w.heap.size + 1 := by simp
   have h3 := dZ.out.2.2.2;have h4 := xc.out;have iB : Bw w x6 := (ai w _).trans (dZ.out.1.mono (ai w _).size);have g6 : w.grownBy x6 (some ab) := ⟨iB.os, iB.tape, iB.output, iB.size, fun k hk _ => iB.block k hk⟩;have g9 := ((g6.andThen (dG H7.out.1) (fun j e => .inl (by have := Option.some.inj e; omega))).andThen (dG H8.out.1) (fun j e => .inr (by rw [Option.some.inj e]))).andThen (dG hst) (fun j e => .inl (by have := Option.some.inj e; omega));refine ⟨⟨A4, n4, c4, B4, m4, d4, by rw [<- HT.out.2.1, <- HT.out.2.2.1], ?_, ?_, g9⟩, hst.1⟩
   ·have r7 := dZ.out.2.2.1.grown (dG H7.out.1) (fun b hb e => hb.2 (Option.some.inj e));have r8 := r7.grown (dG H8.out.1) (fun b hb e => by have := Option.some.inj e; omega);have r9 := r8.grown (dG hst) (fun b hb e => by have := Option.some.inj e; omega);exact r9.mono fun b hb => hb.1.imp id fun h => by omega
   ·have h5 := hst.other H8.out.1.1 (by omega);rw [<- HT.out.2.2.2]
    push_cast
    exact h5
  have yl := Lh H8.out.2.1;have HBZ := Lh H8.out.2.2
  go_wp2_with (first
   |(refine LK rfl 80 (.tmp 5) rfl g5 0 rfl yl.out _ Tryz.underlying80 rfl 5 dX (by simp) ?_)
   |(refine wB rfl 80 (.tmp 4) (.tmp 21) rfl w.heap.size 0 rfl [.int .u8 (T1 : Int), .int .i64 (p : Int), .int .i64 K, .slice A4 n4 c4, .slice B4 m4 d4] rfl HBZ.out 5 dX ?_; intro x9 ag; have aR := Lh (iq.out x9 ag); clear ag))
  exact cK rfl w.heap.size rfl (C := [.int .u8 (T1 : Int), .int .i64 (p : Int), .int .i64 K, .slice A4 n4 c4, .slice B4 m4 d4]) (T := 80) aR.out.2 _ Tryz.underlying80 rfl dX rfl aR.out.1
structure Lx where
 L : List Lt
 S : List fZ
 s : Alp.B
 A : Option Addr
 n : Nat
 c : Nat
 B : Option Addr
 m : Nat
 d : Nat
 w0 : World
 sb : Nat
 ab : Nat
 lb : Nat
 eb : Nat
 pb : Nat
structure sU (X : Lx) : Prop where
 hs : X.s.length <= 1000000
 hn : X.n = X.L.length
 hc : X.n <= X.c
 hm : X.c <= 9223372036854775807
 hS : iU X.w0 X.S X.B X.m X.d
 hL : Rd X.w0 X.A (lv X.L)
 hlt : ∀ l ∈ X.L, l.text.length <= 1000000
 hn60 : X.n <= 60
 hT : DB X.w0
 hab : X.w0.heap.size <= X.ab
 hpb : X.w0.heap.size <= X.pb
 hne : X.ab ≠ X.pb /\ X.sb ≠ X.ab /\ X.sb ≠ X.pb /\ X.lb ≠ X.ab /\ X.lb ≠ X.pb /\ X.eb ≠ X.ab /\ X.eb ≠ X.pb
structure PS where
 k : Nat
 x : Rx
 st : Nat
 p : Nat
namespace Rgx
def cZ (X : Lx) (Q : PS) : PS := ⟨(fA X.L X.S (X.s.drop Q.p)).1, (fA X.L X.S (X.s.drop Q.p)).2.1, Q.p, Q.p + (fA X.L X.S (X.s.drop Q.p)).2.2⟩
theorem SN (X : Lx) {Q : PS} (h : Q.p <= X.s.length) : (cZ X Q).p <= X.s.length /\ (cZ X Q).st = Q.p := by
 have h1 := M8 X.L X.S (X.s.drop Q.p);rw [List.length_drop] at h1;exact ⟨by show Q.p + _ <= _; omega, rfl⟩
end Rgx
structure bH (X : Lx) (q : Nat -> Prop) (Q : PS) (w : World) : Prop where
 hb : Below X.w0.heap.size X.w0 w
 hle : Q.p <= X.s.length
 c1 : w.cell? ⟨X.sb, 0, none⟩ = some (.string (tb X.s))
 c2 : ae w X.ab [.int .i64 (Q.p : Int)] 3
 c3 : w.cell? ⟨X.lb, 0, none⟩ = some (.slice X.A X.n X.c)
 c4 : w.cell? ⟨X.eb, 0, none⟩ = some (.slice X.B X.m X.d)
 c5 : ∃ A n c B m d, ae w X.pb [.func (.func 97) #[] #[.pointer (pt X.sb), .pointer (pt X.ab), .pointer (pt X.lb), .pointer (pt X.eb)], .int .u8 (Q.k : Int), .int .i64 (Q.st : Int), .int .i64 Q.x.kind, .slice A n c, .slice B m d] 82 /\ ak (fun b => q b /\ b ≠ X.pb /\ b ≠ X.ab) w Q.x A n c B m d
structure Kq (X : Lx) (w w' : World) : Prop where
 os : w'.os = w.os
 tape : w'.tape = w.tape
 output : w'.output = w.output
 size : w.heap.size <= w'.heap.size
 block : ∀ k, k < w.heap.size -> k ≠ X.pb -> k ≠ X.ab -> w'.heap[k]? = w.heap[k]?
section
variable {X : Lx} {q q2 : Nat -> Prop} {Q : PS} {w w1 w2 : World}
theorem Kq.refl (X : Lx) (w : World) : Kq X w w := ⟨rfl, rfl, rfl, Nat.le_refl _, fun _ _ _ _ => rfl⟩
theorem Kq.of_below (h : Bw w w1) : Kq X w w1 := ⟨h.os, h.tape, h.output, h.size, fun k hk _ _ => h.block k hk⟩
theorem Kq.tr (h1 : Kq X w w1) (h2 : Kq X w1 w2) : Kq X w w2 := ⟨h2.os.trans h1.os, h2.tape.trans h1.tape, h2.output.trans h1.output, Nat.le_trans h1.size h2.size, fun k hk a b => (h2.block k (Nat.lt_of_lt_of_le hk h1.size) a b).trans (h1.block k hk a b)⟩
theorem Kq.cell (h : Kq X w w1) {b o : Nat} (hb : b < w.heap.size) (h1 : b ≠ X.pb) (h2 : b ≠ X.ab) : w1.cell? ⟨b, o, none⟩ = w.cell? ⟨b, o, none⟩ := World.cell?_of_block (h.block b hb h1 h2)
theorem Kq.blk (h : Kq X w w1) {b : Nat} {C : List Value} {T : TypeId} (hb : ae w b C T) (h1 : b ≠ X.pb) (h2 : b ≠ X.ab) : ae w1 b C T := (h.block b hb.lt h1 h2).trans hb
theorem Kq.below (hx : sU X) (h : Kq X w w1) (hb : Below X.w0.heap.size X.w0 w) : Below X.w0.heap.size X.w0 w1 := ⟨h.os.trans hb.os, h.tape.trans hb.tape, h.output.trans hb.output, Nat.le_trans hb.size h.size, fun k hk => (h.block k (Nat.lt_of_lt_of_le hk hb.size) (by have := hx.hpb; omega) (by have := hx.hab; omega)).trans (hb.block k hk)⟩
theorem bH.below (h : bH X q Q w) (hb : Bw w w1) : bH X q Q w1 := by
 obtain ⟨A, n, c, B, m, d, h1, h2⟩ := h.c5;exact ⟨h.hb.trans (hb.mono h.hb.size), h.hle, (hb.cell (p := ⟨X.sb, 0, none⟩) (World.block_lt_of_cell? w _ h.c1)).trans h.c1, h.c2.below hb h.c2.lt, (hb.cell (p := ⟨X.lb, 0, none⟩) (World.block_lt_of_cell? w _ h.c3)).trans h.c3, (hb.cell (p := ⟨X.eb, 0, none⟩) (World.block_lt_of_cell? w _ h.c4)).trans h.c4, A, n, c, B, m, d, h1.below hb h1.lt, h2.below hb⟩
theorem bH.grown (h : bH X q Q w) {G : Nat} (hg : w.grownBy w1 (some G)) (h0 : X.w0.heap.size <= G) (h1 : G ≠ X.pb) (h2 : G ≠ X.ab) (h3 : G ≠ X.sb) (h4 : G ≠ X.lb) (h5 : G ≠ X.eb) (hq : ∀ b, q b -> b ≠ G) : bH X q Q w1 := by
 obtain ⟨A, n, c, B, m, d, e1, e2⟩ := h.c5;have hc : ∀ b o, b < w.heap.size -> G ≠ b -> w1.cell? ⟨b, o, none⟩ = w.cell? ⟨b, o, none⟩ := fun b o hb hne => World.cell?_of_block (hg.block b hb (fun e => hne (Option.some.inj e).symm))
 have hk : ∀ b C T, ae w b C T -> G ≠ b -> ae w1 b C T := fun b C T hb hne => (hg.block b hb.lt (fun e => hne (Option.some.inj e).symm)).trans hb
 exact ⟨h.hb.grown hg h.hb.size (fun g e => by have := Option.some.inj e; omega), h.hle, (hc _ _ (World.block_lt_of_cell? w _ h.c1) h3).trans h.c1, hk _ _ _ h.c2 h2, (hc _ _ (World.block_lt_of_cell? w _ h.c3) h4).trans h.c3, (hc _ _ (World.block_lt_of_cell? w _ h.c4) h5).trans h.c4, A, n, c, B, m, d, hk _ _ _ e1 h1, e2.grown hg fun b hb e => hq b hb.1 (Option.some.inj e)⟩
theorem bH.mono (h : bH X q Q w) (hq : ∀ b, q b -> b < w.heap.size -> q2 b) : bH X q2 Q w := by
 obtain ⟨A, n, c, B, m, d, h1, h2⟩ := h.c5;exact ⟨h.hb, h.hle, h.c1, h.c2, h.c3, h.c4, A, n, c, B, m, d, h1, h2.lt7.mono fun b hb => ⟨hq b hb.1.1 hb.2, hb.1.2⟩⟩
end
def vR (X : Lx) (q : Nat -> Prop) (Q : PS) (w : World) (e : Ending) (w' : World) : Prop := e = .returned (.tuple #[]) /\ bH X (fun b => b < X.w0.heap.size \/ w.heap.size <= b) (cZ X Q) w' /\ Kq X w w'
theorem xR {X : Lx} {q : Nat -> Prop} {Q : PS} {w : World} {e : Ending} {w' : World} (h : vR X q Q w e w') : e = .returned (.tuple #[]) /\ bH X (fun b => b < X.w0.heap.size \/ w.heap.size <= b) (cZ X Q) w' /\ Kq X w w' := h
theorem Xe : (Tryz.prog.info? 82).map (·.size) = some 6 := by kernel_rfl
theorem CZ (X : Lx) (hx : sU X) (q : Nat -> Prop) (Q : PS) (w : World) (h : bH X q Q w) : Calls Tryz.prog 66 #[.pointer (pt X.pb)] w (vR X q Q w) := by
 obtain ⟨t, ht⟩ := eX (fA X.L X.S (X.s.drop Q.p));obtain ⟨T1, lg⟩ := eX t.1;obtain ⟨K2, hK2⟩ := eX t.2.1.kind;obtain ⟨A, n, c, B, m, d, e1, e2⟩ := h.c5;obtain ⟨k0, Fe⟩ := eX Q.k;obtain ⟨s0, hs0⟩ := eX Q.st;obtain ⟨K0, hK0⟩ := eX Q.x.kind;rw [<- Fe, <- hs0, <- hK0] at e1;have nT := LH (Cz 97 #[.pointer (pt X.sb), .pointer (pt X.ab), .pointer (pt X.lb), .pointer (pt X.eb)] w (zo X.w0.heap.size X.ab Q.p t w)) (by rw [ht]; exact QS X.L X.S X.A X.B X.n X.c X.m X.d X.s Q.p X.sb X.ab X.lb X.eb X.w0 w hx.hs h.hle hx.hn hx.hc hx.hm hx.hS h.hb hx.hL hx.hlt hx.hn60 hx.hT hx.hab h.c1 h.c2 h.c3 h.c4);have hcf := e1.cell (j := 0) rfl;have hen := Ud;have rX := LH (∀ e x4, zo X.w0.heap.size X.ab Q.p t w e x4 -> ∃ A4 n4 c4 B4 m4 d4, e = .returned (.agg #[.int .u8 (T1 : Int), .int .i64 (Q.p : Int), .int .i64 K2, .slice A4 n4 c4, .slice B4 m4 d4]) /\ ae x4 X.pb [.func (.func 97) #[] #[.pointer (pt X.sb), .pointer (pt X.ab), .pointer (pt X.lb), .pointer (pt X.eb)], .int .u8 (k0 : Int), .int .i64 (s0 : Int), .int .i64 K0, .slice A n c, .slice B m d] 82 /\ ∀ W, aT x4 W X.pb [.func (.func 97) #[] #[.pointer (pt X.sb), .pointer (pt X.ab), .pointer (pt X.lb), .pointer (pt X.eb)], .int .u8 (T1 : Int), .int .i64 (Q.p : Int), .int .i64 K2, .slice A4 n4 c4, .slice B4 m4 d4] 82 -> vR X q Q w (.returned (.tuple #[])) W) fun e x4 hh => by
  obtain ⟨A4, n4, c4, B4, m4, d4, rfl, g1, g2, g3⟩ := Vs hh;have hne := hx.hne;have hk : ∀ b C T, ae w b C T -> X.ab ≠ b -> ae x4 b C T := fun b C T hb hn => (g3.block b hb.lt (fun e => hn (Option.some.inj e).symm)).trans hb
  have hc : ∀ b o, b < w.heap.size -> X.ab ≠ b -> x4.cell? ⟨b, o, none⟩ = w.cell? ⟨b, o, none⟩ := fun b o hb hn => World.cell?_of_block (g3.block b hb (fun e => hn (Option.some.inj e).symm))
  refine ⟨A4, n4, c4, B4, m4, d4, by rw [lg, hK2], hk _ _ _ e1 hne.1, fun W hst => ⟨rfl, ?_, ?_⟩⟩
  ·have hal := SN X h.hle;have iB : Below X.w0.heap.size X.w0 x4 := h.hb.grown g3 h.hb.size (fun g e => by have := Option.some.inj e; have := hx.hab; omega);refine ⟨hst.below iB hx.hpb, hal.1, hst.cell hne.2.2.1 ((hc _ _ (World.block_lt_of_cell? w _ h.c1) hne.2.1.symm).trans h.c1), ?_, hst.cell hne.2.2.2.2.1 ((hc _ _ (World.block_lt_of_cell? w _ h.c3) hne.2.2.2.1.symm).trans h.c3), hst.cell hne.2.2.2.2.2.2 ((hc _ _ (World.block_lt_of_cell? w _ h.c4) hne.2.2.2.2.2.1.symm).trans h.c4), A4, n4, c4, B4, m4, d4, ?_, ?_⟩
   · show ae W X.ab [.int .i64 ((Q.p + (fA X.L X.S (X.s.drop Q.p)).2.2 : Nat) : Int)] 3;rw [<- ht];exact hst.other g2 hne.1
   · have h9 := hst.1;show ae W X.pb [_, .int .u8 (((fA X.L X.S (X.s.drop Q.p)).1 : Nat) : Int), .int .i64 ((Q.p : Nat) : Int), .int .i64 ((fA X.L X.S (X.s.drop Q.p)).2.1.kind), _, _] 82;rw [<- ht, <- lg, <- hK2];exact h9
   · show ak _ W (fA X.L X.S (X.s.drop Q.p)).2.1 A4 n4 c4 B4 m4 d4;rw [<- ht];have hpl := e1.lt;have hal2 := h.c2.lt;have hp0 := hx.hpb;have ha0 := hx.hab;exact (g1.grown (dG hst) (fun b hb e => by have := Option.some.inj e; omega)).mono fun b hb => ⟨hb, by omega, by omega⟩
  ·exact ⟨(hst.2.2.2.1).trans g3.os, (hst.2.2.2.2.1).trans g3.tape, (hst.2.2.2.2.2).trans g3.output, by rw [hst.2.2.1]; exact g3.size, fun k ji a b => (hst.2.1 k a).trans (g3.block k ji (fun e => b (Option.some.inj e)))⟩
 clear hx h e1 e2 ht lg hK2 Fe hs0 hK0;go_enter Tryz.func66, Tryz.ntmps66
 go_wp2_with (first
  |((with_reducible refine nT.out.mono ?_); rintro e x4 hp; obtain ⟨A4, n4, c4, B4, m4, d4, rfl, g1, g2⟩ := rX.out e x4 hp; have H4 := Lh (And.intro g1 g2); clear hp g1 g2)
  |(refine wB rfl 80 (.tmp 9) (.tmp 7) rfl X.pb 1 rfl [.int .u8 (T1 : Int), .int .i64 (Q.p : Int), .int .i64 K2, .slice A4 n4 c4, .slice B4 m4 d4] rfl H4.out.1 5 dX ?_; intro x5 bz; have bf := Lh (H4.out.2 x5 bz); clear bz))
 go_end0;exact bf.out
namespace Rgx
theorem VQ (L : List Lt) (S : List fZ) (s : Alp.B) (h0 : (fA L S s).1 ≠ 0) (h1 : (fA L S s).1 ≠ 1) : 1 <= (fA L S s).2.2 := by
 match s with
 |[] => exact absurd rfl h1
 |c :: t =>
  rw [F5] at h0 h1 ⊢
  split at h0
  ·rename_i h; rw [if_pos h]; exact Nat.le_refl _
  ·rename_i g1
   rw [if_neg g1]
   split at h0
   ·rename_i h; rw [if_pos h]; exact Nat.le_refl _
   ·rename_i g2
    rw [if_neg g2]
    split at h0
    ·rename_i h; rw [if_pos h]; exact Nat.le_refl _
    ·rename_i g3
     rw [if_neg g3]
     split at h0
     ·rename_i h; rw [if_pos h]; exact Nat.le_refl _
     ·rename_i g4
      rw [if_neg g4]
      split at h0
      ·rename_i h
       rw [if_pos h];unfold jY at h0 ⊢
       split at h0
       ·exact absurd rfl h0
       ·rename_i a1
        rw [if_neg a1]
        split at h0
        ·rename_i h; rw [if_pos h]; exact Nat.le_succ _
        ·rename_i a2
         rw [if_neg a2]
         cases hX : qU S (((c :: t).drop 1).take ((Lib.indexByte (c :: t) 125).toNat - 1)) with
         |none => rw [hX] at h0; exact absurd rfl h0
         |some i =>
          rw [hX] at h0
          dsimp only at h0 ⊢
          split at h0
          ·rename_i h; rw [if_pos h]; exact Nat.le_add_left _ _
          ·exact absurd rfl h0
      ·rename_i g5
       rw [if_neg g5];unfold uw at h0 ⊢
       split at h0
       ·exact absurd rfl h0
       ·rename_i h; rw [if_neg h]; exact Nat.pos_of_ne_zero h
def iP (Q : PS) : Prop := Q.st <= Q.p /\ (Q.k ≠ 0 -> Q.k ≠ 1 -> Q.st < Q.p)
theorem jw (X : Lx) (Q : PS) : iP (cZ X Q) := ⟨Nat.le_add_right _ _, fun h0 h1 => by
 have := VQ X.L X.S (X.s.drop Q.p) h0 h1;show Q.p < Q.p + _;omega⟩
def vM (Q : PS) : PS := ⟨0, Q.x, Q.st, Q.p⟩
inductive PR (X : Lx) : Nat -> List Rx -> PS -> Rx -> PS -> Prop
 |altGo {ks : List Rx} {Q Q1 Q2 : PS} {r x : Rx} : Q.k = 124 -> PR X 1 [] (cZ X Q) r Q1 -> PR X 0 (ks ++ [r]) Q1 x Q2 -> PR X 0 ks Q x Q2
 |altEnd {ks : List Rx} {Q : PS} : Q.k ≠ 124 -> PR X 0 ks Q (.mk 4 [] ks) Q
 |seqGo {ks : List Rx} {Q Q0 Q1 Q2 : PS} {a r x : Rx} : Q.k = 2 \/ Q.k = 40 -> PR X 3 [] Q a Q0 -> PR X 2 [a] Q0 r Q1 -> PR X 1 (ks ++ [r]) Q1 x Q2 -> PR X 1 ks Q x Q2
 |seqEnd {ks : List Rx} {Q : PS} : ¬ (Q.k = 2 \/ Q.k = 40) -> PR X 1 ks Q (.mk 3 [] ks) Q
 |star {Q Q2 : PS} {r x : Rx} : Q.k = 42 -> PR X 2 [.mk 5 [] [r]] (cZ X Q) x Q2 -> PR X 2 [r] Q x Q2
 |opt {Q Q2 : PS} {r x : Rx} : Q.k = 63 -> PR X 2 [.mk 4 [] [.mk 1 [] [], r]] (cZ X Q) x Q2 -> PR X 2 [r] Q x Q2
 |none {Q : PS} {r : Rx} : Q.k ≠ 42 -> Q.k ≠ 63 -> PR X 2 [r] Q r Q
 |atom {Q : PS} : Q.k = 2 -> PR X 3 [] Q Q.x (cZ X Q)
 |paren {Q Q0 Q1 : PS} {r x : Rx} : Q.k = 40 -> PR X 1 [] (cZ X Q) r Q0 -> PR X 0 [r] Q0 x Q1 -> Q1.k = 41 -> PR X 3 [] Q x (cZ X Q1)
 |bad {Q Q0 Q1 : PS} {r x : Rx} : Q.k = 40 -> PR X 1 [] (cZ X Q) r Q0 -> PR X 0 [r] Q0 x Q1 -> Q1.k ≠ 41 -> PR X 3 [] Q x (vM Q1)
theorem PR.one {X : Lx} {t : Nat} {ks : List Rx} {Q : PS} {x : Rx} {Q1 : PS} (h : PR X t ks Q x Q1) : ∀ {y : Rx} {Q2 : PS}, PR X t ks Q y Q2 -> x = y /\ Q1 = Q2 := by
 induction h with
 |altGo h1 h2 h3 bV ih3 =>
  intro y Q2 h
  cases h with
  |altGo g1 g2 g3 => obtain ⟨rfl, rfl⟩ := bV g2; exact ih3 g3
  |altEnd g1 => exact absurd h1 g1
 |altEnd h1 =>
  intro y Q2 h
  cases h with
  |altGo g1 g2 g3 => exact absurd g1 h1
  |altEnd g1 => exact ⟨rfl, rfl⟩
 |seqGo h1 h2 h3 h4 bV ih3 ih4 =>
  intro y Q2 h
  cases h with
  |seqGo g1 g2 g3 g4 => obtain ⟨rfl, rfl⟩ := bV g2; obtain ⟨rfl, rfl⟩ := ih3 g3; exact ih4 g4
  |seqEnd g1 => exact absurd h1 g1
 |seqEnd h1 =>
  intro y Q2 h
  cases h with
  |seqGo g1 g2 g3 g4 => exact absurd g1 h1
  |seqEnd g1 => exact ⟨rfl, rfl⟩
 |star h1 h2 bV =>
  intro y Q2 h
  cases h with
  |star g1 g2 => exact bV g2
  |opt g1 g2 => rw [h1] at g1; cases g1
  |none g1 g2 => exact absurd h1 g1
 |opt h1 h2 bV =>
  intro y Q2 h
  cases h with
  |star g1 g2 => rw [h1] at g1; cases g1
  |opt g1 g2 => exact bV g2
  |none g1 g2 => exact absurd h1 g2
 |none h1 h2 =>
  intro y Q2 h
  cases h with
  |star g1 g2 => exact absurd g1 h1
  |opt g1 g2 => exact absurd g1 h2
  |none g1 g2 => exact ⟨rfl, rfl⟩
 |atom h1 =>
  intro y Q2 h
  cases h with
  |atom g1 => exact ⟨rfl, rfl⟩
  |paren g1 g2 g3 g4 => rw [h1] at g1; cases g1
  |bad g1 g2 g3 g4 => rw [h1] at g1; cases g1
 |paren h1 h2 h3 h4 bV ih3 =>
  intro y Q2 h
  cases h with
  |atom g1 => rw [h1] at g1; cases g1
  |paren g1 g2 g3 g4 => obtain ⟨rfl, rfl⟩ := bV g2; obtain ⟨rfl, rfl⟩ := ih3 g3; exact ⟨rfl, rfl⟩
  |bad g1 g2 g3 g4 => obtain ⟨rfl, rfl⟩ := bV g2; obtain ⟨rfl, rfl⟩ := ih3 g3; exact absurd h4 g4
 |bad h1 h2 h3 h4 bV ih3 =>
  intro y Q2 h
  cases h with
  |atom g1 => rw [h1] at g1; cases g1
  |paren g1 g2 g3 g4 => obtain ⟨rfl, rfl⟩ := bV g2; obtain ⟨rfl, rfl⟩ := ih3 g3; exact absurd g4 h4
  |bad g1 g2 g3 g4 => obtain ⟨rfl, rfl⟩ := bV g2; obtain ⟨rfl, rfl⟩ := ih3 g3; exact ⟨rfl, rfl⟩
theorem PR.mono {X : Lx} {t : Nat} {ks : List Rx} {Q : PS} {x : Rx} {Q1 : PS} (h : PR X t ks Q x Q1) : iP Q -> iP Q1 /\ Q.st <= Q1.st := by
 have ha : ∀ Q, (cZ X Q).st = Q.p := fun _ => rfl
 have DL : ∀ Q, (vM Q).st = Q.st := fun _ => rfl
 induction h with
 |altGo h1 h2 h3 bV ih3 =>
  intro hq;have g2 := bV (jw X _);have g3 := ih3 g2.1;rw [ha] at g2;exact ⟨g3.1, by have := hq.1; omega⟩
 |altEnd h1 => exact fun hq => ⟨hq, Nat.le_refl _⟩
 |seqGo h1 h2 h3 h4 bV ih3 ih4 =>
  intro hq;have g2 := bV hq;have g3 := ih3 g2.1;have g4 := ih4 g3.1;exact ⟨g4.1, by omega⟩
 |seqEnd h1 => exact fun hq => ⟨hq, Nat.le_refl _⟩
 |star h1 h2 bV =>
  intro hq;have g2 := bV (jw X _);rw [ha] at g2;exact ⟨g2.1, by have := hq.1; omega⟩
 |opt h1 h2 bV =>
  intro hq;have g2 := bV (jw X _);rw [ha] at g2;exact ⟨g2.1, by have := hq.1; omega⟩
 |none h1 h2 => exact fun hq => ⟨hq, Nat.le_refl _⟩
 |atom h1 => exact fun hq => ⟨jw X _, hq.1⟩
 |paren h1 h2 h3 h4 bV ih3 =>
  intro hq;have g2 := bV (jw X _);have g3 := ih3 g2.1;rw [ha] at g2;exact ⟨jw X _, by rw [ha]; have := hq.1; have := g3.1.1; omega⟩
 |bad h1 h2 h3 h4 bV ih3 =>
  intro hq;have g2 := bV (jw X _);have g3 := ih3 g2.1;rw [ha] at g2;refine ⟨⟨g3.1.1, fun h => absurd rfl h⟩, ?_⟩;rw [DL];have := hq.1;omega
theorem PR.atom_lt {X : Lx} {Q : PS} {x : Rx} {Q1 : PS} (h : PR X 3 [] Q x Q1) (hk : Q.k = 2 \/ Q.k = 40) (hq : iP Q) : Q.st < Q1.st := by
 have hp : Q.st < Q.p := hq.2 (by omega) (by omega);have ha : ∀ Q, (cZ X Q).st = Q.p := fun _ => rfl
 have DL : ∀ Q, (vM Q).st = Q.st := fun _ => rfl
 cases h with
 |atom h1 => exact hp
 |paren h1 h2 h3 h4 =>
  have g2 := h2.mono (jw X _);have g3 := h3.mono g2.1;have := g3.1.1;rw [ha] at g2 ⊢;omega
 |bad h1 h2 h3 h4 =>
  have g2 := h2.mono (jw X _);have g3 := h3.mono g2.1;rw [ha] at g2;rw [DL];omega
def jD (X : Lx) (Q : PS) (x : Rx) (Q1 : PS) : Prop := ∃ r Q0, PR X 1 [] Q r Q0 /\ PR X 0 [r] Q0 x Q1
def xP (X : Lx) (Q : PS) (x : Rx) (Q1 : PS) : Prop := PR X 1 [] Q x Q1
def C8 (X : Lx) (Q : PS) (x : Rx) (Q1 : PS) : Prop := ∃ a Q0, PR X 3 [] Q a Q0 /\ PR X 2 [a] Q0 x Q1
def qb (X : Lx) (Q : PS) (x : Rx) (Q1 : PS) : Prop := PR X 3 [] Q x Q1
end Rgx
def iI (R : Lx -> PS -> Rx -> PS -> Prop) (X : Lx) (q : Nat -> Prop) (Q : PS) (w : World) (e : Ending) (w' : World) : Prop := ∃ r Q1 A n c B m d, e = .returned (.agg #[.int .i64 r.kind, .slice A n c, .slice B m d]) /\ R X Q r Q1 /\ ak (fun b => (q b \/ w.heap.size <= b) /\ b ≠ X.pb /\ b ≠ X.ab) w' r A n c B m d /\ bH X (fun b => q b \/ w.heap.size <= b) Q1 w' /\ Kq X w w'
theorem xC {R : Lx -> PS -> Rx -> PS -> Prop} {X : Lx} {q : Nat -> Prop} {Q : PS} {w : World} {e : Ending} {w' : World} (h : iI R X q Q w e w') : ∃ r Q1 A n c B m d, e = .returned (.agg #[.int .i64 r.kind, .slice A n c, .slice B m d]) /\ R X Q r Q1 /\ ak (fun b => (q b \/ w.heap.size <= b) /\ b ≠ X.pb /\ b ≠ X.ab) w' r A n c B m d /\ bH X (fun b => q b \/ w.heap.size <= b) Q1 w' /\ Kq X w w' := h
namespace Rgx
theorem ak.kq {X : Lx} {p : Nat -> Prop} {w w1 : World} {r : Rx} {A B : Option Addr} {n c m d : Nat} (h : ak p w r A n c B m d) (hk : Kq X w w1) (hp : ∀ b, p b -> b ≠ X.pb /\ b ≠ X.ab) : ak p w1 r A n c B m d :=
 (h.lt7.keep (W := w1) fun b o hb => hk.cell hb.2 (hp b hb.1).1 (hp b hb.1).2).mono fun b hb => hb.1
end Rgx
theorem bH.lts {X : Lx} {q : Nat -> Prop} {Q : PS} {w : World} (h : bH X q Q w) : X.w0.heap.size <= w.heap.size /\ X.pb < w.heap.size /\ X.ab < w.heap.size /\ X.sb < w.heap.size /\ X.lb < w.heap.size /\ X.eb < w.heap.size := by
 obtain ⟨A, n, c, B, m, d, e1, e2⟩ := h.c5;exact ⟨h.hb.size, e1.lt, h.c2.lt, World.block_lt_of_cell? w _ h.c1, World.block_lt_of_cell? w _ h.c3, World.block_lt_of_cell? w _ h.c4⟩
theorem bH.stored {X : Lx} {q : Nat -> Prop} {Q : PS} {w W W1 : World} {G : Nat} {D : List Value} {T : TypeId} (h0 : X.w0.heap.size <= w.heap.size /\ X.pb < w.heap.size /\ X.ab < w.heap.size /\ X.sb < w.heap.size /\ X.lb < w.heap.size /\ X.eb < w.heap.size) (h : bH X q Q W) (hG : w.heap.size <= G) (hst : aT W W1 G D T) (hq : ∀ b, q b -> b ≠ G) : bH X q Q W1 := h.grown (dG hst) (by omega) (by omega) (by omega) (by omega) (by omega) (by omega) hq
theorem Kq.stored {X : Lx} {w W W1 : World} {G : Nat} {D : List Value} {T : TypeId} (h : Kq X w W) (hG : w.heap.size <= G) (hst : aT W W1 G D T) : Kq X w W1 := ⟨hst.2.2.2.1.trans h.os, hst.2.2.2.2.1.trans h.tape, hst.2.2.2.2.2.trans h.output, by rw [hst.2.2.1]; exact h.size, fun k hk a b => (hst.2.1 k (by omega)).trans (h.block k hk a b)⟩
def xu (X : Lx) (N : Nat) : Prop := ∀ (q : Nat -> Prop) (Q : PS) (w : World), (∀ b, b < X.w0.heap.size -> q b) -> bH X q Q w -> iP Q -> X.s.length - Q.st < N -> Calls Tryz.prog 67 #[.pointer (pt X.pb)] w (iI jD X q Q w)
theorem LJ {X : Lx} {N : Nat} (h : xu X N) {q : Nat -> Prop} {Q : PS} {w : World} (h1 : ∀ b, b < X.w0.heap.size -> q b) (h2 : bH X q Q w) (h3 : iP Q) (h4 : X.s.length - Q.st < N) : Calls Tryz.prog 67 #[.pointer (pt X.pb)] w (iI jD X q Q w) := h q Q w h1 h2 h3 h4
theorem P9 (X : Lx) (hx : sU X) (q : Nat -> Prop) (Q : PS) (w : World) (jq : ∀ b, b < X.w0.heap.size -> q b) (h : bH X q Q w) (hk : Q.k = 2) : Calls Tryz.prog 155 #[.pointer (pt X.pb)] w (iI qb X q Q w) := by
 obtain ⟨A, n, c, B, m, d, e1, e2⟩ := h.c5;rw [hk] at e1;obtain ⟨s0, hs0⟩ := eX Q.st;obtain ⟨K, hK⟩ := eX Q.x.kind;rw [<- hs0, <- hK] at e1;have hlt := h.lts;have hb1 : ae (w.alloc zR) w.heap.size zL 25 := ae.at w zL _ 25 _ rfl rfl;have hb2 : ae ((w.alloc zR).alloc zR) (w.heap.size + 1) zL 25 := ae.at (w.alloc zR) zL _ 25 _ rfl (by simp);have hs1 : (w.alloc zR).heap.size = w.heap.size + 1 := by simp
 have hs2 : ((w.alloc zR).alloc zR).heap.size = w.heap.size + 1 + 1 := by simp
 have lT : Bw w (w.alloc zR) := ai _ _;have PP : Bw w ((w.alloc zR).alloc zR) := aF lT _;have rD := (e1.below lT e1.lt).cell (j := 1) rfl;have hr1 : (w.alloc zR).rangeAt X.pb 3 (zV K A n c B m d) := (e1.below lT e1.lt).range 3 3;have HZ2 := Lh hb2;have HST3 := LH (∀ W, aT ((w.alloc zR).alloc zR) W (w.heap.size + 1) (zV K A n c B m d) 25 -> bH X q Q W /\ Kq X w W /\ ae W (w.heap.size + 1) (zV K A n c B m d) 25 /\ ae W w.heap.size zL 25 /\ W.heap.size = w.heap.size + 1 + 1 /\ Bw w W) fun W hst => by
  have fq := hst.below PP (by omega);exact ⟨h.below fq, Kq.of_below fq, hst.1, hst.other (hb1.alloc _) (by omega), by rw [hst.2.2.1, hs2], fq⟩
 have su := LH (∀ W, bH X q Q W -> Cz 66 #[.pointer (pt X.pb)] W (vR X q Q W)) fun W hp => CZ X hx q Q W hp
 have iq := LH (∀ W3 W4, Bw w W3 -> ae W3 (w.heap.size + 1) (zV K A n c B m d) 25 -> ae W3 w.heap.size zL 25 -> W3.heap.size = w.heap.size + 1 + 1 -> bH X (fun b => b < X.w0.heap.size \/ W3.heap.size <= b) (cZ X Q) W4 -> Kq X W3 W4 -> W4.rangeAt (w.heap.size + 1) 0 (zV K A n c B m d) /\ ae W4 w.heap.size zL 25 /\ ∀ W5, aT W4 W5 w.heap.size (zV K A n c B m d) 25 -> iI qb X q Q w (.returned (.agg #[.int .i64 K, .slice A n c, .slice B m d])) W5 /\ ae W5 w.heap.size (zV K A n c B m d) 25) fun W3 W4 fq hr hz hsz hp gJ => by
  have hz4 := gJ.blk hz (by omega) (by omega);have hr4 := gJ.blk hr (by omega) (by omega);refine ⟨fun j u hu => by rw [Nat.zero_add]; exact hr4.cell hu, hz4, fun W5 hst => ⟨⟨Q.x, cZ X Q, A, n, c, B, m, d, by rw [hK], .atom hk, ?_, ?_, ?_⟩, hst.1⟩⟩
  ·have r3 := e2.lt7.below fq;have r4 := r3.kq gJ (fun b hb => hb.1.2);exact (r4.grown (dG hst) (fun b hb e => by have := Option.some.inj e; omega)).mono fun b hb => ⟨.inl hb.1.1, hb.1.2⟩
  ·exact (bH.stored hlt hp (Nat.le_refl _) hst (fun b hb => by omega)).mono fun b hb _ => by
     rcases hb with hb | hb
     ·exact .inl (jq b hb)
     ·exact .inr (by omega)
  ·exact ((Kq.of_below fq).tr gJ).stored (Nat.le_refl _) hst
 clear hx jq h hk e1 e2 hs0 hK hlt hb1 hb2 hs1 hs2 lT PP;go_enter Tryz.func155, Tryz.ntmps155
 go_wp2_with (first
  |(refine aG rfl (.tmp 14) rfl X.pb (3) rfl K A B n c m d hr1 ?_)
  |(refine aG rfl (.tmp 3) rfl (w.heap.size + 1) (0) rfl K A B n c m d hr4 ?_)
  |(refine wB rfl 25 (.tmp 3) (.tmp 15) rfl (w.heap.size + 1) 0 rfl (zV K A n c B m d) rfl HZ2.out 3 au ?_; intro x3 O8; have H3 := Lh (HST3.out x3 O8); clear O8)
  |((with_reducible refine (su.out _ H3.out.1).mono ?_); rintro e x4 hp; obtain ⟨rfl, g1, g2⟩ := xR hp; have H4 := Lh (iq.out x3 x4 H3.out.2.2.2.2.2 H3.out.2.2.1 H3.out.2.2.2.1 H3.out.2.2.2.2.1 g1 g2); have hr4 := H4.out.1; clear hp g1 g2)
  |(refine wB rfl 25 (.tmp 2) (.tmp 18) rfl w.heap.size 0 rfl (zV K A n c B m d) rfl H4.out.2.1 3 au ?_; intro x5 bz; have bf := Lh (H4.out.2.2 x5 bz); clear bz))
 exact cK rfl w.heap.size rfl (C := (zV K A n c B m d)) (T := 25) bf.out.2 _ Tryz.underlying25 rfl au rfl bf.out.1
theorem V4 (X : Lx) (hx : sU X) (N : Nat) (HA : xu X N) (q : Nat -> Prop) (Q : PS) (w : World) (jq : ∀ b, b < X.w0.heap.size -> q b) (h : bH X q Q w) (hk : Q.k = 40) (ax : iP Q) (hN : X.s.length - Q.st < N + 1) : Calls Tryz.prog 155 #[.pointer (pt X.pb)] w (iI qb X q Q w) := by
 have hlt := h.lts;have hpst : Q.st < Q.p := ax.2 (by omega) (by omega);have hple := h.hle;have hs1 : (w.alloc zR).heap.size = w.heap.size + 1 := by simp
 have lT : Bw w (w.alloc zR) := ai _ _;have hb1 : ae (w.alloc zR) w.heap.size zL 25 := ae.at w zL _ 25 _ rfl rfl;have su := LH (∀ q Q W, bH X q Q W -> Cz 66 #[.pointer (pt X.pb)] W (vR X q Q W)) fun q Q W hp => CZ X hx q Q W hp
 have HAD1 := Lh (su.out q Q (w.alloc zR) (h.below lT));have fK := LH (∀ w2, bH X (fun b => b < X.w0.heap.size \/ (w.alloc zR).heap.size <= b) (cZ X Q) w2 -> Kq X (w.alloc zR) w2 -> Cz 67 #[.pointer (pt X.pb)] w2 (iI jD X (fun b => b < X.w0.heap.size \/ w.heap.size + 1 <= b) (cZ X Q) w2)) fun w2 hp gJ => by
  rw [hs1] at hp;exact LJ HA (fun b hb => .inl hb) hp (jw X Q) (by show X.s.length - Q.p < N; omega)
 have Bb := LH (∀ w2 e w3, bH X (fun b => b < X.w0.heap.size \/ (w.alloc zR).heap.size <= b) (cZ X Q) w2 -> Kq X (w.alloc zR) w2 -> iI jD X (fun b => b < X.w0.heap.size \/ w.heap.size + 1 <= b) (cZ X Q) w2 e w3 -> ∃ r Q1 A4 n4 c4 B4 m4 d4, e = .returned (.agg #[.int .i64 r.kind, .slice A4 n4 c4, .slice B4 m4 d4]) /\ jD X (cZ X Q) r Q1 /\ ak (fun b => ((fun b => b < X.w0.heap.size \/ w.heap.size + 1 <= b) b \/ w2.heap.size <= b) /\ b ≠ X.pb /\ b ≠ X.ab) w3 r A4 n4 c4 B4 m4 d4 /\ bH X (fun b => (fun b => b < X.w0.heap.size \/ w.heap.size + 1 <= b) b \/ w2.heap.size <= b) Q1 w3 /\ Kq X (w.alloc zR) w3 /\ w.heap.size + 1 <= w2.heap.size /\ w2.heap.size <= w3.heap.size) fun w2 e w3 hp gJ hh => by
  obtain ⟨r, Q1, A4, n4, c4, B4, m4, d4, rfl, g1, g2, g3, g4⟩ := xC hh;exact ⟨r, Q1, A4, n4, c4, B4, m4, d4, rfl, g1, g2, g3, gJ.tr g4, by have := gJ.size; omega, g4.size⟩
 have HST5 := LH (∀ (w2 w3 : World) (r : Rx) (Q1 : PS) (A4 : Option Addr) (n4 c4 : Nat) (B4 : Option Addr) (m4 d4 : Nat), jD X (cZ X Q) r Q1 /\ ak (fun b => ((fun b => b < X.w0.heap.size \/ w.heap.size + 1 <= b) b \/ w2.heap.size <= b) /\ b ≠ X.pb /\ b ≠ X.ab) w3 r A4 n4 c4 B4 m4 d4 /\ bH X (fun b => (fun b => b < X.w0.heap.size \/ w.heap.size + 1 <= b) b \/ w2.heap.size <= b) Q1 w3 /\ Kq X (w.alloc zR) w3 /\ w.heap.size + 1 <= w2.heap.size /\ w2.heap.size <= w3.heap.size -> ae (w3.alloc zR) w3.heap.size zL 25 /\ ∀ W5, aT (w3.alloc zR) W5 w3.heap.size (zV r.kind A4 n4 c4 B4 m4 d4) 25 -> bH X (fun b => (fun b => b < X.w0.heap.size \/ w.heap.size + 1 <= b) b \/ w2.heap.size <= b) Q1 W5 /\ Kq X (w.alloc zR) W5 /\ ae W5 w3.heap.size (zV r.kind A4 n4 c4 B4 m4 d4) 25 /\ ak (fun b => ((fun b => b < X.w0.heap.size \/ w.heap.size + 1 <= b) b \/ w2.heap.size <= b) /\ b ≠ X.pb /\ b ≠ X.ab) W5 r A4 n4 c4 B4 m4 d4 /\ (∃ v u1 u2 u3 u4, ae W5 X.pb [v, .int .u8 (Q1.k : Int), u1, u2, u3, u4] 82) /\ w3.heap.size < W5.heap.size) fun w2 w3 r Q1 A4 n4 c4 B4 m4 d4 hg => by
  obtain ⟨g1, g2, g3, g4, g5, g6⟩ := hg;refine ⟨ae.at w3 zL _ 25 _ rfl rfl, fun W5 hst => ?_⟩;have bq : Bw w3 W5 := hst.below (ai w3 _) (Nat.le_refl _);have vD := g3.below bq;obtain ⟨A, n, c, B, m, d, e1, e2⟩ := vD.c5;exact ⟨vD, g4.tr (Kq.of_below bq), hst.1, g2.below bq, ⟨_, _, _, _, _, e1⟩, hst.1.lt⟩
 have lW := LH (∀ (w2 w3 : World) (r : Rx) (Q1 : PS) (A4 : Option Addr) (n4 c4 : Nat) (B4 : Option Addr) (m4 d4 : Nat) W6 W7 Q7, jD X (cZ X Q) r Q1 /\ ak (fun b => ((fun b => b < X.w0.heap.size \/ w.heap.size + 1 <= b) b \/ w2.heap.size <= b) /\ b ≠ X.pb /\ b ≠ X.ab) w3 r A4 n4 c4 B4 m4 d4 /\ bH X (fun b => (fun b => b < X.w0.heap.size \/ w.heap.size + 1 <= b) b \/ w2.heap.size <= b) Q1 w3 /\ Kq X (w.alloc zR) w3 /\ w.heap.size + 1 <= w2.heap.size /\ w2.heap.size <= w3.heap.size -> qb X Q r Q7 -> ak (fun b => ((fun b => b < X.w0.heap.size \/ w.heap.size + 1 <= b) b \/ w2.heap.size <= b) /\ b ≠ X.pb /\ b ≠ X.ab) W6 r A4 n4 c4 B4 m4 d4 -> bH X (fun b => b < X.w0.heap.size \/ w.heap.size + 1 <= b) Q7 W6 -> Kq X (w.alloc zR) W6 -> ae W6 w.heap.size zL 25 /\ (aT W6 W7 w.heap.size (zV r.kind A4 n4 c4 B4 m4 d4) 25 -> iI qb X q Q w (.returned (.agg #[.int .i64 r.kind, .slice A4 n4 c4, .slice B4 m4 d4])) W7 /\ ae W7 w.heap.size (zV r.kind A4 n4 c4 B4 m4 d4) 25)) fun w2 w3 r Q1 A4 n4 c4 B4 m4 d4 W6 W7 Q7 hg hr bO hp gJ => by
  obtain ⟨g1, g2, g3, g4, g5, g6⟩ := hg;refine ⟨gJ.blk hb1 (by omega) (by omega), fun hst => ⟨⟨r, Q7, A4, n4, c4, B4, m4, d4, rfl, hr, ?_, ?_, ?_⟩, hst.1⟩⟩
  ·exact (bO.grown (dG hst) (fun b hb e => by have := Option.some.inj e; omega)).mono fun b hb => ⟨by
     rcases hb.1 with (hb | hb) | hb
     · exact .inl (jq b hb)
     · exact .inr (by omega)
     · exact .inr (by omega), hb.2⟩
  ·exact (bH.stored hlt hp (Nat.le_refl _) hst (fun b hb => by omega)).mono fun b hb _ => by
     rcases hb with hb | hb
     · exact .inl (jq b hb)
     · exact .inr (by omega)
  ·exact ((Kq.of_below lT).tr gJ).stored (Nat.le_refl _) hst
 have HX := Lh (And.intro hk hlt);have nT := LH (X.w0.heap.size <= X.pb /\ X.sb ≠ X.pb /\ X.ab ≠ X.pb /\ X.lb ≠ X.pb /\ X.eb ≠ X.pb) ⟨hx.hpb, hx.hne.2.2.1, hx.hne.1, hx.hne.2.2.2.2.1, hx.hne.2.2.2.2.2.2⟩;obtain ⟨A, n, c, B, m, d, e1, e2⟩ := h.c5;have rD := (e1.below lT e1.lt).cell (j := 1) rfl;rw [hk] at rD;clear hx HA jq h hk e1 e2 ax hN hlt hpst hple hs1 lT hb1;go_enter Tryz.func155, Tryz.ntmps155
 go_upto_region 7 with (first
  |((with_reducible refine HAD1.out.mono ?_); rintro e w2 hp; obtain ⟨rfl, g1, g2⟩ := xR hp; have H2 := Lh (And.intro g1 g2); have HAL := Lh (fK.out w2 g1 g2); clear hp g1 g2)
  |((with_reducible refine HAL.out.mono ?_); rintro e w3 hp; obtain ⟨r, Q1, A4, n4, c4, B4, m4, d4, rfl, hg⟩ := Bb.out w2 e w3 H2.out.1 H2.out.2 hp; have H3 := Lh hg; have H4 := Lh (HST5.out w2 w3 r Q1 A4 n4 c4 B4 m4 d4 hg); clear hp hg)
  |(refine wB rfl 25 (.tmp 4) (.tmp 22) rfl w3.heap.size 0 rfl (zV r.kind A4 n4 c4 B4 m4 d4) rfl H4.out.1 3 au ?_; intro x5 bz; have H5 := Lh (H4.out.2 x5 bz); clear bz))
 (try simp only [Act.put]);obtain ⟨fv, u1, u2, u3, u4, hpb⟩ := H5.out.2.2.2.2.1;have gB := Lh hpb;have O7 := hpb.cell (j := 1) rfl;clear hpb rD;obtain ⟨k1, ji⟩ := eX Q1.k;rw [<- ji] at O7;have je := Lh ji
 by_cases h41 : k1 = 41
 ·have HADX := Lh (su.out _ Q1 x5 H5.out.1);have rX := LH (∀ x6, bH X (fun b => b < X.w0.heap.size \/ x5.heap.size <= b) (cZ X Q1) x6 -> Kq X x5 x6 -> x6.rangeAt w3.heap.size 0 (zV r.kind A4 n4 c4 B4 m4 d4) /\ ae x6 w.heap.size zL 25 /\ ∀ W7, aT x6 W7 w.heap.size (zV r.kind A4 n4 c4 B4 m4 d4) 25 -> iI qb X q Q w (.returned (.agg #[.int .i64 r.kind, .slice A4 n4 c4, .slice B4 m4 d4])) W7 /\ ae W7 w.heap.size (zV r.kind A4 n4 c4 B4 m4 d4) 25) fun x6 hp gJ => by
   have hlt := HX.out.2;have h5 := H5.out;have hg := H3.out;have uF := gJ.blk h5.2.2.1 (by have := hg.2.2.2.2; omega) (by have := hg.2.2.2.2; omega);have pE := h5.2.2.2.1.kq gJ (fun b hb => hb.2);have hp6 : bH X (fun b => b < X.w0.heap.size \/ w.heap.size + 1 <= b) (cZ X Q1) x6 := hp.mono fun b hb _ => hb.imp id fun h => by have := hg.2.2.2.2; have := h5.2.2.2.2.2; omega
   obtain ⟨a1, a2, a3, a4⟩ := hg.1;have hat : qb X Q r (cZ X Q1) := .paren HX.out.1 a3 a4 (by rw [<- je.out]; exact h41);have h9 := fun W7 => lW.out w2 w3 r Q1 A4 n4 c4 B4 m4 d4 x6 W7 (cZ X Q1) hg hat pE hp6 (h5.2.1.tr gJ)
   exact ⟨fun j u hu => by rw [Nat.zero_add]; exact uF.cell hu, (h9 x6).1, fun W7 => (h9 W7).2⟩
  subst h41;clear ji
  go_wp2_with (first
   | (refine aG rfl (.tmp 4) rfl w3.heap.size (0) rfl r.kind A4 B4 n4 c4 m4 d4 uF ?_)
   | ((with_reducible refine HADX.out.mono ?_); rintro e x6 hp; obtain ⟨rfl, g1, g2⟩ := xR hp; have H6 := Lh (rX.out x6 g1 g2); have uF := H6.out.1; clear hp g1 g2)
   | (refine wB rfl 25 (.tmp 2) (.tmp 36) rfl w.heap.size 0 rfl (zV r.kind A4 n4 c4 B4 m4 d4) rfl H6.out.2.1 3 au ?_; intro x7 rQ; have jk := Lh (H6.out.2.2 x7 rQ); clear rQ))
  exact cK rfl w.heap.size rfl (C := (zV r.kind A4 n4 c4 B4 m4 d4)) (T := 25) jk.out.2 _ Tryz.underlying25 rfl au rfl jk.out.1
 ·have e1 : ((k1 : Int) != 41) = true := by simp; omega
  have e2 : ((k1 : Int) == 41) = false := bF (by omega);have hfr : x5.frozen? ⟨X.pb, 1, none⟩ = false := gB.out.frozen 1;have rX := LH (∀ x6, x6 = x5.setCell ⟨X.pb, 1, none⟩ (.int .u8 0) -> x6.rangeAt w3.heap.size 0 (zV r.kind A4 n4 c4 B4 m4 d4) /\ ae x6 w.heap.size zL 25 /\ ∀ W7, aT x6 W7 w.heap.size (zV r.kind A4 n4 c4 B4 m4 d4) 25 -> iI qb X q Q w (.returned (.agg #[.int .i64 r.kind, .slice A4 n4 c4, .slice B4 m4 d4])) W7 /\ ae W7 w.heap.size (zV r.kind A4 n4 c4 B4 m4 d4) 25) fun x6 Dk => by
   have hlt := HX.out.2;have h5 := H5.out;have hg := H3.out;obtain ⟨A, n, c, B, m, d, e1, e2⟩ := h5.1.c5;have hst := aT.of_setCell e1 1 (.int .u8 0);rw [<- Dk] at hst;have uF := hst.other h5.2.2.1 (by have := hg.2.2.2.2; omega);have pE := h5.2.2.2.1.grown (dG hst) (fun b hb e => hb.2.1 (Option.some.inj e));have hc := h5.1;have hx0 := nT.out;have hp6 : bH X (fun b => b < X.w0.heap.size \/ w.heap.size + 1 <= b) (vM Q1) x6 := by
     refine ⟨hst.below hc.hb (hx0.1), hc.hle, hst.cell hx0.2.1 hc.c1, hst.other hc.c2 hx0.2.2.1, hst.cell hx0.2.2.2.1 hc.c3, hst.cell hx0.2.2.2.2 hc.c4, A, n, c, B, m, d, hst.1, ?_⟩;exact (e2.grown (dG hst) (fun b hb e => hb.2.1 (Option.some.inj e))).mono fun b hb => ⟨by
       rcases hb.1 with (h | h) | h
       ·exact .inl h
       ·exact .inr h
       ·exact .inr (by have := hg.2.2.2.2; omega), hb.2⟩
   obtain ⟨a1, a2, a3, a4⟩ := hg.1;have hat : qb X Q r (vM Q1) := .bad HX.out.1 a3 a4 (by rw [<- je.out]; exact h41);have gJ : Kq X x5 x6 := ⟨hst.2.2.2.1, hst.2.2.2.2.1, hst.2.2.2.2.2, by rw [hst.2.2.1]; exact Nat.le_refl _, fun k _ a _ => hst.2.1 k a⟩;have h9 := fun W7 => lW.out w2 w3 r Q1 A4 n4 c4 B4 m4 d4 x6 W7 (vM Q1) hg hat pE hp6 (h5.2.1.tr gJ)
   exact ⟨fun j u hu => by rw [Nat.zero_add]; exact uF.cell hu, (h9 x6).1, fun W7 => (h9 W7).2⟩
  clear ji
  go_upto_region 9 with fail
  obtain ⟨x6, Dk⟩ := eX (x5.setCell ⟨X.pb, 1, none⟩ (.int .u8 0));rw [<- Dk];have H6 := Lh (rX.out x6 Dk);have uF := H6.out.1;clear Dk O7 hfr
  go_wp2_with (first
   | (refine aG rfl (.tmp 4) rfl w3.heap.size (0) rfl r.kind A4 B4 n4 c4 m4 d4 uF ?_)
   | (refine wB rfl 25 (.tmp 2) (.tmp 33) rfl w.heap.size 0 rfl (zV r.kind A4 n4 c4 B4 m4 d4) rfl H6.out.2.1 3 au ?_; intro x7 rQ; have jk := Lh (H6.out.2.2 x7 rQ); clear rQ))
  exact cK rfl w.heap.size rfl (C := (zV r.kind A4 n4 c4 B4 m4 d4)) (T := 25) jk.out.2 _ Tryz.underlying25 rfl au rfl jk.out.1
end Go.Proofs.YtakcjlimbabbfaaGreatDoor
