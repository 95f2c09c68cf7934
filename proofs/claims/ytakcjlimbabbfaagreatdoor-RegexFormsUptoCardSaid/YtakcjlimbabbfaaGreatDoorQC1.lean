/- Part of the proof of the laws of layer 7: what they share. -/
import Derived.Test.YtakcjlimbabbfaaGreatDoorQC0
set_option linter.unusedVariables false
set_option linter.unusedSimpArgs false
set_option maxRecDepth 1000000
set_option maxHeartbeats 8000000
namespace Go.Proofs.YtakcjlimbabbfaaGreatDoor
namespace Rgx
theorem Ls {f : Rx -> Rx} : ∀ {ks : List Rx}, (∀ x ∈ ks, f x = x) -> ks.map f = ks
 |[], _ => rfl
 |x :: t, h => by rw [List.map_cons, h x (by simp), Ls fun y hy => h y (by simp [hy])]
theorem Hr {x : Rx} (h : NF x) (h4 : x.kind = 4) : altP x.kids = x := by
 obtain ⟨e, hl, hk⟩ := h.k4 h4;unfold altP;rw [Ca fun y hy => (hk.kin y hy).2, CF h.kids hk]
 match hq : x.kids, hl with
 |a :: b :: t, _ => rw [e, hq]; rfl
theorem SG {x : Rx} (h : NF x) (h3 : x.kind = 3) : seqP x.kids = x := by
 obtain ⟨e, hl, hk⟩ := h.k3 h3;rw [um, Mg hk, if_neg]
 ·match hq : x.kids, hl with
  |a :: b :: t, _ => rw [e, hq]; rfl
 ·rw [Bool.not_eq_true, List.any_eq_false];intro y hy
  simpa using (hk y hy).1
theorem Tv {y : Rx} (h : NF y) (hk : y.kind ≠ 0 /\ y.kind ≠ 1 /\ y.kind ≠ 5) (h1 : y.kind = 4 -> ∀ z ∈ y.kids, z.kind ≠ 1) : starP y = .mk 5 [] [y] := by
 unfold starP;rw [if_neg (by omega), if_neg hk.2.2]
 by_cases h4 : y.kind = 4
 ·rw [if_pos h4, List.filter_eq_self.2 fun z hz => by simpa using h1 h4 z hz, Hr h h4]
 ·rw [if_neg h4]
theorem LY {x : Rx} (h : NF x) : normR false x = x := by
 induction x using Rx.ind with
 |h x ih =>
  have hm : x.kids.map (normR false) = x.kids := Ls fun y hy => ih y hy (h.kids y hy)
  rw [lH, hm]
  by_cases h3 : x.kind = 3
  ·rw [if_pos h3]; exact SG h h3
  ·rw [if_neg h3]
   by_cases h4 : x.kind = 4
   ·rw [if_pos h4]; exact Hr h h4
   ·rw [if_neg h4]
    by_cases h5 : x.kind = 5
    ·rw [if_pos h5];obtain ⟨y, rfl, h6, h7, h8⟩ := h.k5 h5;exact Tv h6 h7 h8
    ·rw [if_neg h5]
def iN (L M : List Rx) : Prop := ∀ A B, seqP (A ++ L ++ B) = seqP (A ++ M ++ B)
def dS (L M : List Rx) : Prop := ∀ A B, altP (A ++ L ++ B) = altP (A ++ M ++ B)
theorem iN.refl (L : List Rx) : iN L L := fun _ _ => rfl
theorem dS.refl (L : List Rx) : dS L L := fun _ _ => rfl
theorem iN.tr {L M K : List Rx} (h1 : iN L M) (h2 : iN M K) : iN L K := fun A B => (h1 A B).trans (h2 A B)
theorem dS.tr {L M K : List Rx} (h1 : dS L M) (h2 : dS M K) : dS L K := fun A B => (h1 A B).trans (h2 A B)
theorem iN.symm {L M : List Rx} (h1 : iN L M) : iN M L := fun A B => (h1 A B).symm
theorem dS.symm {L M : List Rx} (h1 : dS L M) : dS M L := fun A B => (h1 A B).symm
theorem iN.app {L M L2 M2 : List Rx} (h1 : iN L M) (h2 : iN L2 M2) : iN (L ++ L2) (M ++ M2) := fun A B => by
 have e1 := h1 A (L2 ++ B);have e2 := h2 (A ++ M) B;simp only [List.append_assoc] at e1 e2 ⊢;rw [e1, e2]
theorem dS.app {L M L2 M2 : List Rx} (h1 : dS L M) (h2 : dS L2 M2) : dS (L ++ L2) (M ++ M2) := fun A B => by
 have e1 := h1 A (L2 ++ B);have e2 := h2 (A ++ M) B;simp only [List.append_assoc] at e1 e2 ⊢;rw [e1, e2]
theorem iN.in_ {M : List Rx} (h : ∀ x ∈ M, NF x) : iN [seqP M] M := fun A B => by
 have := TH (A := A) (B := B) h
 simpa using this
theorem dS.in_ {M : List Rx} (h : ∀ x ∈ M, NF x) : dS [altP M] M := fun A B => by
 have := Wp (A := A) (B := B) h
 simpa using this
theorem iN.of {L M : List Rx} (h : iN L M) : seqP L = seqP M := by simpa using h [] []
theorem dS.of {L M : List Rx} (h : dS L M) : altP L = altP M := by simpa using h [] []
theorem dS.of_AEq {L M : List Rx} (h : ∀ A B : List Rx, sH (A ++ flatR L ++ B) (A ++ flatR M ++ B)) : dS L M := fun A B => by
 unfold altP;rw [uy, uy, uy, uy, (h _ _).alt]
theorem dS.none : dS [.mk 0 [] []] [] := dS.of_AEq fun A B => by
 rw [show flatR [Rx.mk 0 [] []] = [.mk 0 [] []] from rfl, show flatR [] = [] from rfl];exact sH.drop0
theorem dS.filter {l : List Rx} (h : ∀ x ∈ l, NF x) : dS (l.filter fun x => decide (x.kind ≠ 0)) l := by
 induction l with
 |nil => exact dS.refl _
 |cons x t ih =>
  have bV := ih fun y hy => h y (by simp [hy])
  by_cases h0 : x.kind = 0
  ·rw [List.filter_cons_of_neg (by simp [h0]), (h x (by simp)).k0 h0];exact bV.tr (dS.app dS.none.symm (dS.refl _))
  ·rw [List.filter_cons_of_pos (by simp [h0])];exact dS.app (dS.refl [x]) bV
theorem lJ : ∀ A B : List Rx, aj (A ++ B) = aj A + aj B
 |[], B => by rw [List.nil_append, show aj [] = 0 from by rw [aj]]; omega
 |x :: A, B => by rw [List.cons_append, aj, aj, lJ A B]; omega
theorem xI {x : Rx} : ∀ {l : List Rx}, x ∈ l -> az x <= aj l
 |y :: l, h => by
  rw [aj];have h3 := iF l;have h4 := fQ y
  rcases List.mem_cons.1 h with rfl | h
  ·omega
  ·have := xI h; omega
theorem Hy (p : Rx -> Bool) : ∀ l : List Rx, aj (l.filter p) <= aj l
 |[] => by simp
 |x :: l => by
  have h1 := Hy p l;have h2 := fQ x;rw [List.filter_cons, aj]
  split
  ·rw [aj]; omega
  ·omega
theorem FR (x : Rx) : ∀ l : List Rx, aj (dK l x) <= aj l + az x
 |[] => by rw [dK]; simp only [aj]; omega
 |y :: l => by
  have h := FR x l;have h2 := fQ x;rw [dK]
  split
  ·rw [aj, aj]; omega
  ·split
   ·omega
   ·rw [aj, aj]; omega
theorem Mo : ∀ (l out : List Rx), aj (fw out l) <= aj out + aj l
 |[], out => by show aj out <= _; rw [show aj [] = 0 from by rw [aj]]; omega
 |x :: l, out => by
  have h1 := Mo l (dK out x);have h2 := FR x out;rw [aj];show aj (fw (dK out x) l) <= _;omega
theorem ui (k : Int) (s : List Int) : az (.mk k s []) = 1 := by rw [az, aj]; rfl
theorem CO (k : Int) (s : List Int) (ks : List Rx) : az (.mk k s ks) = 1 + aj ks := by rw [az]
theorem MR (p q r : Rx -> Bool) : ∀ (l : List Rx), (∀ x ∈ l, (p x = true -> q x = false /\ r x = false) /\ (q x = true -> r x = false)) -> aj (l.filter p) + aj (l.filter q) + aj (l.filter r) <= aj l
 |[], _ => by simp [aj]
 |x :: l, h => by
  have h1 := MR p q r l fun y hy => h y (by simp [hy])
  have h2 := fQ x;have h3 := h x (by simp);rw [List.filter_cons, List.filter_cons, List.filter_cons, aj]
  cases hp : p x <;> cases hq : q x <;> cases hr : r x <;> simp [hp, hq, hr] at h3 ⊢ <;> (try simp only [aj]) <;> omega
theorem VT {f : List Rx} (h : ∀ x ∈ f, NF x) : aj (altOut f) <= aj f := by
 have h1 := MR (fun x => decide (2 < x.kind)) (fun x => decide (x.kind = 2)) (fun x => decide (x.kind = 1)) f fun x _ => by
  simp only [decide_eq_true_eq, decide_eq_false_iff_not];omega
 have h2 := Mo (f.filter fun x => decide (2 < x.kind)) [];rw [show aj [] = 0 from by rw [aj]] at h2;have Py : ∀ {p : Rx -> Bool} {x : Rx}, x ∈ f -> p x = true -> 1 <= aj (f.filter p) := fun {p x} hx hp => by
  have := xI (List.mem_filter.2 ⟨hx, hp⟩);have := fQ x;omega
 have h3 : aj (if dR f = [] then fw [] (f.filter fun x => decide (2 < x.kind)) else dK (fw [] (f.filter fun x => decide (2 < x.kind))) (.mk 2 (dR f) [])) <= aj (f.filter fun x => decide (2 < x.kind)) + aj (f.filter fun x => decide (x.kind = 2)) := by
  have hp := iF (f.filter fun x => decide (x.kind = 2))
  split
  ·omega
  ·rename_i hs
   have h4 := FR (.mk 2 (dR f) []) (fw [] (f.filter fun x => decide (2 < x.kind)));rw [ui] at h4;obtain ⟨s, hs1⟩ := List.exists_mem_of_ne_nil _ hs;obtain ⟨_, y, hy, gG⟩ := qY.1 hs1;have gY : y.kind = 2 := by
    by_cases e : y.kind = 2
    ·exact e
    ·rw [(h y hy).syms e] at gG; cases gG
   have := Py (p := fun x => decide (x.kind = 2)) hy (by simpa using gY);omega
 have hp := iF (f.filter fun x => decide (x.kind = 1));show aj (if nA f then dK _ (.mk 1 [] []) else _) <= _
 split
 ·rename_i hc
  obtain ⟨⟨y, hy, iG⟩, _⟩ := ul.1 hc;have h5 := Py (p := fun x => decide (x.kind = 1)) hy (by simpa using iG);have h4 := FR (.mk 1 [] []) (if dR f = [] then fw [] (f.filter fun x => decide (2 < x.kind)) else dK (fw [] (f.filter fun x => decide (2 < x.kind))) (.mk 2 (dR f) []));rw [ui] at h4;omega
 ·omega
theorem Vk (x : Rx) : aj (flt x) <= az x := by
 unfold flt
 split
 ·rw [fP]; omega
 ·rw [aj, aj]; omega
theorem zX : ∀ l : List Rx, aj (flatR l) <= aj l
 |[] => by show aj [] <= aj []; omega
 |x :: l => by
  rw [Lv, lJ, aj];have := Vk x;have := zX l;omega
theorem Qz (F : List Rx) : az (altEnd F) <= 1 + aj F := by
 match F with
 |[] => show az (.mk 0 [] []) <= _; rw [ui, aj]; omega
 |[x] => show az x <= _; rw [aj, aj]; omega
 |x :: y :: t => show az (.mk 4 [] _) <= _; rw [CO]; omega
theorem Mt {l : List Rx} (h : ∀ x ∈ l, NF x) : az (altP l) <= 1 + aj l := by
 have h1 := Qz (altOut (flatR l));have h2 := VT fun x hx => (NF.flatR h x hx).1
 have h3 := zX l;unfold altP;omega
theorem Wl (x : Rx) : aj (spl x) <= az x := by
 have := fQ x;unfold spl
 split
 ·rw [fP]; omega
 ·split
  ·rw [aj]; omega
  ·rw [aj, aj]; omega
theorem NB : ∀ l : List Rx, aj (l.flatMap spl) <= aj l
 |[] => by show aj [] <= aj []; omega
 |x :: l => by
  rw [List.flatMap_cons, lJ, aj];have := Wl x;have := NB l;omega
theorem Oa (l : List Rx) : az (seqP l) <= 1 + aj l := by
 have h1 := NB l;have h2 := iF l;rw [um]
 split
 ·rw [ui]; omega
 ·match hF : l.flatMap spl with
  |[] => show az (.mk 1 [] []) <= _; rw [ui]; omega
  |[x] => rw [hF, aj, aj] at h1; show az x <= _; omega
  |x :: y :: t => rw [hF] at h1; show az (.mk 3 [] _) <= _; rw [CO]; omega
theorem Sn {x : Rx} (h : NF x) : az (starP x) <= 1 + az x := by
 have := fQ x;unfold starP
 split
 ·rw [ui]; omega
 ·split
  ·omega
  ·rw [CO, aj, aj]
   split
   ·have h1 := Mt (l := x.kids.filter fun y => decide (y.kind ≠ 1)) fun y hy => h.kids y (List.mem_filter.1 hy).1
    have h2 := Hy (fun y => decide (y.kind ≠ 1)) x.kids;have h3 := fP x;omega
   ·omega
theorem Ht {f : Rx -> Rx} : ∀ {ks : List Rx}, (∀ x ∈ ks, az (f x) <= az x) -> aj (ks.map f) <= aj ks
 |[], _ => by show aj [] <= aj []; omega
 |x :: t, h => by
  rw [List.map_cons, aj, aj];have := h x (by simp);have := Ht (f := f) (ks := t) fun y hy => h y (by simp [hy])
  omega
theorem Jl : ∀ l : List Rx, aj l.reverse = aj l
 |[] => rfl
 |x :: l => by rw [List.reverse_cons, lJ, Jl l, aj, aj, aj]; omega
theorem zJ {r : Rx} (t : Bool) (h : aC r = true) : az (normR t r) <= az r := by
 induction r using Rx.ind with
 |h r ih =>
  have hm : aj (r.kids.map (normR t)) <= aj r.kids := Ht fun x hx => ih x hx (jL h x hx)
  have hN : ∀ y ∈ r.kids.map (normR t), NF y := fun y hy => by
   obtain ⟨x, hx, rfl⟩ := List.mem_map.1 hy;exact NF.normR t (jL h x hx)
  have hc := fP r;rw [lH]
  by_cases h3 : r.kind = 3
  ·rw [if_pos h3];have h1 := Oa (Cu t (r.kids.map (normR t)));have h2 : aj (Cu t (r.kids.map (normR t))) = aj (r.kids.map (normR t)) := by
    unfold Cu; split
    ·exact Jl _
    ·rfl
   omega
  ·rw [if_neg h3]
   by_cases h4 : r.kind = 4
   ·rw [if_pos h4];have h1 := Mt hN;omega
   ·rw [if_neg h4]
    by_cases h5 : r.kind = 5
    ·rw [if_pos h5]
     rcases kw h with rfl | rfl | ⟨s, rfl, hs⟩ | ⟨ks, rfl, _⟩ | ⟨ks, rfl, _⟩ | ⟨x, rfl, hx⟩
     ·cases h5
     ·cases h5
     ·cases h5
     ·cases h5
     ·cases h5
     ·have h1 := Sn (NF.normR t hx);have h2 := ih x (by simp [Rx.kids]) hx;show az (starP (normR t x)) <= _;rw [CO, aj, aj];omega
    ·rw [if_neg h5]; omega
def dD : List Rx -> List Rx
 |[] => []
 |[x] => [x]
 |x :: y :: t => if bI x y = 0 then dD (y :: t) else x :: dD (y :: t)
theorem F3 : ∀ {l : List Rx} {z : Rx}, z ∈ dD l ↔ z ∈ l
 |[], z => by rw [dD]
 |[x], z => by rw [dD]
 |x :: y :: t, z => by
  rw [dD]
  split
  ·rename_i e
   rw [F3 (l := y :: t), qd.1 e];simp
  ·rw [List.mem_cons, F3 (l := y :: t)];simp
theorem Jh : ∀ {l : List Rx}, l.Pairwise (fun a b => ¬ jE b a) -> ng (dD l)
 |[], _ => by rw [dD]; exact List.Pairwise.nil
 |[x], _ => by rw [dD]; exact List.pairwise_singleton _ _
 |x :: y :: t, h => by
  obtain ⟨h1, h2⟩ := List.pairwise_cons.1 h;obtain ⟨h3, h4⟩ := List.pairwise_cons.1 h2;rw [dD]
  split
  ·exact Jh (l := y :: t) h2
  ·rename_i e
   have kY : jE x y := FM (h1 y (by simp)) fun e2 => e (qd.2 e2.symm)
   refine List.pairwise_cons.2 ⟨fun z hz => ?_, Jh (l := y :: t) h2⟩
   rcases List.mem_cons.1 (F3.1 hz) with rfl | hz
   ·exact kY
   ·by_cases e3 : z = y
    ·subst e3; exact kY
    ·exact kY.tr (FM (h3 z hz) (fun e4 => e3 e4))
theorem IZ (x z : Rx) : dD [x, z] = if bI x z = 0 then [z] else [x, z] := by simp [dD]
theorem OU (x z : Rx) : ∀ l : List Rx, dD (l ++ [x, z]) = if bI x z = 0 then dD (l ++ [x]) else dD (l ++ [x]) ++ [z]
 |[] => by
  show dD [x, z] = if bI x z = 0 then dD [x] else dD [x] ++ [z]
  rw [IZ]
  by_cases e : bI x z = 0
  ·rw [if_pos e, if_pos e, qd.1 e]; rfl
  ·rw [if_neg e, if_neg e]; rfl
 |[a] => by
  show dD [a, x, z] = if bI x z = 0 then dD [a, x] else dD [a, x] ++ [z]
  rw [show dD [a, x, z] = if bI a x = 0 then dD [x, z] else a :: dD [x, z] by rw [dD], IZ, IZ]
  by_cases e : bI x z = 0
  ·have := qd.1 e;subst this;rw [if_pos e, if_pos e]
  ·rw [if_neg e, if_neg e]
   split <;> rfl
 |a :: b :: t => by
  have ih := OU x z (b :: t);show dD (a :: b :: (t ++ [x, z])) = if bI x z = 0 then dD (a :: b :: (t ++ [x])) else dD (a :: b :: (t ++ [x])) ++ [z]
  rw [dD, dD];have bV : dD (b :: (t ++ [x, z])) = if bI x z = 0 then dD (b :: (t ++ [x])) else dD (b :: (t ++ [x])) ++ [z] := ih
  rw [bV]
  split <;> split <;> rfl
def uh (f : List Rx) : List Rx := f.filter (fun x => decide (x.kind ≠ 0 /\ x.kind ≠ 2)) ++ if dR f = [] then [] else [.mk 2 (dR f) []]
def xK (s : List Rx) : List Rx := match s with
 |[] => []
 |x :: t => if x.kind = 1 /\ t.any aO = true then t else x :: t
theorem MC (x : Rx) (t : List Rx) : xK (x :: t) = if x.kind = 1 /\ t.any aO = true then t else x :: t := rfl
theorem MN {z : Rx} (h : 1 < z.kind) : jE (.mk 1 [] []) z := by
 unfold jE;rw [I1, if_pos]
 ·show bG 1 z.kind < 0; exact ww.2 h
 ·show bG 1 z.kind ≠ 0;have := (ww (a := 1) (b := z.kind)).2 h;omega
theorem WJ {f s : List Rx} (h : ∀ x ∈ f, NF x /\ x.kind ≠ 4) (hs : ng s) (hm : ∀ z, z ∈ s ↔ z ∈ uh f) : xK s = altOut f := by
 have hk : ∀ z, z ∈ s ↔ (z ∈ f /\ z.kind ≠ 0 /\ z.kind ≠ 2) \/ (dR f ≠ [] /\ z = .mk 2 (dR f) []) := fun z => by
  rw [hm];unfold uh;rw [List.mem_append, List.mem_filter]
  by_cases e : dR f = []
  ·simp [e]
  ·simp [e]
 have hr : ∀ z ∈ s, 1 <= z.kind := fun z hz => by
  rcases (hk z).1 hz with ⟨h1, h2, _⟩ | ⟨_, rfl⟩
  ·have := (h z h1).1.rng; omega
  ·simp [Rx.kind]
 have hE : ∀ z ∈ s, z.kind = 1 -> z = .mk 1 [] [] := fun z hz e => by
  rcases (hk z).1 hz with ⟨h1, h2, _⟩ | ⟨_, rfl⟩
  ·exact (h z h1).1.k1 e
  ·simp [Rx.kind] at e
 have Ho : ∀ z ∈ s, z.kind ≠ 1 -> aO z = true -> z ∈ f /\ 2 < z.kind := fun z hz e ha => by
  have h0 := hr z hz
  rcases (hk z).1 hz with ⟨h1, h2, h3⟩ | ⟨_, rfl⟩
  ·exact ⟨h1, by omega⟩
  ·rw [CW] at ha; simp [Rx.kind] at ha
 have AX : ∀ z, 2 < z.kind -> (z ∈ f ↔ z ∈ s) := fun z hz => by
  rw [hk];constructor
  ·exact fun h => .inl ⟨h, by omega, by omega⟩
  ·rintro (⟨h1, _⟩ | ⟨_, rfl⟩)
   ·exact h1
   ·simp [Rx.kind] at hz
 have hc : nA f = true ↔ (.mk 1 [] [] : Rx) ∈ s /\ ∀ z ∈ s, z.kind ≠ 1 -> aO z = false := by
  rw [ul];constructor
  ·rintro ⟨⟨x, hx, hx1⟩, h2⟩;refine ⟨?_, fun z hz e => ?_⟩
   ·rw [<- (h x hx).1.k1 hx1]; exact (hk x).2 (.inl ⟨hx, by omega, by omega⟩)
   ·by_cases ha : aO z = true
    ·have h3 := Ho z hz e ha;rw [h2 z h3.1 h3.2] at ha; cases ha
    ·simpa using ha
  ·rintro ⟨h1, h2⟩;refine ⟨⟨.mk 1 [] [], ?_, rfl⟩, fun x hx hk2 => h2 x ((AX x hk2).1 hx) (by omega)⟩
   rcases (hk _).1 h1 with ⟨h3, _⟩ | ⟨_, e⟩
   ·exact h3
   ·cases e
 have key : ∀ res : List Rx, ng res -> (∀ z, z ∈ res ↔ z ∈ s /\ (z.kind = 1 -> nA f = true)) -> res = altOut f := fun res h1 h2 => by
  refine FK h1 (Ch f) fun z => ?_
  rw [h2, mY, hk];constructor
  ·rintro ⟨⟨h3, h4, h5⟩ | h3, h6⟩
   ·have h7 := (h z h3).1.rng
    by_cases e : z.kind = 1
    ·exact .inr (.inr ⟨h6 e, (h z h3).1.k1 e⟩)
    ·exact .inl ⟨h3, by omega⟩
   ·exact .inr (.inl h3)
  ·rintro (⟨h3, h4⟩ | h3 | ⟨h3, rfl⟩)
   ·exact ⟨.inl ⟨h3, by omega, by omega⟩, fun e => by omega⟩
   ·exact ⟨.inr h3, fun e => by rw [h3.2] at e; simp [Rx.kind] at e⟩
   ·have h4 := (hk _).1 (hc.1 h3).1;exact ⟨h4, fun _ => h3⟩
 match s, hs, hk, hr, hE, Ho, AX, hc, key with
 |[], hs, hk, hr, hE, Ho, AX, hc, key => exact key [] hs fun z => by simp
 |x :: t, hs, hk, hr, hE, Ho, AX, hc, key =>
  obtain ⟨h1, h2⟩ := List.pairwise_cons.1 hs;have ht : ∀ z ∈ t, z.kind ≠ 1 := fun z hz e => by
   have hz1 := hE z (by simp [hz]) e;have hx1 := hr x (by simp)
   by_cases e2 : x.kind = 1
   ·have := hE x (by simp) e2;have h3 := h1 z hz;rw [hz1, this] at h3;exact h3.irr
   ·have h3 := h1 z hz;rw [hz1] at h3;exact (h3.asym (MN (by omega)))
  rw [MC]
  by_cases hx : x.kind = 1
  ·by_cases ha : t.any aO = true
   ·rw [if_pos ⟨hx, ha⟩];refine key t h2 fun z => ?_
    have hn : nA f ≠ true := fun e => by
     obtain ⟨y, hy, hya⟩ := List.any_eq_true.1 ha;rw [(hc.1 e).2 y (by simp [hy]) (ht y hy)] at hya; cases hya
    constructor
    ·exact fun hz => ⟨by simp [hz], fun e => absurd e (ht z hz)⟩
    ·rintro ⟨hz, hz2⟩
     rcases List.mem_cons.1 hz with rfl | hz
     ·exact absurd (hz2 hx) hn
     ·exact hz
   ·rw [if_neg fun e => ha e.2];refine key _ hs fun z => ⟨fun hz => ⟨hz, fun e => hc.2 ⟨by rw [<- hE x (by simp) hx]; simp, fun y hy iG => ?_⟩⟩, fun hz => hz.1⟩
    rcases List.mem_cons.1 hy with rfl | hy
    ·exact absurd hx iG
    ·have := List.any_eq_false.1 (by simpa using ha) y hy
     simpa using this
  ·rw [if_neg fun e => hx e.1];refine key _ hs fun z => ⟨fun hz => ⟨hz, fun e => ?_⟩, fun hz => hz.1⟩
   rcases List.mem_cons.1 hz with rfl | hz
   ·exact absurd e hx
   ·exact absurd e (ht z hz)
end Rgx
end Go.Proofs.YtakcjlimbabbfaaGreatDoor
section
namespace Go.Proofs
open Go.Shelf
def W9 : Go.Shelf.Ren := ⟨fun | 99 => 154 | 206 => 171 | n => n, fun | 9 => 9 | 4 => 4 | 3 => 3 | n => n, fun | n => n⟩
theorem Tryz.lays99 : Go.Proofs.Lays.n99 Tryz.prog W9 := {
 mixed := by kernel_rfl
 f99 := Tryz.func154.trans (congrArg some (by kernel_rfl))
 f206 := Tryz.func171.trans (congrArg some (by kernel_rfl))
 t3 := Tryz.underlying3
 a3 := Tryz.isAgg3
 z3 := Tryz.sizeOf3
 v3 := Tryz.zeroValue3
 t4 := Tryz.underlying4
 a4 := Tryz.isAgg4
 z4 := Tryz.sizeOf4
 v4 := Tryz.zeroValue4
 t9 := Tryz.underlying9
 a9 := Tryz.isAgg9
 z9 := Tryz.sizeOf9
 v9 := Tryz.zeroValue9 }
open Go.RowKit Go.Lib in
theorem Tryz.strings_HasPrefix (s p : ByteArray) (w : World) :
 Calls Tryz.prog 154 #[.string s, .string p] w fun e w' => e = .returned (.bool (Lib.hasPrefix s.data.toList p.data.toList)) /\ w' = w := Any.strings_HasPrefix Tryz.lays99 s p w
def Xf : Go.Shelf.Ren := ⟨fun | 107 => 63 | 108 => 94 | n => n, fun | 28 => 22 | 3 => 3 | 4 => 4 | 0 => 0 | n => n, fun | n => n⟩
theorem Tryz.lays107 : Go.Proofs.Lays.n107 Tryz.prog Xf := {
 mixed := by kernel_rfl
 f107 := Tryz.func63.trans (congrArg some (by kernel_rfl))
 f108 := Tryz.func94.trans (congrArg some (by kernel_rfl))
 t0 := Tryz.underlying0
 a0 := Tryz.isAgg0
 z0 := Tryz.sizeOf0
 v0 := Tryz.zeroValue0
 t3 := Tryz.underlying3
 a3 := Tryz.isAgg3
 z3 := Tryz.sizeOf3
 v3 := Tryz.zeroValue3
 t4 := Tryz.underlying4
 a4 := Tryz.isAgg4
 z4 := Tryz.sizeOf4
 v4 := Tryz.zeroValue4
 t28 := Tryz.underlying22
 a28 := Tryz.isAgg22
 z28 := Tryz.sizeOf22
 v28 := Tryz.zeroValue22 }
open Go.Lib in
theorem Tryz.slices_Contains_int (b off n c : Nat) (zs : List Int) (x : Int) (w : World) (hz : n <= zs.length) (AX : n <= 9223372036854775807) (hc : ∀ j, j < zs.length -> w.cell? ⟨b, off + j, none⟩ = some (.int .i64 (zs.getD j 0))) :
 Calls Tryz.prog 63 #[.slice (some ⟨b, off, none⟩) n c, .int .i64 x] w fun e w' => e = .returned (.bool ((zs.take n).contains x)) /\ w' = w := Any.slices_Contains_int Tryz.lays107 b off n c zs x w hz AX hc
open Go.Lib in
theorem Tryz.slices_Contains_int_empty (a : Option Addr) (c : Nat) (x : Int) (w : World) :
 Calls Tryz.prog 63 #[.slice a 0 c, .int .i64 x] w fun e w' => e = .returned (.bool false) /\ w' = w := Any.slices_Contains_int_empty Tryz.lays107 a c x w
def KG : Go.Shelf.Ren := ⟨fun | 6 => 119 | 15 => 142 | 14 => 141 | 28 => 167 | 29 => 168 | 20 => 159 | 21 => 160 | 22 => 161 | 23 => 162 | 24 => 163 | 25 => 164 | 26 => 165 | 27 => 166 | 46 => 174 | 47 => 175 | 48 => 176 | 49 => 177 | 50 => 178 | 57 => 180 | n => n, fun | 22 => 23 | 24 => 25 | 25 => 63 | 3 => 3 | 39 => 150 | 0 => 0 | 53 => 175 | 55 => 72 | 4 => 4 | 46 => 169 | 45 => 168 | 50 => 151 | 5 => 5 | 9 => 9 | 66 => 179 | 70 => 183 | 76 => 185 | 77 => 186 | n => n, fun | n => n⟩
theorem Tryz.sortRx : Go.Proofs.SlLaysF0.n6 Tryz.prog KG := {
 mixed := by kernel_rfl
 f6 := ⟨Tryz.f119.name, by decide, Tryz.func119.trans (congrArg some (by kernel_rfl))⟩
 f14 := ⟨Tryz.f141.name, by decide, Tryz.func141.trans (congrArg some (by kernel_rfl))⟩
 f15 := Tryz.func142.trans (congrArg some (by kernel_rfl))
 f20 := ⟨Tryz.f159.name, by decide, Tryz.func159.trans (congrArg some (by kernel_rfl))⟩
 f21 := ⟨Tryz.f160.name, by decide, Tryz.func160.trans (congrArg some (by kernel_rfl))⟩
 f22 := ⟨Tryz.f161.name, by decide, Tryz.func161.trans (congrArg some (by kernel_rfl))⟩
 f23 := ⟨Tryz.f162.name, by decide, Tryz.func162.trans (congrArg some (by kernel_rfl))⟩
 f24 := ⟨Tryz.f163.name, by decide, Tryz.func163.trans (congrArg some (by kernel_rfl))⟩
 f25 := ⟨Tryz.f164.name, by decide, Tryz.func164.trans (congrArg some (by kernel_rfl))⟩
 f26 := ⟨Tryz.f165.name, by decide, Tryz.func165.trans (congrArg some (by kernel_rfl))⟩
 f27 := ⟨Tryz.f166.name, by decide, Tryz.func166.trans (congrArg some (by kernel_rfl))⟩
 f28 := Tryz.func167.trans (congrArg some (by kernel_rfl))
 f29 := Tryz.func168.trans (congrArg some (by kernel_rfl))
 f46 := ⟨Tryz.f174.name, by decide, Tryz.func174.trans (congrArg some (by kernel_rfl))⟩
 f47 := Tryz.func175.trans (congrArg some (by kernel_rfl))
 f48 := Tryz.func176.trans (congrArg some (by kernel_rfl))
 f49 := ⟨Tryz.f177.name, by decide, Tryz.func177.trans (congrArg some (by kernel_rfl))⟩
 f50 := ⟨Tryz.f178.name, by decide, Tryz.func178.trans (congrArg some (by kernel_rfl))⟩
 f57 := ⟨Tryz.f180.name, by decide, Tryz.func180.trans (congrArg some (by kernel_rfl))⟩
 t0 := Tryz.underlying0
 a0 := Tryz.isAgg0
 z0 := Tryz.sizeOf0
 v0 := Tryz.zeroValue0
 t3 := Tryz.underlying3
 a3 := Tryz.isAgg3
 z3 := Tryz.sizeOf3
 v3 := Tryz.zeroValue3
 t4 := Tryz.underlying4
 a4 := Tryz.isAgg4
 z4 := Tryz.sizeOf4
 v4 := Tryz.zeroValue4
 t5 := Tryz.underlying5
 a5 := Tryz.isAgg5
 z5 := Tryz.sizeOf5
 v5 := Tryz.zeroValue5
 t9 := Tryz.underlying9
 a9 := Tryz.isAgg9
 z9 := Tryz.sizeOf9
 v9 := Tryz.zeroValue9
 t22 := Tryz.underlying23
 a22 := Tryz.isAgg23
 z22 := Tryz.sizeOf23
 v22 := Tryz.zeroValue23
 t25 := Tryz.underlying63
 a25 := Tryz.isAgg63
 z25 := Tryz.sizeOf63
 v25 := Tryz.zeroValue63
 t39 := Tryz.underlying150
 a39 := Tryz.isAgg150
 z39 := Tryz.sizeOf150
 v39 := Tryz.zeroValue150
 t45 := Tryz.underlying168
 a45 := Tryz.isAgg168
 z45 := Tryz.sizeOf168
 v45 := Tryz.zeroValue168
 t46 := Tryz.underlying169
 a46 := Tryz.isAgg169
 z46 := Tryz.sizeOf169
 v46 := Tryz.zeroValue169
 t50 := Tryz.underlying151
 a50 := Tryz.isAgg151
 z50 := Tryz.sizeOf151
 v50 := Tryz.zeroValue151
 t53 := Tryz.underlying175
 a53 := Tryz.isAgg175
 z53 := Tryz.sizeOf175
 v53 := Tryz.zeroValue175
 t55 := Tryz.underlying72
 a55 := Tryz.isAgg72
 z55 := Tryz.sizeOf72
 v55 := Tryz.zeroValue72
 t66 := Tryz.underlying179
 a66 := Tryz.isAgg179
 z66 := Tryz.sizeOf179
 v66 := Tryz.zeroValue179
 t70 := Tryz.underlying183
 a70 := Tryz.isAgg183
 z70 := Tryz.sizeOf183
 v70 := Tryz.zeroValue183
 t76 := Tryz.underlying185
 a76 := Tryz.isAgg185
 z76 := Tryz.sizeOf185
 v76 := Tryz.zeroValue185
 t77 := Tryz.underlying186
 a77 := Tryz.isAgg186
 z77 := Tryz.sizeOf186
 v77 := Tryz.zeroValue186 }
def KE : Go.Shelf.Ren := ⟨fun | 35 => 88 | n => n, fun | 22 => 23 | 23 => 25 | 3 => 3 | 4 => 4 | 0 => 0 | n => n, fun | n => n⟩
theorem Tryz.reverseRx : Go.Proofs.SlLaysE0.n35 Tryz.prog KE := {
 mixed := by kernel_rfl
 f35 := ⟨Tryz.f88.name, by decide, Tryz.func88.trans (congrArg some (by kernel_rfl))⟩
 t0 := Tryz.underlying0
 a0 := Tryz.isAgg0
 z0 := Tryz.sizeOf0
 v0 := Tryz.zeroValue0
 t3 := Tryz.underlying3
 a3 := Tryz.isAgg3
 z3 := Tryz.sizeOf3
 v3 := Tryz.zeroValue3
 t4 := Tryz.underlying4
 a4 := Tryz.isAgg4
 z4 := Tryz.sizeOf4
 v4 := Tryz.zeroValue4
 t22 := Tryz.underlying23
 a22 := Tryz.isAgg23
 z22 := Tryz.sizeOf23
 v22 := Tryz.zeroValue23 }
def KH : Go.Shelf.Ren := ⟨fun | 4 => 150 | n => n, fun | 22 => 23 | 25 => 25 | 3 => 3 | 4 => 4 | 9 => 9 | 20 => 20 | 0 => 0 | n => n, fun | n => n⟩
theorem Tryz.growRx : Go.Proofs.Lays8.n4 Tryz.prog KH := {
 mixed := by kernel_rfl
 f4 := ⟨Tryz.f150.name, by decide, Tryz.func150.trans (congrArg some (by kernel_rfl))⟩
 t0 := Tryz.underlying0
 a0 := Tryz.isAgg0
 z0 := Tryz.sizeOf0
 v0 := Tryz.zeroValue0
 t3 := Tryz.underlying3
 a3 := Tryz.isAgg3
 z3 := Tryz.sizeOf3
 v3 := Tryz.zeroValue3
 t4 := Tryz.underlying4
 a4 := Tryz.isAgg4
 z4 := Tryz.sizeOf4
 v4 := Tryz.zeroValue4
 t9 := Tryz.underlying9
 a9 := Tryz.isAgg9
 z9 := Tryz.sizeOf9
 v9 := Tryz.zeroValue9
 t20 := Tryz.underlying20
 a20 := Tryz.isAgg20
 z20 := Tryz.sizeOf20
 v20 := Tryz.zeroValue20
 t22 := Tryz.underlying23
 a22 := Tryz.isAgg23
 z22 := Tryz.sizeOf23
 v22 := Tryz.zeroValue23 }
end Go.Proofs
end
namespace Go.Proofs.YtakcjlimbabbfaaGreatDoor
section
open Go.RowKit
open Alp
open Rgx
open Go.Sort
theorem Rm {W w' : World} (h : fB W w') : ∃ q os', w' = grow (W.drewN q) os' := by
 refine ⟨0, w'.heap.extract W.heap.size w'.heap.size, ?_⟩;obtain ⟨hb, hd⟩ := h;have hh : w'.heap = W.heap ++ w'.heap.extract W.heap.size w'.heap.size := by
  apply Array.ext_getElem?
  intro k;rw [Array.getElem?_append]
  split
  ·rename_i hk
   exact hb.block k hk
  ·rename_i hk
   by_cases h2 : k < w'.heap.size
   ·rw [Array.getElem?_extract, if_pos (by omega)]
    congr 1
    omega
   ·rw [Array.getElem?_eq_none (by omega), Array.getElem?_eq_none (by simp; omega)]
 cases w' with
 |mk heap tape drawn os output =>
  cases W with
  |mk heap0 tape0 drawn0 os0 output0 =>
   have e1 := hb.os;have e2 := hb.tape;have e3 := hb.output;simp only at e1 e2 e3 hd hh;subst e1 e2 e3 hd;simp only [grow, World.drewN, Nat.add_zero];rw [<- hh]
structure El (p : Nat -> Prop) (w : World) where
 r : Rx
 v1 : Value
 v2 : Value
 ok : aY p w r v1 v2
instance (p : Nat -> Prop) (w : World) : Inhabited (El p w) := ⟨⟨.mk 0 [] [], _, _, (ak.flat p w (by constructor <;> decide)).q⟩⟩
def dA {p : Nat -> Prop} {w : World} (x : El p w) : List Value := [.int .i64 x.r.kind, x.v1, x.v2]
theorem U1 {p : Nat -> Prop} {w : World} : SWO (ltOf fun x y : El p w => bI x.r y.r) where
 irrefl x := by
  show decide (bI x.r x.r < 0) = false;rw [Ib]; rfl
 trans x y z h1 h2 := by
  have h1' : bI x.r y.r < 0 := of_decide_eq_true h1;have h2' : bI y.r z.r < 0 := of_decide_eq_true h2;exact dT (Gr h1' h2')
 ntrans x y z h1 h2 := by
  have h1' : ¬ bI x.r y.r < 0 := of_decide_eq_false h1;have h2' : ¬ bI y.r z.r < 0 := of_decide_eq_false h2;refine dF ?_;show ¬ bI x.r z.r < 0;intro h3
  by_cases e1 : x.r = y.r
  ·rw [e1] at h3; exact h2' h3
  ·exact h2' (Gr (FM h1' e1) h3)
theorem OI {p : Nat -> Prop} {w : World} {xs : List Value} {ks : List Rx} (h : aM p w xs ks) : ∃ d : Array (El p w), d.size = ks.length /\ d.toList.map (·.r) = ks /\ d.toList.flatMap dA = xs := by
 have H : ∀ n, n <= ks.length -> ∃ l : List (El p w), l.map (·.r) = ks.take n /\ l.flatMap dA = xs.take (n * 3) := by
  intro n
  induction n with
  |zero => intro _; exact ⟨[], rfl, by simp⟩
  |succ n ih =>
   intro hn;obtain ⟨l, h1, h2⟩ := ih (by omega);obtain ⟨v1, v2, e1, e2, e3, e4⟩ := h.2 n (by omega);refine ⟨l ++ [⟨ks[n], v1, v2, e4⟩], ?_, ?_⟩
   ·rw [List.map_append, h1, List.take_succ_eq_append_getElem (by omega)]; rfl
   ·rw [List.flatMap_append, h2, show (n + 1) * 3 = n * 3 + 1 + 1 + 1 by omega];have hx := h.1;have g1 := (List.getElem?_eq_some_iff.1 e1);have g2 := (List.getElem?_eq_some_iff.1 e2);have g3 := (List.getElem?_eq_some_iff.1 e3);rw [List.take_succ_eq_append_getElem (by omega : n * 3 + 1 + 1 < xs.length), List.take_succ_eq_append_getElem (by omega : n * 3 + 1 < xs.length), List.take_succ_eq_append_getElem (by omega : n * 3 < xs.length), g1.2, g2.2];have g3' : xs[n * 3 + 1 + 1]'(by omega) = v2 := g3.2;rw [g3'];simp [dA]
 obtain ⟨l, h1, h2⟩ := H ks.length (Nat.le_refl _);refine ⟨l.toArray, ?_, ?_, ?_⟩
 ·have := congrArg List.length h1; simpa using this
 ·simpa using h1
 ·simpa [<- h.1] using h2
theorem FQ {p : Nat -> Prop} {w : World} (d : Array (El p w)) : (flatK dA 3 d).toList = d.toList.flatMap dA := by
 have H : ∀ n, n <= d.size -> (flatK dA 3 d).toList.take (n * 3) = (d.toList.take n).flatMap dA := by
  intro n
  induction n with
  |zero => intro _; simp
  |succ n ih =>
   intro hn;have hs : (flatK dA 3 d).toList.length = d.size * 3 := by simp
   have hg : ∀ c, c < 3 -> ∀ h : n * 3 + c < (flatK dA 3 d).toList.length, (flatK dA 3 d).toList[n * 3 + c] = (dA d[n]!)[c]! := fun c hc h => by
    have h1 := get_flatK dA 3 d (n * 3 + c) (by omega);rw [show (n * 3 + c) / 3 = n by omega, show (n * 3 + c) % 3 = c by omega] at h1;rw [<- h1, getElem!_pos _ _ (by simpa using h)];simp
   have e0 : (flatK dA 3 d).toList[n * 3]'(by omega) = (dA d[n]!)[0]! := hg 0 (by omega) (by omega);have e1 : (flatK dA 3 d).toList[n * 3 + 1]'(by omega) = (dA d[n]!)[1]! := hg 1 (by omega) (by omega);have e2 : (flatK dA 3 d).toList[n * 3 + 1 + 1]'(by omega) = (dA d[n]!)[2]! := hg 2 (by omega) (by omega);rw [show (n + 1) * 3 = n * 3 + 1 + 1 + 1 by omega, List.take_succ_eq_append_getElem (by omega : n * 3 + 1 + 1 < _), List.take_succ_eq_append_getElem (by omega : n * 3 + 1 < _), List.take_succ_eq_append_getElem (by omega : n * 3 < _)];rw [e0, e1, e2, ih (by omega), List.take_succ_eq_append_getElem (by simp; omega), List.flatMap_append, getElem!_pos d n (by omega)];simp [dA]
 have := H d.size (Nat.le_refl _);rw [List.take_of_length_le (by simp), List.take_of_length_le (by simp)] at this;exact this
theorem Ii {w : World} {α : Type} [Inhabited α] (enc : α -> List Value) {g m : Nat} {dk : Array α} {os : Array Obj} {b o : Nat} (hb : b < w.heap.size) (hg : b ≠ g) : (sortWorldK enc 3 w g 0 m dk os).cell? ⟨b, o, none⟩ = w.cell? ⟨b, o, none⟩ := by
 unfold sortWorldK;rw [cell?_grow _ _ _ (by rw [size_putRowK]; exact hb)];exact (cell?_putRowK_other (enc := enc) (k := 3) (Sort.ahead w m) g 0 dk ⟨b, o, none⟩ hg).trans rfl
theorem NL {q0 : Nat -> Prop} (base : Nat) (v : Value) (ks : List Rx) (w : World) (h : aD q0 base v ks w) (hn : ks.length <= 1000000000000) : Calls Tryz.prog 119 #[v, .func (.func 120) #[] #[]] w fun e w' => e = .returned (.tuple #[]) /\ ∃ ts : List Rx, ts.Perm ks /\ ts.Pairwise (fun a b => ¬ jE b a) /\ aD q0 base v ts w' /\ w.grownBy w' v.ownBlock := by
 obtain ⟨xs, hC, hO⟩ := id h;have none : ∀ (A : Option Addr) (c : Nat), v = .slice A 0 c -> ks = [] -> Cz 119 #[v, .func (.func 120) #[] #[]] w fun e w' => e = .returned (.tuple #[]) /\ ∃ ts : List Rx, ts.Perm ks /\ ts.Pairwise (fun a b => ¬ jE b a) /\ aD q0 base v ts w' /\ w.grownBy w' v.ownBlock := fun A c hv hk => by
  have h1 := AnyF.slices_SortFunc_none (P := Tryz.prog) (ρ := KG) { Tryz.sortRx with } A c (.func (.func 120) #[] #[]) w;rw [hv];refine Calls.mono h1 ?_;rintro e w' ⟨he, rfl⟩;subst hk;rw [hv] at h;exact ⟨he, [], List.Perm.refl _, List.Pairwise.nil, h, World.grownBy.refl _ _⟩
 rcases hO.2 with ⟨hv, h0⟩ | ⟨g, cap, cur, hv, hbg, hg, jd, hcm, hcs, EF⟩
 ·exact none _ _ hv (List.eq_nil_of_length_eq_zero h0)
 ·have GM : g < w.heap.size := (Array.getElem?_eq_some_iff.1 hg).1;subst hv;have hC1 : aM (fun b => (q0 b /\ some b ≠ some g) /\ b < w.heap.size) w xs ks := hC.lt;obtain ⟨d, kD, wV, hd3⟩ := OI hC1;have nK := FQ d;rw [hd3] at nK;have hH : HoldsK dA 3 w g 0 d := fun j hj => by
   have yE : j < ks.length * 3 := by simpa [kD] using hj
   have h1 := hO.cellAt j yE;rw [Nat.zero_add];refine ⟨?_, hO.frozenAt j⟩;rw [h1, getElem!_pos _ _ (by simpa using hj), <- nK];simp at hj;simp [hj]
  have hcmp : CmpLays Tryz.prog 120 #[] (dA (p := fun b => (q0 b /\ some b ≠ some g) /\ b < w.heap.size) (w := w)) 3 (fun x y => bI x.r y.r) g 0 d.size w := fun m os dk hs x y => by
   have keep : ∀ z : El (fun b => (q0 b /\ some b ≠ some g) /\ b < w.heap.size) w, aY (fun b => (q0 b /\ some b ≠ some g) /\ b < w.heap.size) (sortWorldK dA 3 w g 0 m dk os) z.r z.v1 z.v2 := fun z => aY.keep (fun b o hp => Ii dA hp.2 (fun e => hp.1.2 (by rw [e]))) _ z.ok
   obtain ⟨A, n, c, B, m1, d1, e1, e2, hx⟩ := (keep x).op;obtain ⟨A2, n2, c2, B2, m2, d2, e3, e4, hy⟩ := (keep y).op;have hc := OT hx.o hy.o;show Cz 120 #[.agg #[.int .i64 x.r.kind, x.v1, x.v2], .agg #[.int .i64 y.r.kind, y.v1, y.v2]] _ _;rw [e1, e2, e3, e4];exact hc.mono fun e w' hp => ⟨hp.1, Rm hp.2⟩
  have hs := AnyQ.slices_SortFunc (P := Tryz.prog) (ρ := KG) Tryz.sortRx 3 (fun _ => by kernel_rfl) (fun _ => by kernel_rfl) dA (fun _ => rfl) (fun x u hu => by
   simp only [dA, List.mem_cons, List.not_mem_nil, or_false] at hu;have tX := x.ok.one
   rcases hu with rfl | rfl | rfl
   ·rfl
   ·exact tX.1
   ·exact tX.2) (fun x y => bI x.r y.r) U1 120 #[] g 0 cap d w Lg hcmp hH GM (by rw [kD]; omega)
  rw [kD] at hs;refine Calls.mono hs ?_;rintro e w' ⟨he, d', q, os, hp, hso, rfl⟩;have hsz : d'.size = ks.length := hp.1.trans kD;have hC' : aM (fun b => q0 b /\ some b ≠ some g) (sortWorldK dA 3 w g 0 q d' os) (d'.toList.flatMap dA) (d'.toList.map (·.r)) := by
   have H : ∀ l : List (El (fun b => (q0 b /\ some b ≠ some g) /\ b < w.heap.size) w), aM (fun b => q0 b /\ some b ≠ some g) (sortWorldK dA 3 w g 0 q d' os) (l.flatMap dA) (l.map (·.r)) := by
    intro l
    induction l with
    |nil => exact aM.nil _ _
    |cons z l ih =>
     rw [List.flatMap_cons, List.map_cons];have hz := aY.keep (W := sortWorldK dA 3 w g 0 q d' os) (fun b o hp => Ii dA hp.2 (fun e => hp.1.2 (by rw [e]))) _ z.ok;exact (aM.one (aY.mono (fun b hb => hb.1) _ hz)).app ih
   exact H d'.toList
  have hgW : (sortWorldK dA 3 w g 0 q d' os).heap[g]? = some (.cells (putCells id 0 (flatK dA 3 d') cur) 25 (0, 0)) := by
   unfold sortWorldK;show ((putRowK dA 3 (Sort.ahead w q) g 0 d').heap ++ os)[g]? = _;rw [Array.getElem?_append_left (by rw [size_putRowK]; exact GM)];show ((Sort.ahead w q).heap.modify g (onCells (putCells id 0 (flatK dA 3 d'))))[g]? = _;rw [Array.getElem?_modify, if_pos rfl];show Option.map _ w.heap[g]? = _;rw [hg]
   rfl
  refine ⟨he, d'.toList.map (·.r), ?_, ?_, ⟨_, by rw [show (Value.slice (some ⟨g, 0, Option.none⟩) ks.length cap).ownBlock = some g from rfl]; exact hC', ?_, .inr ⟨g, cap, _, by simp [hsz], hbg, hgW, by simpa [hsz] using jd, hcm, by simp [putCells, hcs], ?_⟩⟩, ?_⟩
  ·have h2 := hp.2.2;rw [Array.extract_eq_self_of_le (by rw [hsz]; exact Nat.le_refl _), Array.extract_eq_self_of_le (by rw [kD]; exact Nat.le_refl _)] at h2;have := h2.map (fun z : El _ _ => z.r);rw [wV] at this;exact this
  ·rw [List.pairwise_map, List.pairwise_iff_getElem];intro i j hi hj hij;have h2 := hso i j (Nat.zero_le _) hij (by simpa [hsz] using hj);rw [getElem!_pos d' i (by simpa using hi), getElem!_pos d' j (by simpa using hj)] at h2;unfold ltOf at h2;rw [decide_eq_false_iff_not] at h2;show ¬ bI _ _ < 0
   simpa using h2
  ·rw [hC'.1]
  ·have hl : (flatK dA 3 d').toList = d'.toList.flatMap dA := FQ d';rw [<- hl]
   apply List.ext_getElem
   ·simp [putCells, hcs, hsz];rw [Nat.min_eq_left jd]
   ·intro i h1 h2;have h2' : i < d'.size * 3 := by simpa using h2
    simp [putCells, h2']
  ·rw [show (Value.slice (some ⟨g, 0, Option.none⟩) ks.length cap).ownBlock = some g from rfl];refine ⟨rfl, rfl, rfl, by unfold sortWorldK; rw [size_grow, size_putRowK]; exact Nat.le_add_right _ _, fun k hk hne => ?_⟩;unfold sortWorldK;show ((putRowK dA 3 (Sort.ahead w q) g 0 d').heap ++ os)[k]? = _;rw [Array.getElem?_append_left (by rw [size_putRowK]; exact hk)];show ((Sort.ahead w q).heap.modify g (onCells (putCells id 0 (flatK dA 3 d'))))[k]? = _;rw [Array.getElem?_modify, if_neg (fun e => hne (by rw [e]))]
   rfl
end
open Go.RowKit
open Alp
open Rgx
namespace Rgx
def zS (K N : Int) : List Rx -> Rx
 |[] => .mk N [] []
 |[x] => x
 |ks => .mk K [] ks
theorem TU (ks : List Rx) : zS 3 1 ks = seqEnd ks := by
 match ks with
 |[] => rfl
 |[x] => rfl
 |x :: y :: t => rfl
theorem Hu (ks : List Rx) : zS 4 0 ks = altEnd ks := by
 match ks with
 |[] => rfl
 |[x] => rfl
 |x :: y :: t => rfl
end Rgx
theorem lI {p : Nat -> Prop} {w W : World} {r : Rx} {A B : Option Addr} {n c m d : Nat} (h : ak p W r A n c B m d) (hp : ∀ b, p b -> p b \/ w.heap.size <= b) (hb : Bw w W) : dB p w r (.returned (.agg #[.int .i64 r.kind, .slice A n c, .slice B m d])) W := ⟨A, n, c, B, m, d, rfl, h.mono hp, hb⟩
theorem Gn {p : Nat -> Prop} (K N : Int) (hK : fM K) (hN : fM N) (ks : List Rx) (B : Option Addr) (m d : Nat) (hm : m = ks.length) (iA : m <= d) (fG : d <= maxLen) (w : World) (hk : bA p w ks B) (hB : ks ≠ [] -> ∀ b o, B = some ⟨b, o, none⟩ -> p b) (r : Rx) (hr : r = zS K N ks) : Calls Tryz.prog 116 #[.int .i64 K, .int .i64 N, .slice B m d] w (dB p w r) := by
 have HK := LH (bA p w ks B /\ (ks ≠ [] -> ∀ b o, B = some ⟨b, o, none⟩ -> p b) /\ m = ks.length /\ r = zS K N ks /\ (fM K /\ fM N) /\ d <= maxLen) ⟨hk, hB, hm, hr, ⟨hK, hN⟩, fG⟩;clear hk hB hm hr hK hN fG
 by_cases h0 : m = 0
 ·have gQ : ks = [] := List.eq_nil_of_length_eq_zero (by rw [<- HK.out.2.2.1]; exact h0);have xb : ((m : Int) == 0) = true := bT (by omega);have HR := LH (r = .mk N [] []) (by rw [HK.out.2.2.2.1, gQ]; rfl);clear h0 gQ;go_enter Tryz.func116, Tryz.ntmps116
  go_wp2_with (refine wB rfl 25 (.tmp 6) (.tmp 12) rfl w.heap.size 0 rfl (zV N none 0 0 none 0 0) rfl (ae.new' w zL _ 25 rfl) 3 au ?_; intro w4 ag; have aA := LH (ae w4 w.heap.size (zV N none 0 0 none 0 0) 25 /\ Bw w w4) (dC ag); clear ag)
  exact cK rfl w.heap.size rfl (C := (zV N none 0 0 none 0 0)) (T := 25) aA.out.1 _ Tryz.underlying25 rfl au rfl (by rw [HR.out]; exact lI (ak.flat p w4 HK.out.2.2.2.2.1.2) (fun b hb => .inl hb) aA.out.2)
 ·by_cases h1 : m = 1
  ·obtain ⟨b, o, rfl⟩ := HK.out.1.place (by rw [<- HK.out.2.2.1]; omega);obtain ⟨A2, n2, c2, B2, m2, d2, hrg, ax⟩ := HK.out.1.kid (i := 0) (by rw [<- HK.out.2.2.1]; omega);have HX := LH (r = av ks 0) (by
    rw [HK.out.2.2.2.1];obtain ⟨x, hx⟩ := List.length_eq_one_iff.1 (HK.out.2.2.1.symm.trans h1);rw [hx]; rfl)
   obtain ⟨K2, hK2⟩ := eX ((av ks 0).kind);rw [<- hK2] at hrg;have lC := LH (ak p w r A2 n2 c2 B2 m2 d2 /\ K2 = r.kind) ⟨by rw [HX.out]; exact ax, by rw [HX.out]; exact hK2⟩;have aP := LH (∀ W, Bw w W -> W.rangeAt b o (zV K2 A2 n2 c2 B2 m2 d2)) fun W hb => by have := iW hrg hb; simpa using this
   have xb : ((m : Int) == 0) = false := bF (by omega);have yb : ((m : Int) == 1) = true := bT (by omega);have p2 : 0 < m := by omega
   clear h0 h1 hrg ax hK2;go_enter Tryz.func116, Tryz.ntmps116
   go_wp2_with (first
    |(refine aG rfl (.tmp 16) rfl b (o) rfl K2 A2 B2 n2 c2 m2 d2 (aP.out _ (ai _ _)) ?_)
    |(refine wB rfl 25 (.tmp 6) (.tmp 17) rfl w.heap.size 0 rfl (zV K2 A2 n2 c2 B2 m2 d2) rfl (ae.new' w zL _ 25 rfl) 3 au ?_; intro w4 ag; have aA := LH (ae w4 w.heap.size (zV K2 A2 n2 c2 B2 m2 d2) 25 /\ Bw w w4) (dC ag); clear ag))
   exact cK rfl w.heap.size rfl (C := (zV K2 A2 n2 c2 B2 m2 d2)) (T := 25) aA.out.1 _ Tryz.underlying25 rfl au rfl (by rw [lC.out.2]; exact lI (lC.out.1.below aA.out.2) (fun b hb => .inl hb) aA.out.2)
  ·have HR := LH (r = .mk K [] ks) (by
    rw [HK.out.2.2.2.1]
    match ks, HK.out.2.2.1 with
    |[], e => exact absurd e h0
    |[x], e => exact absurd e h1
    |x :: y :: t, _ => rfl)
   have xb : ((m : Int) == 0) = false := bF (by omega);have yb : ((m : Int) == 1) = false := bF (by omega);have G5 := iA;go_enter Tryz.func116, Tryz.ntmps116
   go_wp2_with (refine wB rfl 25 (.tmp 6) (.tmp 20) rfl w.heap.size 0 rfl (zV K none 0 0 B m d) rfl (ae.new' w zL _ 25 rfl) 3 au ?_; intro w4 ag; have aA := LH (ae w4 w.heap.size (zV K none 0 0 B m d) 25 /\ Bw w w4) (dC ag); clear ag)
   exact cK rfl w.heap.size rfl (C := (zV K none 0 0 B m d)) (T := 25) aA.out.1 _ Tryz.underlying25 rfl au rfl (by rw [HR.out]; exact lI (ak.make HK.out.2.2.2.2.1.1 (fun x hx => by cases hx) rfl (Nat.le_refl _) (Nat.zero_le _) (.inl rfl) (fun h => absurd rfl h) HK.out.2.2.1 G5 HK.out.2.2.2.2.2 (HK.out.1.below aA.out.2) HK.out.2.1) (fun b hb => .inl hb) aA.out.2)
namespace Rgx
def qm : List Rx -> Bool
 |[] => false
 |x :: _ => decide (x.kind = 1)
end Rgx
theorem Oh {p : Nat -> Prop} (ks : List Rx) (B : Option Addr) (m d : Nat) (hm : m = ks.length) (iA : m <= d) (fG : d <= 9223372036854775807) (w : World) (hk : bA p w ks B) (V : Bool) (hV : V = qm ks) : Calls Tryz.prog 123 #[.slice B m d] w (aU w V) := by
 by_cases h0 : m = 0
 ·have HE := LH (V = false) (by rw [hV, List.eq_nil_of_length_eq_zero (hm.symm.trans h0)]; rfl);have e2 : decide (0 < m) = false := dF (by omega);clear hV hk hm h0;go_enter Tryz.func123, Tryz.ntmps123;go_wp2_with fail;go_ret;exact ⟨HE.out.symm ▸ rfl, Below.refl _ _⟩
 ·obtain ⟨b, o, rfl⟩ := hk.place (by omega);obtain ⟨A2, n2, c2, B2, m2, d2, hrg, ax⟩ := hk.kid (i := 0) (by omega);obtain ⟨K2, hK2⟩ := eX ((av ks 0).kind);have hc : w.cell? ⟨b, o, none⟩ = some (.int .i64 K2) := by have := hrg 0 _ rfl; rw [<- hK2] at this; simpa using this
  have e2 : decide (0 < m) = true := dT (by omega);have p1 : (0 : Int) < (m : Int) := by omega
  have hVK : V = decide (K2 = 1) := by
   rw [hV, hK2]
   match ks, hm with
   |[], e => exact absurd e h0
   |x :: t, _ => rfl
  by_cases h1 : K2 = 1
  ·have HE := LH (V = true) (by rw [hVK]; exact dT h1);have f2 : (K2 == 1) = true := bT h1;clear hV hk hm h0 hrg ax hK2 hVK;go_enter Tryz.func123, Tryz.ntmps123;go_wp2_with fail;go_ret;exact ⟨HE.out.symm ▸ rfl, Below.refl _ _⟩
  ·have HE := LH (V = false) (by rw [hVK]; exact dF h1);have f2 : (K2 == 1) = false := bF h1;clear hV hk hm h0 hrg ax hK2 hVK;go_enter Tryz.func123, Tryz.ntmps123;go_wp2_with fail;go_ret;exact ⟨HE.out.symm ▸ rfl, Below.refl _ _⟩
namespace Rgx
def dE : Rx -> Rx
 |.mk k s ks => match ks with
  |[x] => if k = 5 then .mk k s [x] else dE x
  |_ => .mk k s ks
theorem Iy {r x : Rx} (h : r.kids = [x]) (h5 : r.kind ≠ 5) : dE r = dE x := by
 cases r with
 |mk k s ks =>
  rw [Rx.kids] at h;subst h;rw [dE, if_neg (show ¬ k = 5 from h5)]
theorem FE {r : Rx} (h : r.kids.length ≠ 1 \/ r.kind = 5) : dE r = r := by
 cases r with
 |mk k s ks =>
  rw [Rx.kids] at h
  match ks, h with
  |[], _ => simp [dE]
  |[x], h =>
   rcases h with h | h
   ·exact absurd rfl h
   ·rw [dE, if_pos (show k = 5 from h)]
  |x :: y :: t, _ => simp [dE]
theorem NI (r : Rx) : SizeOf.sizeOf (dE r) <= SizeOf.sizeOf r /\ az (dE r) <= az r := by
 induction r using Rx.ind with
 |h r ih =>
  by_cases h : r.kids.length ≠ 1 \/ r.kind = 5
  ·rw [FE h]; exact ⟨Nat.le_refl _, Int.le_refl _⟩
  ·obtain ⟨x, hx⟩ := List.length_eq_one_iff.1 (by omega : r.kids.length = 1);rw [Iy hx (by omega)];have h1 : x ∈ r.kids := by rw [hx]; simp
   have h2 := ih x h1;have h3 := jZ h1;have h4 := Ni h1;omega
theorem Co {r : Rx} (h : aC r = true) : aC (dE r) = true /\ normR false (dE r) = normR false r /\ ((dE r).kids.length ≠ 1 \/ (dE r).kind = 5) := by
 induction r using Rx.ind with
 |h r ih =>
  by_cases hs : r.kids.length ≠ 1 \/ r.kind = 5
  ·rw [FE hs]; exact ⟨h, rfl, hs⟩
  ·obtain ⟨x, hx⟩ := List.length_eq_one_iff.1 (by omega : r.kids.length = 1);rw [Iy hx (by omega)];have h1 : x ∈ r.kids := by rw [hx]; simp
   have hv := jL h x h1;have h2 := ih x h1 hv;refine ⟨h2.1, h2.2.1.trans ?_, h2.2.2⟩;have hn := NF.normR false hv
   rcases kw h with rfl | rfl | ⟨s, rfl, _⟩ | ⟨ks, rfl, _⟩ | ⟨ks, rfl, _⟩ | ⟨y, rfl, _⟩
   ·cases hx
   ·cases hx
   ·cases hx
   ·rw [Rx.kids] at hx;subst hx;rw [lH false (.mk 3 [] [x]), if_pos (show (Rx.mk 3 [] [x]).kind = 3 from rfl)];exact (V5 hn).symm
   ·rw [Rx.kids] at hx;subst hx;rw [lH false (.mk 4 [] [x]), if_neg (show ¬ (Rx.mk 4 [] [x]).kind = 3 by simp [Rx.kind]), if_pos (show (Rx.mk 4 [] [x]).kind = 4 from rfl)];exact (TE hn).symm
   ·exact absurd (Or.inr rfl) hs
end Rgx
theorem QF {p : Nat -> Prop} (r : Rx) (A B : Option Addr) (n c m d : Nat) (w : World) (h : ak p w r A n c B m d) : Calls Tryz.prog 117 #[.agg #[.int .i64 r.kind, .slice A n c, .slice B m d]] w fun e w' => ∃ A n c B m d, e = .returned (.agg #[.int .i64 (dE r).kind, .slice A n c, .slice B m d]) /\ ak p w' (dE r) A n c B m d /\ Bw w w' := by
 obtain ⟨K, hK⟩ := eX r.kind;have HX := LH (ak p w r A n c B m d /\ K = r.kind) ⟨h, hK⟩;rw [<- hK];clear h hK;go_enter Tryz.func117, Tryz.ntmps117;go_wp2_with fail
 go_loopg [] (SizeOf.sizeOf r) (fun g wr => ∃ (x : Rx) (A1 B1 : Option Addr) (n1 c1 m1 d1 : Nat) (K1 : Int), Hid (SizeOf.sizeOf x <= g /\ dE x = dE r /\ ak p w x A1 n1 c1 B1 m1 d1 /\ K1 = x.kind /\ ae wr w.heap.size (zV K1 A1 n1 c1 B1 m1 d1) 25 /\ ae wr (w.heap.size + 1) zL 25 /\ Bw w wr))
 case atStart => exact ⟨r, A, B, n, c, m, d, K, Lh ⟨Nat.le_refl _, rfl, HX.out.1, HX.out.2, (ae.at w (zV K A n c B m d) _ 25 _ rfl rfl).alloc _, ae.at (w.alloc (zC K A n c B m d)) zL _ 25 _ rfl (by simp), aF (ai _ _) _⟩⟩
 case round =>
  obtain ⟨x, A1, B1, n1, c1, m1, d1, K1, HI⟩ := hrel;have hb0 := HI.out.2.2.2.2.1.cell (j := 0) rfl;have hb2 := HI.out.2.2.2.2.1.cell (j := 2) rfl
  by_cases h1 : m1 = 1
  ·have e1 : decide ((m1 : Int) = 1) = true := dT (by omega);have e2 : ((m1 : Int) == 1) = true := bT (by omega)
   by_cases h5 : K1 = 5
   ·have f1 : decide (K1 = 5) = true := dT h5;have f2 : (K1 == 5) = true := bT h5;have f3 : (K1 != 5) = false := by rw [bne, f2]; rfl
    have HU := LH (dE r = x) (by rw [<- HI.out.2.1]; exact FE (.inr (by rw [<- HI.out.2.2.2.1]; exact h5)));have bO := aS HI.out.2.2.2.2.1;clear h1 h5
    go_wp2_with (first
     | (refine aG rfl (.tmp 1) rfl w.heap.size (0) rfl K1 A1 B1 n1 c1 m1 d1 bO ?_)
     | (refine wB rfl 25 (.tmp 2) (.tmp 16) rfl (w.heap.size + 1) 0 rfl (zV K1 A1 n1 c1 B1 m1 d1) rfl HI.out.2.2.2.2.2.1 3 au ?_; intro w4 ag; have aA := LH (ae w4 (w.heap.size + 1) (zV K1 A1 n1 c1 B1 m1 d1) 25 /\ Bw w w4) ⟨ag.1, ag.below HI.out.2.2.2.2.2.2 (by omega)⟩; clear ag))
    exact cK rfl (w.heap.size + 1) rfl (C := (zV K1 A1 n1 c1 B1 m1 d1)) (T := 25) aA.out.1 _ Tryz.underlying25 rfl au rfl (by rw [HU.out, HI.out.2.2.2.1]; exact ⟨_, _, _, _, _, _, rfl, HI.out.2.2.1.below aA.out.2, aA.out.2⟩)
   ·have f1 : decide (K1 = 5) = false := dF h5;have f2 : (K1 == 5) = false := bF h5;have f3 : (K1 != 5) = true := by rw [bne, f2]; rfl
    obtain ⟨y, hy⟩ := List.length_eq_one_iff.1 (by rw [<- HI.out.2.2.1.o.mlen]; exact h1 : x.kids.length = 1);have jg := HI.out.2.2.1.kids.1;obtain ⟨b, o, rfl⟩ := jg.place (by rw [hy]; simp);obtain ⟨A2, n2, c2, B2, m2, d2, hrg, ax⟩ := jg.kid (i := 0) (by rw [hy]; simp);have oG : av x.kids 0 = y := by rw [hy]; rfl
    rw [oG] at hrg ax;have hyx := jZ (show y ∈ x.kids by rw [hy]; simp);obtain ⟨g, rfl⟩ : ∃ g, gk = g + 1 := ⟨gk - 1, by have := HI.out.1; omega⟩;obtain ⟨K2, hK2⟩ := eX y.kind;rw [<- hK2] at hrg;have aP := LH (wr.rangeAt b o (zV K2 A2 n2 c2 B2 m2 d2)) (by have := iW hrg HI.out.2.2.2.2.2.2; simpa using this);have HY := LH (SizeOf.sizeOf y <= g /\ dE y = dE r /\ ak p w y A2 n2 c2 B2 m2 d2 /\ K2 = y.kind) ⟨by have := HI.out.1; omega, by rw [<- Iy hy (by rw [<- HI.out.2.2.2.1]; exact h5)]; exact HI.out.2.1, ax, hK2⟩;have p2 : 0 < m1 := by omega
    clear h1 h5 hy jg hrg ax oG hyx hK2
    go_wp2_with (first
     | (refine aG rfl (.tmp 14) rfl b (o) rfl K2 A2 B2 n2 c2 m2 d2 aP.out ?_)
     | (refine wB rfl 25 (.tmp 1) (.tmp 15) rfl w.heap.size 0 rfl (zV K2 A2 n2 c2 B2 m2 d2) rfl HI.out.2.2.2.2.1 3 au ?_; intro w4 ag; have aA := LH (ae w4 w.heap.size (zV K2 A2 n2 c2 B2 m2 d2) 25 /\ ae w4 (w.heap.size + 1) zL 25 /\ Bw w w4) ⟨ag.1, ag.other HI.out.2.2.2.2.2.1 (by omega), ag.below HI.out.2.2.2.2.2.2 (Nat.le_refl _)⟩; clear ag))
    go_roundg g
    case rel => exact ⟨y, A2, B2, n2, c2, m2, d2, K2, Lh ⟨HY.out.1, HY.out.2.1, HY.out.2.2.1, HY.out.2.2.2, aA.out⟩⟩
    case measure => omega
  ·have e1 : decide ((m1 : Int) = 1) = false := dF (by omega);have e2 : ((m1 : Int) == 1) = false := bF (by omega);have HU := LH (dE r = x) (by rw [<- HI.out.2.1]; exact FE (.inl (by rw [<- HI.out.2.2.1.o.mlen]; exact h1)));have bO := aS HI.out.2.2.2.2.1
   go_wp2_with (first
    |(refine aG rfl (.tmp 1) rfl w.heap.size (0) rfl K1 A1 B1 n1 c1 m1 d1 bO ?_)
    |(refine wB rfl 25 (.tmp 2) (.tmp 16) rfl (w.heap.size + 1) 0 rfl (zV K1 A1 n1 c1 B1 m1 d1) rfl HI.out.2.2.2.2.2.1 3 au ?_; intro w4 ag; have aA := LH (ae w4 (w.heap.size + 1) (zV K1 A1 n1 c1 B1 m1 d1) 25 /\ Bw w w4) ⟨ag.1, ag.below HI.out.2.2.2.2.2.2 (by omega)⟩; clear ag))
   exact cK rfl (w.heap.size + 1) rfl (C := (zV K1 A1 n1 c1 B1 m1 d1)) (T := 25) aA.out.1 _ Tryz.underlying25 rfl au rfl (by rw [HU.out, HI.out.2.2.2.1]; exact ⟨_, _, _, _, _, _, rfl, HI.out.2.2.1.below aA.out.2, aA.out.2⟩)
theorem il {p : Nat -> Prop} {w W : World} {r : Rx} {A B : Option Addr} {n c m d g : Nat} {D : List Value} {T : TypeId} (h : ak p w r A n c B m d) (hs : aT w W g D T) (hp : ∀ b, p b -> b ≠ g) : ak p W r A n c B m d := by
 have hq := aY.keep (W := W) (fun b o hb => World.cell?_of_block (hs.2.1 b (hp b hb))) r h.q;obtain ⟨A', n', c', B', m', d', e1, e2, h2⟩ := hq.op;simp only [Value.slice.injEq] at e1 e2;obtain ⟨rfl, rfl, rfl⟩ := e1;obtain ⟨rfl, rfl, rfl⟩ := e2;exact h2
theorem FL {p : Nat -> Prop} (w : World) (hp : ∀ b, p b -> b < w.heap.size) (l : List Rx) (B : Option Addr) (m d : Nat) (hm : m = l.length) (iA : m <= d) (fG : d <= 9223372036854775807) (hN : ∀ x ∈ l, NF x) (hc : aj l <= 1000000000000) (hk : bA p w l B) : Calls Tryz.prog 81 #[.slice B m d] w (dB p w (seqP l)) := by
 obtain ⟨i0, aZ, hz0, hz1, hz2⟩ := info_parts lG;obtain ⟨q, hq⟩ : ∃ q : Nat -> Prop, q = fun b => (p b \/ w.heap.size < b) := ⟨_, rfl⟩
 have HL := LH (m = l.length /\ bA p w l B /\ ∀ x ∈ l, NF x) ⟨hm, hk, hN⟩;have iw := LH (aj l <= 1000000000000 /\ ∀ i, aj (l.take i) <= aj l) ⟨hc, fun i => vU i⟩;have HQ := LH ((∀ b, p b -> q b) /\ (∀ b, w.heap.size < b -> q b) /\ (∀ b, q b -> b ≠ w.heap.size) /\ (∀ b, q b -> p b \/ w.heap.size <= b) /\ ∀ b, p b -> b < w.heap.size) (by subst hq; exact ⟨fun b h => .inl h, fun b h => .inr h, fun b h => by rcases h with h | h; (have := hp b h; omega); omega, fun b h => by rcases h with h | h; exact .inl h; exact .inr (by omega), hp⟩);have HZ := LH (∀ W, Below (w.alloc zR).heap.size (w.alloc zR) W -> ae W w.heap.size zL 25) fun W hb => (ae.new' w zL _ 25 rfl).below hb (by simp)
 clear hm hk hN hc hp hq;go_enter Tryz.func81, Tryz.ntmps81;go_wp2_with fail
 go_loopg [3, 8] m (fun g s3 s8 wr => ∃ (i : Nat) (rs : List Rx), i + g = m /\ s8 = .int .i64 (i : Int) /\ Hid (seqGo (l.drop i) rs = seqGo l [] /\ (rs.length : Int) <= aj (l.take i) /\ aD q (w.heap.size + 1) s3 rs wr /\ Below (w.alloc zR).heap.size (w.alloc zR) wr))
 case atStart => exact ⟨0, [], by omega, rfl, Lh ⟨rfl, by simp [aj], aD.nil _ _ _, Below.refl _ _⟩⟩
 case round =>
  obtain ⟨i, rs, hi, rfl, HI⟩ := hrel;obtain ⟨B5, d5, hv, tL, lF, jg⟩ := HI.out.2.2.1.e;subst hv;have Ev := Lh jg;obtain ⟨xs, hC, hO⟩ := HI.out.2.2.1;have HC := Lh hC;have HO := Lh hO;have bg := LH (Bw w wr) (ah (ai _ _) HI.out.2.2.2);have HO_base := LH (w.heap.size + 1 <= wr.heap.size) (by have := HI.out.2.2.2.size; simpa using this);have rZ := LH (∀ b, p b -> q b /\ some b ≠ (Value.slice B5 rs.length d5).ownBlock) fun b hb => ⟨HQ.out.1 b hb, fun e => by
   have h1 := (HO.out.lt b e.symm).1;have := HQ.out.2.2.2.2 b hb;omega⟩
  have HNB := LH (∀ b, (q b \/ wr.heap.size <= b) -> b ≠ w.heap.size) fun b hb => by
   rcases hb with hb | hb
   ·exact HQ.out.2.2.1 b hb
   ·have := HO_base.out; omega
  have HQW := LH (∀ b, (q b \/ wr.heap.size <= b) -> p b \/ w.heap.size <= b) fun b hb => by
   rcases hb with hb | hb
   ·exact HQ.out.2.2.2.1 b hb
   ·exact .inr (by have := HO_base.out; omega)
  clear jg hC hO
  by_cases hlt : i < m
  ·obtain ⟨gg, rfl⟩ : ∃ g, gk = g + 1 := ⟨gk - 1, by omega⟩;have aH : i < l.length := by rw [<- HL.out.1]; exact hlt
   obtain ⟨b, o, rfl⟩ := HL.out.2.1.place (by omega);obtain ⟨A, n, c, B2, m2, d2, hrg, ax⟩ := HL.out.2.1.kid aH;obtain ⟨x, hx⟩ := eX (av l i);rw [<- hx] at hrg ax;obtain ⟨K, hK⟩ := eX x.kind;rw [<- hK] at hrg;have aP := Lh (iW hrg bg.out);have gz := Lh ax;have bQ := LH (K = x.kind /\ x = av l i) ⟨hK, hx⟩;have nT := LH (NF x) (HL.out.2.2 x (by rw [hx]; exact gU aH));have HST := LH (seqGo (l.drop i) rs = if x.kind = 0 then none else if x.kind = 3 then seqGo (l.drop (i + 1)) (rs ++ x.kids) else if x.kind = 1 then seqGo (l.drop (i + 1)) rs else seqGo (l.drop (i + 1)) (rs ++ [x])) (by rw [KL aH, hx, gI aH]);have lw := LH (aj (l.take (i + 1)) = aj (l.take i) + az x /\ 1 <= az x /\ aj (l.take (i + 1)) <= 1000000000000) ⟨by rw [zB aH, hx, gI aH], fQ x, by have := iw.out.1; have := iw.out.2 (i + 1); omega⟩;clear hrg ax hx hK aH
   by_cases k0 : K = 0
   ·skip
    have HE := LH (seqP l = x) (by
     have h1 := HI.out.1;rw [HST.out, if_pos (by rw [<- bQ.out.1]; exact k0)] at h1;unfold seqP;rw [<- h1];exact ((nT.out).k0 (by rw [<- bQ.out.1]; exact k0)).symm)
    have ab : (K == 0) = true := bT (by omega);clear k0
    go_wp2_with (first
     | (refine aG rfl (.tmp 10) rfl b (o + i * 3) rfl K A B2 n c m2 d2 aP.out ?_)
     | (refine wB rfl 25 (.tmp 5) (.tmp 11) rfl wr.heap.size 0 rfl (zV K A n c B2 m2 d2) rfl (ae.new' wr zL _ 25 rfl) 3 au ?_; intro w4 ag; have aA := LH (ae w4 wr.heap.size (zV K A n c B2 m2 d2) 25 /\ Bw wr w4) (dC ag); clear ag; have gF := LH (Below (w.alloc zR).heap.size (w.alloc zR) w4) (ah HI.out.2.2.2 aA.out.2); have hc0 := aA.out.1.cell (j := 0) rfl; have hc2 := aA.out.1.cell (j := 2) rfl; have bO := aS aA.out.1)
     | (refine aG rfl (.tmp 5) rfl wr.heap.size (0) rfl K A B2 n c m2 d2 bO ?_)
     | (refine wB rfl 25 (.tmp 2) (.tmp 20) rfl w.heap.size 0 rfl (zV K A n c B2 m2 d2) rfl (HZ.out _ gF.out) 3 au ?_; intro w5 ag; have lU := LH (ae w5 w.heap.size (zV K A n c B2 m2 d2) 25 /\ Bw w w5) ⟨ag.1, ag.below (ah (ai _ _) gF.out) (Nat.le_refl _)⟩; clear ag))
    exact cK rfl w.heap.size rfl (C := (zV K A n c B2 m2 d2)) (T := 25) lU.out.1 _ Tryz.underlying25 rfl au rfl (by rw [HE.out, bQ.out.1]; exact lI (gz.out.below lU.out.2) (fun b hb => .inl hb) lU.out.2)
   ·by_cases k1 : K = 1
    ·skip
     have HN := LH (seqGo (l.drop (i + 1)) rs = seqGo l [] /\ (rs.length : Int) <= aj (l.take (i + 1))) ⟨by
       have h1 := HI.out.1;rw [HST.out, if_neg (by rw [<- bQ.out.1]; omega), if_neg (by rw [<- bQ.out.1]; omega), if_pos (by rw [<- bQ.out.1]; exact k1)] at h1;exact h1, by have := HI.out.2.1; have := lw.out; omega⟩
     have ab : (K == 0) = false := bF (by omega);have bb : (K == 1) = true := bT (by omega);clear k1
     go_wp2_with (first
       | (refine aG rfl (.tmp 10) rfl b (o + i * 3) rfl K A B2 n c m2 d2 aP.out ?_)
       | (refine wB rfl 25 (.tmp 5) (.tmp 11) rfl wr.heap.size 0 rfl (zV K A n c B2 m2 d2) rfl (ae.new' wr zL _ 25 rfl) 3 au ?_; intro w4 ag; have aA := LH (ae w4 wr.heap.size (zV K A n c B2 m2 d2) 25 /\ Bw wr w4) (dC ag); clear ag; have gF := LH (Below (w.alloc zR).heap.size (w.alloc zR) w4) (ah HI.out.2.2.2 aA.out.2); have hc0 := aA.out.1.cell (j := 0) rfl; have hc2 := aA.out.1.cell (j := 2) rfl; have bO := aS aA.out.1))
     go_roundg gg
     case rel => exact ⟨i + 1, rs, by omega, by go_num, Lh ⟨HN.out.1, HN.out.2, HI.out.2.2.1.below aA.out.2, gF.out⟩⟩
     case measure => omega
    ·by_cases k3 : K = 3
     · skip
       have HN := LH (seqGo (l.drop (i + 1)) (rs ++ x.kids) = seqGo l [] /\ ((rs ++ x.kids).length : Int) <= aj (l.take (i + 1))) ⟨by
         have h1 := HI.out.1;rw [HST.out, if_neg (by rw [<- bQ.out.1]; omega), if_pos (by rw [<- bQ.out.1]; exact k3)] at h1;exact h1, by rw [List.length_append]; have := HI.out.2.1; have := lw.out; have := vZ x; omega⟩
       have hs1 : rs.length + m2 <= maxLen := by have h1 := HN.out.2; rw [List.length_append, <- gz.out.o.mlen] at h1; have := lw.out.2.2; unfold maxLen; omega
       have hs2 : (rs.length + m2) * 56 <= 140737488355328 := by have h1 := HN.out.2; rw [List.length_append, <- gz.out.o.mlen] at h1; have := lw.out.2.2; omega
       have ab : (K == 0) = false := bF (by omega);have bb : (K == 1) = false := bF (by omega);have cb : (K == 3) = true := bT (by omega);clear k3
       go_wp2_with (first
         | (refine aG rfl (.tmp 10) rfl b (o + i * 3) rfl K A B2 n c m2 d2 aP.out ?_)
         | (refine wB rfl 25 (.tmp 5) (.tmp 11) rfl wr.heap.size 0 rfl (zV K A n c B2 m2 d2) rfl (ae.new' wr zL _ 25 rfl) 3 au ?_; intro w4 ag; have aA := LH (ae w4 wr.heap.size (zV K A n c B2 m2 d2) 25 /\ Bw wr w4) (dC ag); clear ag; have gF := LH (Below (w.alloc zR).heap.size (w.alloc zR) w4) (ah HI.out.2.2.2 aA.out.2); have hc0 := aA.out.1.cell (j := 0) rfl; have hc2 := aA.out.1.cell (j := 2) rfl; obtain ⟨ys, gG, jl⟩ := zY (w := w4) (size := i0.size) hz1 gz.out.o.mlen (gz.out.kids.1.below (ah bg.out aA.out.2)) (d := d2); have pY := Lh (gG.mono rZ.out); have oI := Lh jl; clear gG jl)
         | (at_builtin; refine gW rfl (.tmp 25) (.tmp 27) 23 23 rfl (w.heap.size + 1) 25 i0 _ 3 56 Tryz.underlying23 aZ hz0 hz1 hz2 rfl _ _ _ rfl (gu HO.out aA.out.2) _ m2 ys rfl (oI.out) hs1 hs2 (Nat.le_trans (HO_base.out) (aA.out.2).size) ?_; intro v5 w5 ed cB dW; have bf := LH (aD q (w.heap.size + 1) v5 (rs ++ x.kids) w5 /\ Below (w.alloc zR).heap.size (w.alloc zR) w5) ⟨aD.app HC.out aA.out.2 pY.out gz.out.o.mlen cB dW ed, eH (gF.out) cB (fun g hg => by have h9 := (HO.out.lt _ hg).1; first | exact h9 | (simpa using h9))⟩; clear ed cB dW))
       go_roundg gg
       case rel => exact ⟨i + 1, rs ++ x.kids, by omega, by go_num, Lh ⟨HN.out.1, HN.out.2, bf.out.1, bf.out.2⟩⟩
       case measure => omega
     · skip
       have HN := LH (seqGo (l.drop (i + 1)) (rs ++ [x]) = seqGo l [] /\ ((rs ++ [x]).length : Int) <= aj (l.take (i + 1))) ⟨by
         have h1 := HI.out.1;rw [HST.out, if_neg (by rw [<- bQ.out.1]; omega), if_neg (by rw [<- bQ.out.1]; omega), if_neg (by rw [<- bQ.out.1]; omega)] at h1;exact h1, by rw [List.length_append]; have := HI.out.2.1; have := lw.out; have := fQ x; simp; omega⟩
       have hs1 : rs.length + 1 <= maxLen := by have h1 := HN.out.2; rw [List.length_append] at h1; have := lw.out.2.2; unfold maxLen; simp at h1; omega
       have hs2 : (rs.length + 1) * 56 <= 140737488355328 := by have h1 := HN.out.2; rw [List.length_append] at h1; have := lw.out.2.2; simp at h1; omega
       have ab : (K == 0) = false := bF (by omega);have bb : (K == 1) = false := bF (by omega);have cb : (K == 3) = false := bF (by omega)
       go_wp2_with (first
         | (refine aG rfl (.tmp 10) rfl b (o + i * 3) rfl K A B2 n c m2 d2 aP.out ?_)
         | (refine wB rfl 25 (.tmp 5) (.tmp 11) rfl wr.heap.size 0 rfl (zV K A n c B2 m2 d2) rfl (ae.new' wr zL _ 25 rfl) 3 au ?_; intro w4 ag; have aA := LH (ae w4 wr.heap.size (zV K A n c B2 m2 d2) 25 /\ Bw wr w4) (dC ag); clear ag; have gF := LH (Below (w.alloc zR).heap.size (w.alloc zR) w4) (ah HI.out.2.2.2 aA.out.2); have hc0 := aA.out.1.cell (j := 0) rfl; have hc2 := aA.out.1.cell (j := 2) rfl; have bO := aS aA.out.1)
         | (refine aG rfl (.tmp 5) rfl wr.heap.size (0) rfl K A B2 n c m2 d2 bO ?_)
         | (at_builtin; refine gW rfl (.tmp 14) (.tmp 16) 23 23 rfl (w.heap.size + 1) 25 i0 _ 3 56 Tryz.underlying23 aZ hz0 hz1 hz2 rfl _ _ _ rfl (gu HO.out (aF aA.out.2 _)) _ 1 (zV K A n c B2 m2 d2) rfl (jR hz1 _ _ _ _ _ _ _ _) hs1 hs2 (Nat.le_trans (HO_base.out) ((aF aA.out.2 _)).size) ?_; intro v5 w5 ed cB dW; have bf := LH (aD q (w.heap.size + 1) v5 (rs ++ [x]) w5 /\ Below (w.alloc zR).heap.size (w.alloc zR) w5) ⟨aD.app HC.out (aF aA.out.2 _) (by rw [bQ.out.1]; exact aM.one (aY.mono rZ.out _ ((gz.out.below (aF (ah bg.out aA.out.2) _)).q))) rfl cB dW ed, eH (aF gF.out _) cB (fun g hg => by have h9 := (HO.out.lt _ hg).1; first | exact h9 | (simpa using h9))⟩; clear ed cB dW))
       go_roundg gg
       case rel => exact ⟨i + 1, rs ++ [x], by omega, by go_num, Lh ⟨HN.out.1, HN.out.2, bf.out.1, bf.out.2⟩⟩
       case measure => omega
  ·obtain rfl : i = m := by omega
   have HE := LH (seqP l = seqEnd rs) (by
    have h1 := HI.out.1;rw [HL.out.1, List.drop_length, seqGo] at h1;unfold seqP;rw [<- h1])
   have HJ := LH (Cz 116 #[.int .i64 3, .int .i64 1, .slice B5 rs.length d5] wr (dB q wr (seqEnd rs))) (Gn (p := q) 3 1 (by constructor <;> decide) (by constructor <;> decide) rs B5 rs.length d5 rfl tL lF wr (Ev.out.1.mono fun b hb => hb.1) (fun hne b o hB => by
    obtain ⟨g, e, h1, _⟩ := Ev.out.2 hne;rw [hB] at e;have e2 : b = g := by simp only [Option.some.injEq, Addr.mk.injEq] at e; exact e.1
    exact HQ.out.2.1 b (by omega)) _ (TU rs).symm)
   obtain ⟨R, hR⟩ := eX (seqEnd rs);rw [<- hR] at HE HJ;clear hR
   go_wp2_with (first
    |((with_reducible refine HJ.out.mono ?_); rintro e w6 hp; obtain ⟨A9, n9, c9, B9, m9, d9, rfl, h9, fo⟩ := dV hp; have H9 := LH (ak (fun b => q b \/ wr.heap.size <= b) w6 R A9 n9 c9 B9 m9 d9 /\ Below (w.alloc zR).heap.size (w.alloc zR) w6) ⟨h9, ah HI.out.2.2.2 fo⟩; clear hp h9 fo)
    |(refine wB rfl 25 (.tmp 2) (.tmp 31) rfl w.heap.size 0 rfl (zV R.kind A9 n9 c9 B9 m9 d9) rfl (HZ.out _ H9.out.2) 3 au ?_; intro w7 ag; have qp := LH (ae w7 w.heap.size (zV R.kind A9 n9 c9 B9 m9 d9) 25 /\ Bw w w7 /\ ak (fun b => q b \/ wr.heap.size <= b) w7 R A9 n9 c9 B9 m9 d9) ⟨ag.1, ag.below (ah (ai _ _) H9.out.2) (Nat.le_refl _), il H9.out.1 ag HNB.out⟩; clear ag))
   exact cK rfl w.heap.size rfl (C := (zV R.kind A9 n9 c9 B9 m9 d9)) (T := 25) qp.out.1 _ Tryz.underlying25 rfl au rfl (by rw [HE.out]; exact ⟨_, _, _, _, _, _, rfl, qp.out.2.2.mono HQW.out, qp.out.2.1⟩)
theorem Cc {P : Program} {t e : TypeId} {i : TypeInfo} (h : P.underlying t = some (.slice e)) (hi : P.info? e = some i) (b o m d k : Nat) (hk : k <= m) (hm : m <= d) : ∃ o', (k < d -> o' = o + k * i.size) /\ ∀ w, (Instr.slice t (.slice (some ⟨b, o, none⟩) m d) (some (.int .i64 (k : Int))) none none).run P w = .ok (.slice (some ⟨b, o', none⟩) (m - k) (d - k)) w := by
 have h2 : (k : Int) <= (m : Int) := by omega
 by_cases hd : d = k
 ·refine ⟨o, fun h => by omega, fun w => ?_⟩;simp [Instr.slice, Instr.sliceBounds, Instr.sliceBound, asIntOf, run_underlying h, sizeOf, typeInfo, hi, h2, hd, go_sem];intro h3;omega
 ·refine ⟨o + k * i.size, fun _ => rfl, fun w => ?_⟩;simp [Instr.slice, Instr.sliceBounds, Instr.sliceBound, asIntOf, run_underlying h, sizeOf, typeInfo, hi, h2, hd, go_sem];intro h3;omega
namespace Rgx
theorem bA.tail {p : Nat -> Prop} {w : World} {x : Rx} {t : List Rx} {b o o' : Nat} (h : bA p w (x :: t) (some ⟨b, o, none⟩)) (ho : t ≠ [] -> o' = o + 3) : bA p w t (some ⟨b, o', none⟩) := fun i hi => by
 obtain ⟨b', o2, v1, v2, e, h1, h2, h3, h4⟩ := h (i + 1) (by simpa using hi);obtain ⟨rfl, rfl⟩ : b = b' /\ o = o2 := by simpa using e
 have e2 := ho (List.ne_nil_of_length_pos (by omega));subst e2;exact ⟨b, o + 3, v1, v2, rfl, by rw [show o + 3 + i * 3 = o + (i + 1) * 3 by omega]; exact h1, by rw [show o + 3 + i * 3 + 1 = o + (i + 1) * 3 + 1 by omega]; exact h2, by rw [show o + 3 + i * 3 + 2 = o + (i + 1) * 3 + 2 by omega]; exact h3, h4⟩
theorem Qn {x : Rx} (h : NF x) (h4 : x.kind = 4) : starP x = .mk 5 [] [if qm x.kids then zS 4 0 x.kids.tail else x] := by
 obtain ⟨e, hl, hk⟩ := h.k4 h4;have hn := h.kids;unfold starP;rw [if_neg (by omega), if_neg (by omega), if_pos h4]
 match hq : x.kids, hl, hk, hn with
 |a :: t, hl, hk, hn =>
  obtain ⟨h1, h2⟩ := List.pairwise_cons.1 hk.srt;have ht : ∀ z ∈ t, z.kind ≠ 1 := fun z hz e1 => by
   have h3 := h1 z hz;have ha := hk.kin a (by simp);have hra := (hn a (by simp)).rng;rw [(hn z (by simp [hz])).k1 e1] at h3
   by_cases e2 : a.kind = 1
   ·rw [(hn a (by simp)).k1 e2] at h3; exact h3.irr
   ·exact h3.asym (MN (by omega))
  by_cases ha : a.kind = 1
  ·rw [List.filter_cons_of_neg (by simp [ha]), List.filter_eq_self.2 fun z hz => by simpa using ht z hz];have hb : qm (a :: t) = true := by simp [qm, ha]
   rw [if_pos hb, List.tail_cons, Hu];have hkt : xy t := ⟨fun z hz => hk.kin z (by simp [hz]), h2, fun y hy z hz => hk.one y (by simp [hy]) z (by simp [hz]), fun ⟨y, hy, e1⟩ => absurd e1 (ht y hy)⟩;unfold altP;rw [Ca fun z hz => (hkt.kin z hz).2, CF (fun z hz => hn z (by simp [hz])) hkt]
  ·have hb : qm (a :: t) = false := by simp [qm, ha]
   rw [hb];rw [List.filter_eq_self.2 fun z hz => by
    rcases List.mem_cons.1 hz with rfl | hz
    ·simpa using ha
    ·simpa using ht z hz, <- hq, Hr h h4]
   rfl
end Rgx
theorem Hz {p : Nat -> Prop} {w0 W w9 : World} {y : Rx} {A B : Option Addr} {n c m d g : Nat} {D : List Value} {T : TypeId} (h : ak p W y A n c B m d) (hs : aT (W.alloc (zC y.kind A n c B m d)) w9 g D T) (hp : ∀ b, p b -> b ≠ g) (hg : g < W.heap.size) (hW : p W.heap.size) {G : Nat} (hG : G = W.heap.size) : ak p w9 (.mk 5 [] [y]) none 0 0 (pt G) 1 1 := by
 subst hG;have h1 := il (h.below (ai W _)) hs hp;have hB : ae w9 W.heap.size (zV y.kind A n c B m d) 25 := hs.other (ae.at W _ _ 25 _ rfl rfl) (by omega);refine ak.make (by constructor <;> decide) (fun x hx => by cases hx) rfl (Nat.le_refl _) (Nat.zero_le _) (.inl rfl) (fun h => absurd rfl h) rfl (Nat.le_refl _) (by unfold maxLen; omega) (aM.e (aM.one h1.q) fun j v hv => by rw [Nat.zero_add]; exact hB.cell hv) fun _ b o e => by
  have e2 : W.heap.size = b := by simp only [Option.some.injEq, Addr.mk.injEq] at e; exact e.1
  rw [<- e2]; exact hW
theorem Wh {p : Nat -> Prop} (w : World) (hp : ∀ b, p b -> b < w.heap.size) (r : Rx) (hn : NF r) (A B : Option Addr) (n c m d : Nat) (h : ak p w r A n c B m d) : Calls Tryz.prog 84 #[.agg #[.int .i64 r.kind, .slice A n c, .slice B m d]] w (dB p w (starP r)) := by
 obtain ⟨i0, aZ, hz0, hz1, hz2⟩ := info_parts lG;obtain ⟨K, hK⟩ := eX r.kind;obtain ⟨q, hq⟩ : ∃ q : Nat -> Prop, q = fun b => (p b \/ w.heap.size + 1 < b) := ⟨_, rfl⟩
 have HX := LH (ak p w r A n c B m d /\ K = r.kind /\ NF r) ⟨h, hK, hn⟩;have rZ := LH (∀ b, p b -> q b) (by subst hq; exact fun b h => .inl h);have rT := LH (∀ b, q b -> b ≠ w.heap.size + 1) (by subst hq; exact fun b h => by rcases h with h | h; (have := hp b h; omega); omega);have HQN := LH (∀ g, w.heap.size + 1 < g -> q g) (by subst hq; exact fun b h => .inr h);have HQP := LH (∀ b, q b -> p b \/ w.heap.size <= b) (by subst hq; exact fun b h => by rcases h with h | h; exact .inl h; exact .inr (by omega));have HNG0 := LH (∀ b, q b -> b ≠ w.heap.size) (by subst hq; exact fun b h => by rcases h with h | h; (have := hp b h; omega); omega);have bK := LH (ae ((w.alloc (zC K A n c B m d)).alloc zR) w.heap.size (zV K A n c B m d) 25) ((ae.at w (zV K A n c B m d) _ 25 _ rfl rfl).alloc _);have HZ := LH (ae ((w.alloc (zC K A n c B m d)).alloc zR) (w.heap.size + 1) zL 25) (ae.at (w.alloc (zC K A n c B m d)) zL _ 25 _ rfl (by simp));have HQ1 := LH (∀ b, (p b \/ w.heap.size + 1 < b) -> q b) (by subst hq; exact fun b h => h);rw [<- hK];clear h hK hn hp hq
 by_cases k0 : K = 0
 ·skip
  have ab : (K == 0) = true := bT (by omega);have HR := LH (starP r = .mk 1 [] []) (by unfold starP; rw [if_pos (.inl (by rw [<- HX.out.2.1]; exact k0))]);clear k0;go_enter Tryz.func84, Tryz.ntmps84
  go_wp2_with (refine wB rfl 25 (.tmp 2) (.tmp 7) rfl (w.heap.size + 1) 0 rfl (zV 1 none 0 0 none 0 0) rfl HZ.out 3 au ?_; intro w9 ag; have aB := LH (ae w9 (w.heap.size + 1) (zV 1 none 0 0 none 0 0) 25 /\ Bw w w9) ⟨ag.1, ag.below (aF (ai _ _) _) (by omega)⟩; clear ag)
  exact cK rfl (w.heap.size + 1) rfl (C := (zV 1 none 0 0 none 0 0)) (T := 25) aB.out.1 _ Tryz.underlying25 rfl au rfl (by rw [HR.out]; exact lI (ak.flat p w9 (by constructor <;> decide)) (fun b hb => .inl hb) aB.out.2)
 ·by_cases DU : K = 1 \/ K = 5
  ·have HR := LH (starP r = r) (by
    unfold starP
    rcases DU with e | e
    ·rw [if_pos (.inr (by rw [<- HX.out.2.1]; exact e)), (HX.out.2.2.k1 (by rw [<- HX.out.2.1]; exact e))]
    ·rw [if_neg (by rw [<- HX.out.2.1]; omega), if_pos (by rw [<- HX.out.2.1]; exact e)])
   have bO := aS bK.out
   rcases DU with k1 | k5
   ·skip
    have ab : (K == 0) = false := bF (by omega);have bb : (K == 1) = true := bT (by omega);clear k0 k1;go_enter Tryz.func84, Tryz.ntmps84
    go_wp2_with (first
     |(refine aG rfl (.tmp 1) rfl w.heap.size (0) rfl K A B n c m d bO ?_)
     |(refine wB rfl 25 (.tmp 2) (.tmp 17) rfl (w.heap.size + 1) 0 rfl (zV K A n c B m d) rfl HZ.out 3 au ?_; intro w9 ag; have aB := LH (ae w9 (w.heap.size + 1) (zV K A n c B m d) 25 /\ Bw w w9) ⟨ag.1, ag.below (aF (ai _ _) _) (by omega)⟩; clear ag))
    exact cK rfl (w.heap.size + 1) rfl (C := (zV K A n c B m d)) (T := 25) aB.out.1 _ Tryz.underlying25 rfl au rfl (by rw [HR.out, HX.out.2.1]; exact lI (HX.out.1.below aB.out.2) (fun b hb => .inl hb) aB.out.2)
   ·skip
    have ab : (K == 0) = false := bF (by omega);have bb : (K == 1) = false := bF (by omega);have cb : (K == 5) = true := bT (by omega);clear k0 k5;go_enter Tryz.func84, Tryz.ntmps84
    go_wp2_with (first
     |(refine aG rfl (.tmp 1) rfl w.heap.size (0) rfl K A B n c m d bO ?_)
     |(refine wB rfl 25 (.tmp 2) (.tmp 17) rfl (w.heap.size + 1) 0 rfl (zV K A n c B m d) rfl HZ.out 3 au ?_; intro w9 ag; have aB := LH (ae w9 (w.heap.size + 1) (zV K A n c B m d) 25 /\ Bw w w9) ⟨ag.1, ag.below (aF (ai _ _) _) (by omega)⟩; clear ag))
    exact cK rfl (w.heap.size + 1) rfl (C := (zV K A n c B m d)) (T := 25) aB.out.1 _ Tryz.underlying25 rfl au rfl (by rw [HR.out, HX.out.2.1]; exact lI (HX.out.1.below aB.out.2) (fun b hb => .inl hb) aB.out.2)
  ·have hnk : K ≠ 1 /\ K ≠ 5 := ⟨fun e => DU (.inl e), fun e => DU (.inr e)⟩;have ab : (K == 0) = false := bF (by omega);have bb : (K == 1) = false := bF (by omega);have cb : (K == 5) = false := bF (by omega)
   by_cases k4 : K = 4
   ·skip
    have db : (K == 4) = true := bT (by omega);have HT := Lh (Qn HX.out.2.2 (by rw [<- HX.out.2.1]; exact k4));have hl := (HX.out.2.2.k4 (by rw [<- HX.out.2.1]; exact k4)).2.1;have mP := HX.out.1.o.mlen;obtain ⟨X, hX⟩ := eX (qm r.kids);rw [<- hX] at HT;have AC := LH (∀ W, Bw w W -> Cz 123 #[.slice B m d] W (aU W X)) fun W hb => Oh r.kids B m d HX.out.1.o.mlen HX.out.1.o.mcap HX.out.1.o.dmax W (HX.out.1.kids.1.below hb) X hX
    clear k0 DU k4 hX
    cases X
    ·have HR := LH (starP r = .mk 5 [] [r]) (by rw [HT.out]; rfl);have EA := LH (K = r.kind) HX.out.2.1;clear hl mP;go_enter Tryz.func84, Tryz.ntmps84
     go_wp2_with (first
      | ((with_reducible refine (AC.out _ (aF (ai _ _) _)).mono ?_); rintro e w1 hp; obtain ⟨rfl, hb⟩ := aV hp; have H1 := LH (Below ((w.alloc (zC K A n c B m d)).alloc zR).heap.size ((w.alloc (zC K A n c B m d)).alloc zR) w1) hb; have bO := aS (bK.out.below hb (by simp <;> omega)); have hb2 := (bK.out.below hb (by simp <;> omega)).cell (j := 2) rfl; have iY := Lh (HZ.out.below hb (by simp <;> omega)); have kZ := LH (Bw w w1 /\ w.heap.size + 1 < w1.heap.size) ⟨ah (aF (ai _ _) _) hb, by have := hb.size; simp at this; omega⟩; clear hp hb)
      | (refine aG rfl (.tmp 1) rfl w.heap.size (0) rfl K A B n c m d bO ?_)
      | (refine wB rfl 25 (.tmp 2) (.tmp 33) rfl (w.heap.size + 1) 0 rfl (zV 5 none 0 0 (pt w1.heap.size) 1 1) rfl ((iY.out).alloc _) 3 au ?_; intro w9 ag; have aB := LH (ae w9 (w.heap.size + 1) (zV 5 none 0 0 (pt w1.heap.size) 1 1) 25 /\ Bw w w9 /\ ak q w9 (.mk 5 [] [r]) none 0 0 (pt w1.heap.size) 1 1) ⟨ag.1, ag.below (aF (kZ.out.1) _) (by omega), Hz (w0 := w) ((HX.out.1.below kZ.out.1).mono rZ.out) (by rw [<- EA.out]; exact ag) rT.out kZ.out.2 (HQN.out _ (kZ.out.2)) (by first | rfl | simp)⟩; clear ag))
     exact cK rfl (w.heap.size + 1) rfl (C := (zV 5 none 0 0 (pt w1.heap.size) 1 1)) (T := 25) aB.out.1 _ Tryz.underlying25 rfl au rfl (by rw [HR.out]; exact ⟨_, _, _, _, _, _, rfl, aB.out.2.2.mono HQP.out, aB.out.2.1⟩)
    ·obtain ⟨y, hy⟩ := eX (zS 4 0 r.kids.tail);have HR := LH (starP r = .mk 5 [] [y]) (by rw [HT.out, hy]; rfl);obtain ⟨b, o, rfl⟩ := HX.out.1.kids.1.place (by omega);obtain ⟨o', ho', hcut⟩ := Cc (P := Tryz.prog) Tryz.underlying23 aZ b o m d 1 (by omega) HX.out.1.o.mcap;obtain ⟨m', hm'⟩ : ∃ m', m = m' + 1 := ⟨m - 1, by omega⟩;obtain ⟨d', hd'⟩ : ∃ d', d = d' + 1 := ⟨d - 1, by have := HX.out.1.o.mcap; omega⟩;have HTL := LH (∀ W, Bw w W -> bA p W r.kids.tail (some ⟨b, o', none⟩)) fun W hb => by
      have h1 := HX.out.1.kids.1.below hb
      match hq : r.kids, hl with
      | z :: t, _ =>
        rw [hq] at h1;exact h1.tail fun _ => by rw [ho' (by have := HX.out.1.o.mcap; omega), hz1]
     have HJN := LH (∀ W, Bw w W -> Cz 116 #[.int .i64 4, .int .i64 0, .slice (some ⟨b, o', none⟩) m' d'] W (dB p W y)) fun W hb => Gn (p := p) 4 0 (by constructor <;> decide) (by constructor <;> decide) r.kids.tail (some ⟨b, o', none⟩) m' d' (by rw [List.length_tail]; omega) (by have := HX.out.1.o.mcap; omega) (by have := HX.out.1.o.dmax; unfold maxLen; omega) W (HTL.out W hb) (fun hne b2 o2 e => by
        have e2 : b = b2 := by simp only [Option.some.injEq, Addr.mk.injEq] at e; exact e.1
        rw [<- e2];exact HX.out.1.kids.2 (by intro e3; rw [e3] at hl; simp at hl) b o rfl) _ hy
     have hcut2 : ∀ W, (Instr.slice 23 (.slice (some ⟨b, o, none⟩) m d) (some (.int .i64 1)) none none).run Tryz.prog W = .ok (.slice (some ⟨b, o', none⟩) m' d') W := fun W => by have := hcut W; rwa [show m - 1 = m' by omega, show d - 1 = d' by omega] at this
     clear hl mP hcut ho' hy hm' hd';go_enter Tryz.func84, Tryz.ntmps84
     go_wp2_with (first
      | ((with_reducible refine (AC.out _ (aF (ai _ _) _)).mono ?_); rintro e w1 hp; obtain ⟨rfl, hb⟩ := aV hp; have H1 := LH (Below ((w.alloc (zC K A n c (some ⟨b, o, none⟩) m d)).alloc zR).heap.size ((w.alloc (zC K A n c (some ⟨b, o, none⟩) m d)).alloc zR) w1) hb; have bO := aS (bK.out.below hb (by simp <;> omega)); have hb2 := (bK.out.below hb (by simp <;> omega)).cell (j := 2) rfl; have iY := Lh (HZ.out.below hb (by simp <;> omega)); have kZ := LH (Bw w w1 /\ w.heap.size + 1 < w1.heap.size) ⟨ah (aF (ai _ _) _) hb, by have := hb.size; simp at this; omega⟩; clear hp hb)
      | ((with_reducible refine (HJN.out _ kZ.out.1).mono ?_); rintro e w5 hp; obtain ⟨A8, n8, c8, B8, m8, d8, rfl, h8, aK⟩ := dV hp; obtain ⟨K8, aX⟩ := eX y.kind; rw [<- aX]; have H8 := LH (ak (fun b => p b \/ w1.heap.size <= b) w5 y A8 n8 c8 B8 m8 d8 /\ Bw w1 w5) ⟨h8, aK⟩; have EA := LH (K8 = y.kind) aX; clear hp h8 aK aX)
      | (refine wB rfl 25 (.tmp 1) (.tmp 30) rfl w.heap.size 0 rfl (zV K8 A8 n8 c8 B8 m8 d8) rfl ((bK.out.below H1.out (by simp <;> omega)).below H8.out.2 (by have := kZ.out.2; omega)) 3 au ?_; intro w6 ag; have aJ := LH (ae w6 w.heap.size (zV K8 A8 n8 c8 B8 m8 d8) 25 /\ Bw w w6 /\ ak q w6 y A8 n8 c8 B8 m8 d8 /\ ae w6 (w.heap.size + 1) zL 25 /\ w.heap.size + 1 < w6.heap.size) ⟨ag.1, ag.below (ah kZ.out.1 H8.out.2) (Nat.le_refl _), il (H8.out.1.mono fun b hb => HQ1.out b (by rcases hb with hb | hb; exact .inl hb; exact .inr (by have := kZ.out.2; omega))) ag HNG0.out, ag.other (iY.out.below H8.out.2 kZ.out.2) (by omega), by have := H8.out.2.size; have := kZ.out.2; rw [ag.2.2.1]; omega⟩; have bO := aS aJ.out.1; clear ag)
      | (refine aG rfl (.tmp 1) rfl w.heap.size (0) rfl K8 A8 B8 n8 c8 m8 d8 bO ?_)
      | (refine wB rfl 25 (.tmp 2) (.tmp 33) rfl (w.heap.size + 1) 0 rfl (zV 5 none 0 0 (pt w6.heap.size) 1 1) rfl ((aJ.out.2.2.2.1).alloc _) 3 au ?_; intro w9 ag; have aB := LH (ae w9 (w.heap.size + 1) (zV 5 none 0 0 (pt w6.heap.size) 1 1) 25 /\ Bw w w9 /\ ak q w9 (.mk 5 [] [y]) none 0 0 (pt w6.heap.size) 1 1) ⟨ag.1, ag.below (aF (aJ.out.2.1) _) (by omega), Hz (w0 := w) aJ.out.2.2.1 (by rw [<- EA.out]; exact ag) rT.out aJ.out.2.2.2.2 (HQN.out _ (aJ.out.2.2.2.2)) (by first | rfl | simp)⟩; clear ag))
     exact cK rfl (w.heap.size + 1) rfl (C := (zV 5 none 0 0 (pt w6.heap.size) 1 1)) (T := 25) aB.out.1 _ Tryz.underlying25 rfl au rfl (by rw [HR.out]; exact ⟨_, _, _, _, _, _, rfl, aB.out.2.2.mono HQP.out, aB.out.2.1⟩)
   ·skip
    have db : (K == 4) = false := bF (by omega);have HR := LH (starP r = .mk 5 [] [r]) (by
     unfold starP;rw [if_neg (by rw [<- HX.out.2.1]; omega), if_neg (by rw [<- HX.out.2.1]; omega), if_neg (by rw [<- HX.out.2.1]; exact k4)])
    have EA := LH (K = r.kind) HX.out.2.1;have bO := aS bK.out;go_enter Tryz.func84, Tryz.ntmps84
    go_wp2_with (first
     |(refine aG rfl (.tmp 1) rfl w.heap.size (0) rfl K A B n c m d bO ?_)
     |(refine wB rfl 25 (.tmp 2) (.tmp 33) rfl (w.heap.size + 1) 0 rfl [.int .i64 5, .slice none 0 0, .slice (pt (w.heap.size + 1 + 1)) 1 1] rfl ((HZ.out).alloc _) 3 au ?_; intro w9 ag; have aB := LH (ae w9 (w.heap.size + 1) [.int .i64 5, .slice none 0 0, .slice (pt (w.heap.size + 1 + 1)) 1 1] 25 /\ Bw w w9 /\ ak q w9 (.mk 5 [] [r]) none 0 0 (pt (w.heap.size + 1 + 1)) 1 1) ⟨ag.1, ag.below (aF (aF (ai _ _) _) _) (by omega), Hz (w0 := w) ((HX.out.1.below (aF (ai _ _) _)).mono rZ.out) (by rw [<- EA.out]; exact ag) rT.out (by simp) (HQN.out _ ((by simp))) (by first | rfl | simp)⟩; clear ag))
    exact cK rfl (w.heap.size + 1) rfl (C := [.int .i64 5, .slice none 0 0, .slice (pt (w.heap.size + 1 + 1)) 1 1]) (T := 25) aB.out.1 _ Tryz.underlying25 rfl au rfl (by rw [HR.out]; exact ⟨_, _, _, _, _, _, rfl, aB.out.2.2.mono HQP.out, aB.out.2.1⟩)
theorem TD (args : Array Value) (W : World) : (callFunc 122 args).run Tryz.prog W = .ok (.enter 122 args) W := by kernel_rfl
theorem L9 (r t : Rx) (V : Bool) (hV : V = decide (bI r t = 0)) (A B A2 B2 : Option Addr) (n c m d n2 c2 m2 d2 : Nat) (w : World) (h1 : aI w r A n c B m d) (h2 : aI w t A2 n2 c2 B2 m2 d2) : Calls Tryz.prog 122 #[.agg #[.int .i64 r.kind, .slice A n c, .slice B m d], .agg #[.int .i64 t.kind, .slice A2 n2 c2, .slice B2 m2 d2]] w (aU w V) := by
 obtain ⟨K, hK⟩ := eX r.kind;obtain ⟨K2, hK2⟩ := eX t.kind;obtain ⟨R, hR⟩ := eX (bI r t);have HC := LH (∀ W, Bw w W -> Cz 120 #[.agg #[.int .i64 K, .slice A n c, .slice B m d], .agg #[.int .i64 K2, .slice A2 n2 c2, .slice B2 m2 d2]] W (nV W R)) fun W hb => by rw [hK, hK2, hR]; exact Wd (h1.below hb) (h2.below hb)
 have q1 : (R == 0) = V := by rw [hV, hR]; rfl
 have hr1 : (((w.alloc (zC K A n c B m d)).alloc (zC K2 A2 n2 c2 B2 m2 d2))).rangeAt w.heap.size 0 (zV K A n c B m d) := fun j v hv => by rw [Nat.zero_add]; exact mJ (Below.refl _ _) j v hv
 have hr2 : (((w.alloc (zC K A n c B m d)).alloc (zC K2 A2 n2 c2 B2 m2 d2))).rangeAt (w.heap.size + 1) 0 (zV K2 A2 n2 c2 B2 m2 d2) := fun j v hv => by rw [Nat.zero_add]; exact mI (Below.refl _ _) j v hv
 rw [<- hK, <- hK2];clear h1 h2 hK hK2 hV hR;go_enter Tryz.func122, Tryz.ntmps122
 go_wp2_with (first
  |(refine aG rfl (.tmp 2) rfl w.heap.size (0) rfl _ A B n c m d hr1 ?_)
  |(refine aG rfl (.tmp 3) rfl (w.heap.size + 1) (0) rfl _ A2 B2 n2 c2 m2 d2 hr2 ?_)
  |((with_reducible refine (HC.out _ (aF (ai _ _) _)).mono ?_); rintro e w1 hp; obtain ⟨rfl, hb⟩ := qV hp; have H1 := LH (Bw w w1) (ah (aF (ai _ _) _) hb); clear hp hb))
 go_ret;exact ⟨rfl, H1.out⟩
namespace Rgx
section
variable {q : Nat -> Prop} {base g n cap : Nat} {cur : List Rx} {w : World}
theorem IJ : ∀ (vs : List Value) {w : World} {xs : List Value} (j : Nat), w.ownsRow base 25 3 (.slice (pt g) n cap) n xs -> ∃ xs', xs' = (xs.take j ++ vs ++ xs.drop (j + vs.length)).take xs.length /\ (j + vs.length <= xs.length -> (w.setCells g j vs).ownsRow base 25 3 (.slice (pt g) n cap) n xs')  /\ w.grownBy (w.setCells g j vs) (some g)
 |[], w, xs, j, h => ⟨_, rfl, fun hj => by simpa [World.setCells] using h, by rw [World.setCells]; exact World.grownBy.refl _ _⟩
 |v :: vs, w, xs, j, h => by
  obtain ⟨h1, g1⟩ := h.stored j v;obtain ⟨xs2, e2, h2, g2⟩ := IJ vs (j + 1) h1;refine ⟨_, rfl, fun hj => ?_, by rw [World.setCells]; exact g1.trans g2⟩;rw [World.setCells];have h3 := h2 (by simp at hj ⊢; omega);have hj' : j < xs.length := by simp at hj; omega
  have e : (xs.set j v).take (j + 1) ++ vs ++ (xs.set j v).drop (j + 1 + vs.length) = xs.take j ++ (v :: vs) ++ xs.drop (j + (v :: vs).length) := by
   rw [List.take_succ_eq_append_getElem (by simpa using hj'), List.take_set, List.set_eq_of_length_le (by simp; omega)];rw [List.drop_set_of_lt (by omega)];simp;omega
  have e3 : xs2 = (xs.take j ++ (v :: vs) ++ xs.drop (j + (v :: vs).length)).take xs.length := by
   rw [e2, List.length_set, e]
  rw [<- e3]; exact h3
theorem aM.set {xs : List Value} {p : Nat -> Prop} {r : Rx} {v1 v2 : Value} {k : Nat} (h : aM p w xs cur) (hr : aY p w r v1 v2) (hk : k < cur.length) : aM p w (xs.take (k * 3) ++ [.int .i64 r.kind, v1, v2] ++ xs.drop (k * 3 + 3)) (cur.set k r) := by
 have hl := h.1;have e1 : cur.set k r = cur.take k ++ [r] ++ cur.drop (k + 1) := by
  rw [List.set_eq_take_append_cons_drop, if_pos hk]; simp
 have ht : aM p w (xs.take (k * 3)) (cur.take k) := ⟨by rw [List.length_take, List.length_take]; omega, fun i hi => by
  rw [List.length_take] at hi;obtain ⟨v1, v2, a1, a2, a3, a4⟩ := h.2 i (by omega);refine ⟨v1, v2, ?_, ?_, ?_, ?_⟩
  ·rw [List.getElem?_take, if_pos (by omega), List.getElem_take]; exact a1
  ·rw [List.getElem?_take, if_pos (by omega)]; exact a2
  ·rw [List.getElem?_take, if_pos (by omega)]; exact a3
  ·rw [List.getElem_take]; exact a4⟩
 have hd : aM p w (xs.drop (k * 3 + 3)) (cur.drop (k + 1)) := ⟨by rw [List.length_drop, List.length_drop]; omega, fun i hi => by
  rw [List.length_drop] at hi;obtain ⟨v1, v2, a1, a2, a3, a4⟩ := h.2 (k + 1 + i) (by omega);refine ⟨v1, v2, ?_, ?_, ?_, ?_⟩
  ·rw [List.getElem?_drop, List.getElem_drop, show k * 3 + 3 + i * 3 = (k + 1 + i) * 3 by omega]; exact a1
  ·rw [List.getElem?_drop, show k * 3 + 3 + (i * 3 + 1) = (k + 1 + i) * 3 + 1 by omega]; exact a2
  ·rw [List.getElem?_drop, show k * 3 + 3 + (i * 3 + 2) = (k + 1 + i) * 3 + 2 by omega]; exact a3
  ·rw [List.getElem_drop]; exact a4⟩
 rw [e1];exact (ht.app (aM.one hr)).app hd
theorem aD.store {r : Rx} {v1 v2 : Value} {k : Nat} (h : aD q base (.slice (pt g) n cap) cur w) (hn : n = cur.length) (hr : aY (fun b => q b /\ some b ≠ some g) w r v1 v2) (hk : k < n) : aD q base (.slice (pt g) n cap) (cur.set k r) (w.setCells g (k * 3) [.int .i64 r.kind, v1, v2]) /\ w.grownBy (w.setCells g (k * 3) [.int .i64 r.kind, v1, v2]) (some g) := by
 subst hn;obtain ⟨xs, h1, h2⟩ := h;obtain ⟨xs', e, h3, h4⟩ := IJ (g := g) [.int .i64 r.kind, v1, v2] (k * 3) h2;have hl := h1.1;have h5 := (h1.set hr hk).lt;have h6 := h5.keep (W := w.setCells g (k * 3) [.int .i64 r.kind, v1, v2]) fun b o hp => World.cell?_of_block (h4.block b hp.2 hp.1.2)
 have e2 : xs' = xs.take (k * 3) ++ [.int .i64 r.kind, v1, v2] ++ xs.drop (k * 3 + 3) := by
  rw [e];simp only [List.length_cons, List.length_nil];rw [List.take_of_length_le];simp;omega
 refine ⟨⟨xs', ?_, by rw [List.length_set]; exact h3 (by simp; omega)⟩, h4⟩;rw [e2];exact h6.mono fun b hp => hp.1
theorem aD.cut {k : Nat} (h : aD q base (.slice (pt g) n cap) cur w) (hn : n = cur.length) (hk : k <= n) : aD q base (.slice (pt g) k cap) (cur.take k) w := by
 subst hn;obtain ⟨xs, h1, h2⟩ := h;have hl := h1.1;have hlt : (cur.take k).length = k := by rw [List.length_take]; omega
 refine ⟨xs.take (k * 3), ⟨by rw [List.length_take, hlt]; omega, fun i hi => ?_⟩, ?_⟩
 ·rw [hlt] at hi;obtain ⟨v1, v2, a1, a2, a3, a4⟩ := h1.2 i (by omega);refine ⟨v1, v2, ?_, ?_, ?_, ?_⟩
  ·rw [List.getElem?_take, if_pos (by omega), List.getElem_take]; exact a1
  ·rw [List.getElem?_take, if_pos (by omega)]; exact a2
  ·rw [List.getElem?_take, if_pos (by omega)]; exact a3
  ·rw [List.getElem_take]; exact a4
 ·rw [hlt]
  rcases h2.2 with ⟨e, _⟩ | ⟨g', cap', GX, e, hb, hg, jd, hcm, hcs, EF⟩
  ·cases e
  ·simp only [Value.slice.injEq, Option.some.injEq, Addr.mk.injEq, and_true, true_and] at e;obtain ⟨rfl, rfl⟩ := e;refine ⟨by rw [List.length_take]; omega, .inr ⟨g, cap, GX, rfl, hb, hg, by omega, hcm, hcs, ?_⟩⟩;rw [<- EF, List.take_take, Nat.min_eq_left (by omega)]
end
end Rgx
theorem Vj (w : World) : (zeroValue 25).run Tryz.prog w = .ok (.agg #[.int .i64 0, .slice none 0 0, .slice none 0 0]) w := by kernel_rfl
theorem Rl (n : Nat) : (Builtin.zeroCells (Value.agg #[.int .i64 0, .slice none 0 0, .slice none 0 0]).cells n).size = n * 3 := by simp [Builtin.zeroCells, Value.cells]
theorem Uz {q : Nat -> Prop} {base g n cap k o : Nat} {cur : List Rx} {w : World} (h : aD q base (.slice (pt g) n cap) cur w) (hn : n = cur.length) (hk : k <= n) (m d : Nat) (hm : m = n - k) (ho : 0 < m -> o = k * 3) : ∃ w', (∀ ty, (Builtin.clear_ #[23] ty #[.slice (some ⟨g, o, none⟩) m d]).run Tryz.prog w = .ok (.tuple #[]) w') /\ aD q base (.slice (pt g) k cap) (cur.take k) w' /\ w.grownBy w' (some g) := by
 by_cases h0 : m = 0
 ·subst h0;refine ⟨w, fun ty => ?_, h.cut hn hk, World.grownBy.refl _ _⟩;simp [Builtin.clear_, run_underlying Tryz.underlying23]
 ·have vJ := ho (by omega);subst vJ;obtain ⟨m', rfl⟩ : ∃ m', m = m' + 1 := ⟨m - 1, by omega⟩;obtain ⟨zs, hzs⟩ := eX ((Builtin.zeroCells (Value.agg #[.int .i64 0, .slice none 0 0, .slice none 0 0]).cells (m' + 1)).toList);have hzl : zs.length = (m' + 1) * 3 := by rw [hzs, Array.length_toList, Rl]
  have hz1 : ∀ v ∈ zs, v.oneCell' = true := by
   intro v hv;rw [hzs] at hv;simp only [Builtin.zeroCells, Value.cells, Array.mem_toList_iff, Array.mem_map, Array.mem_range] at hv;obtain ⟨i, hi, rfl⟩ := hv
   rcases (by omega : i % 3 = 0 \/ i % 3 = 1 \/ i % 3 = 2) with e | e | e <;> simp [e] <;> rfl
  obtain ⟨xs, h1, h2⟩ := id h;have hl := h1.1;have h2' := h2;rw [<- hn] at h2';obtain ⟨xs', e, h3, h4⟩ := IJ (g := g) zs (k * 3) h2';have hst := run_storeCells_cells (P := Tryz.prog) g (k * 3) zs 0 w (fun i hi => by
   rw [Nat.add_zero, h2'.cellAt (k * 3 + i) (by omega), List.getElem?_eq_getElem (by omega)]; rfl) (fun i hi => h2'.frozenAt _) hz1
  simp only [Nat.add_zero] at hst;refine ⟨w.setCells g (k * 3) zs, fun ty => ?_, ?_, h4⟩
  ·simp [Builtin.clear_, run_underlying Tryz.underlying23, Vj, <- hzs, hst]
  ·have h5 := h.cut hn hk;obtain ⟨ys, g1, g2⟩ := h5;have g3 := g1.lt.keep (W := w.setCells g (k * 3) zs) fun b o hp => World.cell?_of_block (h4.block b hp.2 hp.1.2)
   have hlt : (cur.take k).length = k := by rw [List.length_take]; omega
   refine ⟨ys, g3.mono fun b hp => hp.1, ?_⟩;rw [hlt] at g2 ⊢;have h6 := h3 (by omega)
   rcases h6.2 with ⟨e6, _⟩ | ⟨g', cap', GX, e6, hb, hg, jd, hcm, hcs, EF⟩
   ·cases e6
   ·simp only [Value.slice.injEq, Option.some.injEq, Addr.mk.injEq, and_true, true_and] at e6;obtain ⟨rfl, rfl⟩ := e6;refine ⟨g2.1, .inr ⟨g, cap, GX, rfl, hb, hg, by omega, hcm, hcs, ?_⟩⟩;have e7 : GX.toList.take (k * 3) = xs.take (k * 3) := by
     have h7 := congrArg (List.take (k * 3)) EF;rw [List.take_take, Nat.min_eq_left (by omega), e, List.take_take, Nat.min_eq_left (by omega), List.append_assoc, List.take_append_of_le_length (by simp; omega), List.take_take, Nat.min_self] at h7;exact h7
    rw [e7]
    rcases g2.2 with ⟨e8, _⟩ | ⟨g', cap', cur0, e8, _, hg0, _, _, _, htk0⟩
    ·cases e8
    ·simp only [Value.slice.injEq, Option.some.injEq, Addr.mk.injEq, and_true, true_and] at e8;obtain ⟨rfl, rfl⟩ := e8
     rcases h2'.2 with ⟨e9, _⟩ | ⟨g', cap', cur1, e9, _, hg1, _, _, _, htk1⟩
     ·cases e9
     ·simp only [Value.slice.injEq, Option.some.injEq, Addr.mk.injEq, and_true, true_and] at e9;obtain ⟨rfl, rfl⟩ := e9;rw [hg0] at hg1;simp only [Option.some.injEq, Obj.cells.injEq, and_true] at hg1;rw [<- htk0, hg1, <- htk1, List.take_take, Nat.min_eq_left (by omega)]
theorem Iw {P : Program} {t e : TypeId} {i : TypeInfo} (h : P.underlying t = some (.slice e)) (hi : P.info? e = some i) (A : Option Addr) (n k c : Nat) (hk : k <= c) (w : World) :
  (Instr.slice t (.slice A n c) none (some (.int .i64 (k : Int))) none).run P w = .ok (.slice A k c) w := by
 have h2 : (k : Int) <= (c : Int) := by omega
 have h3 : ((k : Int)).toNat = k := by omega
 cases A <;> simp [Instr.slice, Instr.sliceBounds, Instr.sliceBound, asIntOf, run_underlying h, sizeOf, typeInfo, hi, h2, go_sem] <;> (intro h; omega)
namespace Rgx
section
variable {q : Nat -> Prop} {base g n cap : Nat} {cur : List Rx} {w : World}
theorem aD.there {k : Nat} (h : aD q base (.slice (pt g) n cap) cur w) (hn : n = cur.length) (hk : k < n) : w.there g (k * 3) 3 := fun j hj => by
 subst hn;obtain ⟨xs, h1, h2⟩ := h;have hl := h1.1;refine ⟨?_, h2.frozenAt _⟩;rw [h2.cellAt (k * 3 + j) (by omega), List.getElem?_eq_getElem (by omega)]; rfl
theorem aD.kid {k : Nat} (h : aD q base (.slice (pt g) n cap) cur w) (hk : k < cur.length) : ∃ A' n' c' B' m' d', w.rangeAt g (k * 3) [.int .i64 (av cur k).kind, .slice A' n' c', .slice B' m' d'] /\ ak (fun b => q b /\ some b ≠ some g) w (av cur k) A' n' c' B' m' d' := by
 obtain ⟨B, d, hv, _, _, jg, _⟩ := h.e;simp only [Value.slice.injEq] at hv;obtain ⟨rfl, _, rfl⟩ := hv;obtain ⟨A', n', c', B', m', d', h1, h2⟩ := jg.kid hk;rw [Nat.zero_add] at h1;exact ⟨A', n', c', B', m', d', h1, h2⟩
end
theorem zA {cur : List Rx} {k i : Nat} {x : Rx} (hi : i ≠ k) : av (cur.set k x) i = av cur i := by
 unfold av;rw [List.getD_eq_getElem?_getD, List.getD_eq_getElem?_getD, List.getElem?_set_ne (Ne.symm hi)]
theorem KI {ks : List Rx} {j : Nat} (h1 : 1 <= j) (h2 : j < ks.length) : dD (ks.take (j + 1)) = if bI (av ks j) (av ks (j - 1)) = 0 then dD (ks.take j) else dD (ks.take j) ++ [av ks j] := by
 obtain ⟨i, rfl⟩ : ∃ i, j = i + 1 := ⟨j - 1, by omega⟩;rw [Nat.add_sub_cancel, List.take_succ_eq_append_getElem h2, List.take_succ_eq_append_getElem (by omega : i < ks.length), List.append_assoc];rw [show [ks[i]] ++ [ks[i + 1]] = [ks[i], ks[i + 1]] from rfl, OU, gI h2, gI (by omega : i < ks.length), Hw ks[i] ks[i + 1]]
 by_cases e : bI ks[i] ks[i + 1] = 0
 ·rw [if_pos e, if_pos (by omega)]
 ·rw [if_neg e, if_neg (by omega)]
end Rgx
theorem xx {q : Nat -> Prop} {base g n cap k : Nat} {cur : List Rx} {w : World} {ops : Array Oper} {rest : List Oper} {o : Oper} {a : Act} {Q : Exit -> Act -> World -> Prop} (hgd : o.guard = none) (x y : Operand) (ho : o.op = .store 25 x y)
  (h : aD q base (.slice (pt g) n cap) cur w) (hn : n = cur.length) (hk : k < n) (hx : a.eval x = .pointer (some ⟨g, k * 3, none⟩)) (r : Rx) (K : Int) (hK : K = r.kind) (A B : Option Addr) (n1 c1 m1 d1 : Nat) (hy : a.eval y = .agg #[.int .i64 K, .slice A n1 c1, .slice B m1 d1]) (hr : aY (fun b => q b /\ some b ≠ some g) w r (.slice A n1 c1) (.slice B m1 d1))
  (hw : ∀ w1, aD q base (.slice (pt g) n cap) (cur.set k r) w1 /\ w.grownBy w1 (some g) -> wpList Tryz.prog ops Q rest (a.put o.dst undef) w1) : wpList Tryz.prog ops Q (o :: rest) a w := by
 subst hK;refine wpList_store_mid hgd 25 x y ho g (k * 3) #[.int .i64 r.kind, .slice A n1 c1, .slice B m1 d1] hx hy (h.there hn hk) au (by simp [Value.oneCell']) ?_;exact hw _ (h.store hn hr hk)
theorem vV {w w' : World} {row : Option Nat} (h : Bw w w') : w.grownBy w' row := ⟨h.os, h.tape, h.output, h.size, fun k hk _ => h.block k hk⟩
theorem Ow {q : Nat -> Prop} (base : Nat) (v : Value) (ks : List Rx) (w : World) (h : aD q base v ks w) (jd : ks.length <= 1000000000000) : Calls Tryz.prog 121 #[v, .func (.func 122) #[] #[]] w fun e w' => ∃ v', e = .returned v' /\ aD q base v' (dD ks) w' /\ w.grownBy w' v.ownBlock := by
 obtain ⟨i0, aZ, hz0, hz1, hz2⟩ := info_parts lG;obtain ⟨B, cap, hv, Kc, hcapm, _, hpl⟩ := h.e;subst hv;obtain ⟨n, hn⟩ := eX ks.length;rw [<- hn] at h Kc ⊢
 by_cases h2 : n < 2
 ·have HE := LH (dD ks = ks) (by
   match ks, hn with
   |[], _ => rw [dD]
   |[x], _ => rw [dD]
   |x :: y :: t, e => exact absurd h2 (by rw [e]; simp))
  have HH := Lh h;have e1 : decide ((n : Int) < 2) = true := dT (by omega);have e2 : decide (n < 2) = true := dT h2;clear h hpl hn jd;go_enter Tryz.func121, Tryz.ntmps121;go_wp2_with fail;go_ret;exact ⟨_, rfl, by rw [HE.out]; exact HH.out, World.grownBy.refl _ _⟩
 ·obtain ⟨g, rfl, hbg, hgl⟩ := hpl (List.ne_nil_of_length_pos (by omega));have hen := TD;have HH := Lh h;have HN := LH (ks.length = n) hn.symm;have e1 : decide ((n : Int) < 2) = false := dF (by omega);have e2 : decide (n < 2) = false := dF h2;have hn12 : n <= 1000000000000 := by omega
  clear h hpl hn jd;go_enter Tryz.func121, Tryz.ntmps121;go_wp2_with fail
  go_loopg [5] (n - 1) (fun gm s5 wr => ∃ (k : Nat), k + gm = n /\ 1 <= k /\ s5 = .int .i64 (k : Int) /\ Hid (aD q base (.slice (pt g) n cap) ks wr /\ dD (ks.take k) = ks.take k /\ w.grownBy wr (some g)))
  case atStart => exact ⟨1, by omega, by omega, rfl, Lh ⟨HH.out, by
   match ks, HN.out with
   |[], e => simp at e; omega
   |x :: t, _ => simp [dD], World.grownBy.refl _ _⟩⟩
  case round =>
   obtain ⟨k, hk, ji, rfl, HI⟩ := hrel
   by_cases hlt : k < n
   ·obtain ⟨gm, rfl⟩ : ∃ g, gk = g + 1 := ⟨gk - 1, by omega⟩;obtain ⟨jp, hjp⟩ : ∃ jp, jp + 1 = k := ⟨k - 1, by omega⟩;obtain ⟨A1, n1, c1, B1, m1, d1, hrg1, J5⟩ := HI.out.1.kid (k := k) (by rw [HN.out]; exact hlt);obtain ⟨A2, n2, c2, B2, m2, d2, hrg2, qJ⟩ := HI.out.1.kid (k := jp) (by rw [HN.out]; omega);obtain ⟨x, hx⟩ := eX (av ks k);obtain ⟨y, hy⟩ := eX (av ks jp);rw [<- hx] at hrg1 J5;rw [<- hy] at hrg2 qJ;obtain ⟨X, hX⟩ := eX (decide (bI x y = 0));obtain ⟨Kx, hKx⟩ := eX x.kind;obtain ⟨Ky, bi⟩ := eX y.kind;have qB := LH (∀ W, Bw wr W -> Cz 122 #[.agg #[.int .i64 Kx, .slice A1 n1 c1, .slice B1 m1 d1], .agg #[.int .i64 Ky, .slice A2 n2 c2, .slice B2 m2 d2]] W fun e w' => e = .returned (.bool X) /\ Bw wr w') fun W hb => (by rw [hKx, bi]; exact (L9 x y X hX A1 B1 A2 B2 n1 c1 m1 d1 n2 c2 m2 d2 W (J5.o.below hb) (qJ.o.below hb)).mono fun e w' hp => ⟨hp.1, ah hb hp.2⟩)
    rw [<- hKx] at hrg1;rw [<- bi] at hrg2;have A7 := LH (∀ p : Wo (Below wr.heap.size wr), p.wo.rangeAt g (k * 3) (zV Kx A1 n1 c1 B1 m1 d1)) fun p => iW hrg1 p.ok
    have tQ := LH (∀ p : Wo (Below wr.heap.size wr), p.wo.rangeAt g (jp * 3) (zV Ky A2 n2 c2 B2 m2 d2)) fun p => iW hrg2 p.ok
    have bX := LH (Bw wr wr) (Below.refl _ _);have oH := LH (dD (ks.take (k + 1)) = if X then dD (ks.take k) else dD (ks.take k) ++ [x]) (by
     rw [KI ji (by rw [HN.out]; exact hlt), <- hx, show k - 1 = jp by omega, <- hy, hX]
     by_cases e : bI x y = 0
     ·rw [if_pos e, if_pos (dT e)]
     ·rw [if_neg e, if_neg (by simpa using e)])
    have bQ := LH (x = av ks k) hx;have z1 : (k : Int) - 1 = (jp : Int) := by omega
    have z2 : IntKind.i64.wrap (jp : Int) = (jp : Int) := by rw [IntKind.wrap_i64]; omega
    have p1 : (k : Int) < (n : Int) := by omega
    have p2 : (jp : Int) < (n : Int) := by omega
    clear hrg1 hrg2 J5 qJ hx hy hX hKx bi
    cases X
    ·go_wp2_with fail;haveI : Nonempty (Wo (Below wr.heap.size wr)) := ⟨⟨wr, bX.out⟩⟩;refine jB (Below wr.heap.size wr) jC (by kernel_rfl) (below_drewN bX.out 1) ?_
     iterate 4 (go_big_quiet_step (fail))
     refine jX rfl (.tmp 21) rfl g (k * 3) rfl Kx A1 B1 n1 c1 m1 d1 A7.out ?_;try simp only [Act.put, pP]
     iterate 4 (go_big_quiet_step (fail))
     refine jX rfl (.tmp 26) rfl g (jp * 3) rfl Ky A2 B2 n2 c2 m2 d2 tQ.out ?_;try simp only [Act.put, pP]
     repeat (go_big_quiet_step ((go_at_call 122; exact qh qB.out _)))
     refine wpQuiet_nil ?_;intro x1 hw2;obtain ⟨⟨iy, ax⟩, hw3⟩ := hw2;have hw4 : x1 = iy := hw3;subst hw4;have fE := Lh ax;clear hw3 ax;go_wp2_with fail
     go_roundg gm
     case rel => exact ⟨k + 1, by omega, by omega, by go_num, Lh ⟨HI.out.1.below fE.out, by rw [oH.out, if_neg (by simp), HI.out.2.1, List.take_succ_eq_append_getElem (by rw [HN.out]; exact hlt), bQ.out, gI (by rw [HN.out]; exact hlt)], HI.out.2.2.trans (vV fE.out)⟩⟩
     case measure => omega
    ·have HCE := LH (dD (ks.take (k + 1)) = ks.take k) (by rw [oH.out, if_pos rfl]; exact HI.out.2.1);obtain ⟨o2, vJ, hcut⟩ := Cc (P := Tryz.prog) Tryz.underlying23 aZ g 0 n cap k (by omega) Kc;obtain rfl : o2 = k * 3 := by rw [vJ (by omega), hz1]; omega
     clear vJ;go_wp2_with fail;haveI : Nonempty (Wo (Below wr.heap.size wr)) := ⟨⟨wr, bX.out⟩⟩;refine jB (Below wr.heap.size wr) jC (by kernel_rfl) (below_drewN bX.out 1) ?_
     iterate 4 (go_big_quiet_step (fail))
     refine jX rfl (.tmp 21) rfl g (k * 3) rfl Kx A1 B1 n1 c1 m1 d1 A7.out ?_;try simp only [Act.put, pP]
     iterate 4 (go_big_quiet_step (fail))
     refine jX rfl (.tmp 26) rfl g (jp * 3) rfl Ky A2 B2 n2 c2 m2 d2 tQ.out ?_;try simp only [Act.put, pP]
     repeat (go_big_quiet_step ((go_at_call 122; exact qh qB.out _)))
     refine wpQuiet_nil ?_;intro x1 hw2;obtain ⟨⟨iy, ax⟩, hw3⟩ := hw2;have hw4 : x1 = iy := hw3;subst hw4;have fE := Lh ax;clear hw3 ax;go_wp2_with fail
     go_loopg [5, 7] (n - k - 1) (fun g2 s5 s7 wr => ∃ (kk j : Nat) (cur : List Rx), j + g2 = n - k /\ (1 <= j /\ 1 <= kk /\ kk < k + j) /\ s5 = .int .i64 (kk : Int) /\ s7 = .int .i64 (j : Int) /\ Hid (aD q base (.slice (pt g) n cap) cur wr /\ cur.length = n /\ cur.take kk = dD (ks.take (k + j)) /\ (∀ i, k + j <= i + 1 -> i < n -> av cur i = av ks i) /\ w.grownBy wr (some g)))
     case atStart => exact ⟨k, 1, ks, by omega, by omega, rfl, rfl, Lh ⟨HI.out.1.below fE.out, HN.out, HCE.out.symm, fun i h1 h2 => rfl, HI.out.2.2.trans (vV fE.out)⟩⟩
     case round =>
      obtain ⟨kk, j, cur, hj, ⟨hj1, hkk1, hkkj⟩, rfl, rfl, HJ⟩ := hrel
      by_cases lh : j < n - k
      ·obtain ⟨g2, rfl⟩ : ∃ g, gk = g + 1 := ⟨gk - 1, by omega⟩;have hkj : k + j < n := by omega
       obtain ⟨ip, hip⟩ : ∃ ip, ip + 1 = j := ⟨j - 1, by omega⟩;obtain ⟨A3, n3, c3, B3, m3, d3, hrg3, eF⟩ := HJ.out.1.kid (k := k + j) (by rw [HJ.out.2.1]; exact hkj);obtain ⟨A4, n4, c4, B4, m4, d4, nG, rG⟩ := HJ.out.1.kid (k := k + ip) (by rw [HJ.out.2.1]; omega);rw [show (k + j) * 3 = k * 3 + j * 3 by omega] at hrg3;rw [show (k + ip) * 3 = k * 3 + ip * 3 by omega] at nG;obtain ⟨u, hu⟩ := eX (av cur (k + j));obtain ⟨v, hv⟩ := eX (av cur (k + ip));rw [<- hu] at hrg3 eF;rw [<- hv] at nG rG;have HUV := LH (u = av ks (k + j) /\ v = av ks (k + j - 1)) ⟨by rw [hu]; exact HJ.out.2.2.2.1 _ (by omega) hkj, by rw [hv, show k + j - 1 = k + ip by omega]; exact HJ.out.2.2.2.1 _ (by omega) (by omega)⟩;obtain ⟨Y, hY⟩ := eX (decide (bI u v = 0));obtain ⟨Ku, qG⟩ := eX u.kind;obtain ⟨Kv, hKv⟩ := eX v.kind;have yQ := LH (∀ W, Bw wr W -> Cz 122 #[.agg #[.int .i64 Ku, .slice A3 n3 c3, .slice B3 m3 d3], .agg #[.int .i64 Kv, .slice A4 n4 c4, .slice B4 m4 d4]] W fun e w' => e = .returned (.bool Y) /\ Bw wr w') fun W hb => (by rw [qG, hKv]; exact (L9 u v Y hY A3 B3 A4 B4 n3 c3 m3 d3 n4 c4 m4 d4 W (eF.o.below hb) (rG.o.below hb)).mono fun e w' hp => ⟨hp.1, ah hb hp.2⟩)
       rw [<- qG] at hrg3;rw [<- hKv] at nG;have rY := LH (∀ p : Wo (Below wr.heap.size wr), p.wo.rangeAt g (k * 3 + j * 3) (zV Ku A3 n3 c3 B3 m3 d3)) fun p => iW hrg3 p.ok
       have zk := LH (∀ p : Wo (Below wr.heap.size wr), p.wo.rangeAt g (k * 3 + ip * 3) (zV Kv A4 n4 c4 B4 m4 d4)) fun p => iW nG p.ok
       have HOK3 := Lh eF;have vH := Lh qG;have GY := LH (Bw wr wr) (Below.refl _ _);have tV := LH (dD (ks.take (k + (j + 1))) = if Y then dD (ks.take (k + j)) else dD (ks.take (k + j)) ++ [u]) (by
        rw [show k + (j + 1) = k + j + 1 by omega, KI (by omega) (by rw [HN.out]; exact hkj), <- HUV.out.1, <- HUV.out.2, hY]
        by_cases e : bI u v = 0
        ·rw [if_pos e, if_pos (dT e)]
        ·rw [if_neg e, if_neg (by simpa using e)])
       have z3 : (j : Int) - 1 = (ip : Int) := by omega
       have z4 : IntKind.i64.wrap (ip : Int) = (ip : Int) := by rw [IntKind.wrap_i64]; omega
       have p3 : (j : Int) < ((n - k : Nat) : Int) := by omega
       have p4 : (ip : Int) < ((n - k : Nat) : Int) := by omega
       have p5 : (kk : Int) < (n : Int) := by omega
       have p7 : kk < n := by omega
       clear hrg3 nG eF rG hu hv hY qG hKv
       cases Y
       ·go_wp2_with fail;haveI : Nonempty (Wo (Below wr.heap.size wr)) := ⟨⟨wr, GY.out⟩⟩;refine jB (Below wr.heap.size wr) jC (by kernel_rfl) (below_drewN GY.out 1) ?_
        iterate 4 (go_big_quiet_step (fail))
        refine jX rfl (.tmp 41) rfl g (k * 3 + j * 3) rfl Ku A3 B3 n3 c3 m3 d3 rY.out ?_;try simp only [Act.put, pP]
        iterate 4 (go_big_quiet_step (fail))
        refine jX rfl (.tmp 46) rfl g (k * 3 + ip * 3) rfl Kv A4 B4 n4 c4 m4 d4 zk.out ?_;try simp only [Act.put, pP]
        repeat (go_big_quiet_step ((go_at_call 122; exact qh yQ.out _)))
        refine wpQuiet_nil ?_;intro y1 hw2;obtain ⟨⟨y1x, ax⟩, hw3⟩ := hw2;have hw4 : y1 = y1x := hw3;subst hw4;have y7 := Lh ax;clear hw3 ax;have HR3 := LH (y1.rangeAt g (k * 3 + j * 3) (zV Ku A3 n3 c3 B3 m3 d3)) (rY.out ⟨y1, y7.out⟩)
        go_wp2_with (first
         |(refine aG rfl (.tmp 54) rfl g (k * 3 + j * 3) rfl Ku A3 B3 n3 c3 m3 d3 HR3.out ?_)
         |(refine xx rfl (.tmp 56) (.tmp 55) rfl (HJ.out.1.below y7.out) HJ.out.2.1.symm p7 rfl u Ku vH.out A3 B3 n3 c3 m3 d3 rfl (HOK3.out.below y7.out).q ?_; intro w6 ky; have H6 := LH (aD q base (.slice (pt g) n cap) (cur.set kk u) w6 /\ w.grownBy w6 (some g)) ⟨ky.1, (HJ.out.2.2.2.2.trans (vV y7.out)).trans ky.2⟩; clear ky))
        go_roundg g2
        case rel => exact ⟨kk + 1, j + 1, cur.set kk u, by omega, by omega, by go_num, by go_num, Lh ⟨H6.out.1, by rw [List.length_set]; exact HJ.out.2.1, by
         rw [tV.out, if_neg (by simp), <- HJ.out.2.2.1, List.take_succ_eq_append_getElem (by rw [List.length_set, HJ.out.2.1]; exact p7), List.take_set, List.set_eq_of_length_le (by simp; omega), List.getElem_set_self], fun i h1 h2 => by
         rw [zA (by omega)]; exact HJ.out.2.2.2.1 i (by omega) h2, H6.out.2⟩⟩
        case measure => omega
       ·go_wp2_with fail;haveI : Nonempty (Wo (Below wr.heap.size wr)) := ⟨⟨wr, GY.out⟩⟩;refine jB (Below wr.heap.size wr) jC (by kernel_rfl) (below_drewN GY.out 1) ?_
        iterate 4 (go_big_quiet_step (fail))
        refine jX rfl (.tmp 41) rfl g (k * 3 + j * 3) rfl Ku A3 B3 n3 c3 m3 d3 rY.out ?_;try simp only [Act.put, pP]
        iterate 4 (go_big_quiet_step (fail))
        refine jX rfl (.tmp 46) rfl g (k * 3 + ip * 3) rfl Kv A4 B4 n4 c4 m4 d4 zk.out ?_;try simp only [Act.put, pP]
        repeat (go_big_quiet_step ((go_at_call 122; exact qh yQ.out _)))
        refine wpQuiet_nil ?_;intro y1 hw2;obtain ⟨⟨y1x, ax⟩, hw3⟩ := hw2;have hw4 : y1 = y1x := hw3;subst hw4;have y7 := Lh ax;clear hw3 ax;go_wp2_with fail
        go_roundg g2
        case rel => exact ⟨kk, j + 1, cur, by omega, by omega, by first | rfl | go_num, by go_num, Lh ⟨HJ.out.1.below y7.out, HJ.out.2.1, by rw [tV.out, if_pos (by trivial)]; exact HJ.out.2.2.1, fun i h1 h2 => HJ.out.2.2.2.1 i (by omega) h2, HJ.out.2.2.2.2.trans (vV y7.out)⟩⟩
        case measure => omega
      ·have hjn : k + j = n := by omega
       have pg : kk <= n := by omega
       obtain ⟨o3, ho3, hcut3⟩ := Cc (P := Tryz.prog) Tryz.underlying23 aZ g 0 n cap kk pg Kc;obtain ⟨w8, l8, kM, hgr⟩ := Uz (k := kk) (o := o3) HJ.out.1 HJ.out.2.1.symm pg (n - kk) (cap - kk) rfl (fun h => by rw [ho3 (by omega), hz1]; omega);have hcut4 := fun W => Iw (P := Tryz.prog) Tryz.underlying23 aZ (pt g) n kk cap (by omega) W
       have HE := LH (aD q base (.slice (pt g) kk cap) (dD ks) w8 /\ w.grownBy w8 (some g)) ⟨by
        have h1 := HJ.out.2.2.1;rw [hjn, List.take_of_length_le (l := ks) (by rw [HN.out]; exact Nat.le_refl _)] at h1;rw [<- h1]; exact kM, HJ.out.2.2.2.2.trans hgr⟩
       have p3 : ¬ (j : Int) < ((n - k : Nat) : Int) := by omega
       clear kM hgr ho3;go_wp2_with fail;go_ret;exact ⟨_, rfl, HE.out⟩
   ·obtain rfl : k = n := by omega
    have HE := LH (dD ks = ks) (by have := HI.out.2.1; rw [List.take_of_length_le (by rw [HN.out]; exact Nat.le_refl _)] at this; exact this);go_wp2_with fail;go_ret;exact ⟨_, rfl, by rw [HE.out]; exact HI.out.1, HI.out.2.2⟩
namespace Rgx
def jK (l : List Int) : Nat := l.foldl (fun s x => s ||| 2 ^ x.toNat) 0
def iC (s : Nat) : List Int := ((List.range 64).filter fun i => s.testBit i).map Int.ofNat
theorem Nf : ∀ (l : List Int) (s : Nat) (i : Nat), (l.foldl (fun s x => s ||| 2 ^ x.toNat) s).testBit i = (s.testBit i || l.any fun x => decide (x.toNat = i))
 |[], s, i => by simp
 |x :: l, s, i => by
  rw [List.foldl_cons, Nf l, Nat.testBit_or, Nat.testBit_two_pow, List.any_cons, Bool.or_assoc]
theorem Cb {l : List Int} (h : ∀ x ∈ l, 0 <= x /\ x < 64) (i : Nat) : (jK l).testBit i = true ↔ (i : Int) ∈ l := by
 unfold jK;rw [Nf];simp only [Nat.zero_testBit, Bool.false_or, List.any_eq_true, decide_eq_true_eq];constructor
 ·rintro ⟨x, hx, e⟩;have := h x hx;rw [show (i : Int) = x by omega]; exact hx
 ·intro hi;exact ⟨_, hi, by omega⟩
theorem QJ {s : Nat} (h : ∀ i, 64 <= i -> s.testBit i = false) : s < 18446744073709551616 := by
 rw [show 18446744073709551616 = 2 ^ 64 from rfl];exact Nat.lt_pow_two_of_testBit s fun i hi => h i hi
theorem Cn {l : List Int} (h : ∀ x ∈ l, 0 <= x /\ x < 64) : jK l < 18446744073709551616 := QJ fun i hi => by
 rw [Bool.eq_false_iff];intro e;have := h _ ((Cb h i).1 e);omega
theorem QL (l : List Int) (x : Int) : jK (l ++ [x]) = jK l ||| 2 ^ x.toNat := by
 unfold jK;rw [List.foldl_append]; rfl
theorem UY {l : List Int} {k : Nat} (hk : k < l.length) : jK (l.take (k + 1)) = jK (l.take k) ||| 2 ^ (l.getD k 0).toNat := by
 rw [List.take_succ_eq_append_getElem hk, QL];simp [List.getD, hk]
theorem zQ {s : Nat} {x : Int} : x ∈ iC s ↔ (0 <= x /\ x < 64) /\ s.testBit x.toNat = true := by
 unfold iC;rw [List.mem_map];constructor
 ·rintro ⟨i, hi, rfl⟩;obtain ⟨h1, h2⟩ := List.mem_filter.1 hi;have := List.mem_range.1 h1;refine ⟨⟨?_, ?_⟩, by simpa using h2⟩
  ·show 0 <= (i : Int); omega
  ·show (i : Int) < 64; omega
 ·rintro ⟨h1, h2⟩;exact ⟨x.toNat, List.mem_filter.2 ⟨List.mem_range.2 (by omega), h2⟩, by show ((x.toNat : Nat) : Int) = x; omega⟩
theorem JF (s : Nat) : (iC s).Pairwise (· < ·) := by
 unfold iC;rw [List.pairwise_map];exact (List.pairwise_lt_range.filter _).imp fun h => by show ((_ : Nat) : Int) < ((_ : Nat) : Int); omega
theorem Vd (s : Nat) (h0 : s ≠ 0) (h : s < 18446744073709551616) : Lib.ctz 64 s < 64 /\ ∀ i, (s &&& (s - 1)).testBit i = (s.testBit i && decide (i ≠ Lib.ctz 64 s)) /\ (s.testBit i = true -> Lib.ctz 64 s <= i) /\ (i = Lib.ctz 64 s -> s.testBit i = true) := by
 obtain ⟨m, hm, hk⟩ := Lib.ctzFrom_spec 64 s (by omega) (by simpa using h);have e : Lib.ctz 64 s = Lib.ctzFrom 64 s := by unfold Lib.ctz; rw [if_neg h0]
 rw [e];obtain ⟨k, kF⟩ := eX (Lib.ctzFrom 64 s);rw [<- kF] at hm hk ⊢;refine ⟨hk, fun i => ?_⟩;have hp : 0 < 2 ^ k := Nat.two_pow_pos k;have e1 : s - 1 = 2 ^ k * (2 * m) + (2 ^ k - 1) := by rw [hm, Nat.mul_add]; omega
 have hs : s.testBit i = (decide (k <= i) && (2 * m + 1).testBit (i - k)) := by
  rw [hm, Nat.testBit_two_pow_mul]
 have hs1 : (s - 1).testBit i = if i < k then (2 ^ k - 1).testBit i else (2 * m).testBit (i - k) := by
  rw [e1];exact Nat.testBit_two_pow_mul_add _ (by omega) _
 have b1 : ∀ j, (2 * m + 1).testBit j = if j = 0 then true else m.testBit (j - 1) := fun j => by
  cases j with
  |zero => simp [Nat.testBit_zero]
  |succ j => rw [Nat.testBit_succ]; simp; congr 1; omega
 have b2 : ∀ j, (2 * m).testBit j = if j = 0 then false else m.testBit (j - 1) := fun j => by
  cases j with
  |zero => simp [Nat.testBit_zero]
  |succ j => rw [Nat.testBit_succ]; simp
 refine ⟨?_, fun ht => ?_, fun hi => ?_⟩
 ·rw [Nat.testBit_and, hs, hs1, b1, b2]
  by_cases h1 : i < k
  ·have : ¬ k <= i := by omega
   simp [this]
  ·have h2 : k <= i := by omega
   by_cases h3 : i = k
   ·subst h3; simp
   ·have h4 : i - k ≠ 0 := by omega
    simp [h1, h2, h3, h4]
 ·rw [hs, Bool.and_eq_true, decide_eq_true_eq] at ht;exact ht.1
 ·rw [hs, hi, b1]; simp
theorem OW {s : Nat} (h0 : s ≠ 0) (h : s < 18446744073709551616) : iC s = (Lib.ctz 64 s : Int) :: iC (s &&& (s - 1)) := by
 obtain ⟨hk, hb⟩ := Vd s h0 h;refine Cs (JF s) (List.pairwise_cons.2 ⟨fun x hx => ?_, JF _⟩) fun x => ?_
 ·obtain ⟨h1, h2⟩ := zQ.1 hx;rw [(hb x.toNat).1, Bool.and_eq_true, decide_eq_true_eq] at h2;have := (hb x.toNat).2.1 h2.1;omega
 ·rw [List.mem_cons, zQ, zQ];constructor
  ·rintro ⟨h1, h2⟩
   by_cases e : x = (Lib.ctz 64 s : Int)
   ·exact .inl e
   ·refine .inr ⟨h1, ?_⟩;rw [(hb x.toNat).1, h2];have : x.toNat ≠ Lib.ctz 64 s := by omega
    simp [this]
  ·rintro (rfl | ⟨h1, h2⟩)
   ·exact ⟨⟨by omega, by omega⟩, (hb _).2.2 (by omega)⟩
   ·rw [(hb x.toNat).1, Bool.and_eq_true] at h2;exact ⟨h1, h2.1⟩
theorem LZ : iC 0 = [] := by
 unfold iC;rw [List.filter_eq_nil_iff.2 (fun x _ => by simp)]; rfl
theorem Su (s : Nat) : (iC s).length <= 64 := by
 unfold iC;rw [List.length_map];exact Nat.le_trans (List.length_filter_le _ _) (by simp)
theorem Ue {s : Nat} {f : List Rx} (h : ∀ i : Nat, s.testBit i = true ↔ ∃ x ∈ f, (i : Int) ∈ x.syms) : iC s = dR f :=
 Cs (JF s) (Cf f) fun x => by
  rw [zQ, qY, h];constructor
  ·rintro ⟨h1, h2⟩;rw [show ((x.toNat : Nat) : Int) = x by omega] at h2;exact ⟨h1, h2⟩
  ·rintro ⟨h1, h2⟩;rw [show ((x.toNat : Nat) : Int) = x by omega];exact ⟨h1, h2⟩
theorem RJ {s : Nat} (h0 : s ≠ 0) : s &&& (s - 1) < s := by
 have : s &&& (s - 1) <= s - 1 := Nat.and_le_right;omega
end Rgx
def DB (w : World) : Prop := TabAt 0 Lib.deBruijn64tab w
theorem DB.below {w W : World} (h : DB w) (hb : Bw w W) : DB W := fun j hj => (hb.cell (p := ⟨_, j, none⟩) (World.block_lt_of_cell? w _ (h j hj))).trans (h j hj)
theorem Jr (l : List Int) (A : Option Addr) (n c : Nat) (hn : n = l.length) (hc : n <= c) (hm : c <= 9223372036854775807) (hl : ∀ x ∈ l, 0 <= x /\ x < 64) (w : World) (hr : Rd w A (iv l)) : Calls Tryz.prog 91 #[.slice A n c] w fun e w' => e = .returned (.int .u64 (jK l : Nat)) /\ Bw w w' := by
 have HV := LH (n = l.length /\ ∀ x ∈ l, 0 <= x /\ x < 64) ⟨hn, hl⟩;have HR := Lh hr;clear hn hr hl;go_enter Tryz.func91, Tryz.ntmps91;go_wp2_with fail
 go_loopg [3, 8] n (fun g s3 s8 wr => ∃ (k S : Nat), k + g = n /\ s3 = .int .u64 (S : Int) /\ s8 = .int .i64 (k : Int) /\ Hid (S = jK (l.take k) /\ Bw w wr))
 case atStart => exact ⟨0, 0, by omega, rfl, rfl, Lh ⟨rfl, Below.refl _ _⟩⟩
 case round =>
  obtain ⟨k, S, hk, rfl, rfl, HI⟩ := hrel
  by_cases hlt : k < n
  ·obtain ⟨g, rfl⟩ : ∃ g, gk = g + 1 := ⟨gk - 1, by omega⟩;have eU : k < l.length := by rw [<- HV.out.1]; exact hlt
   obtain ⟨b, o, rfl, aH⟩ := vO HR.out (by intro e; rw [e] at eU; simp at eU);obtain ⟨x, hx⟩ := eX (l.getD k 0);have l1 : wr.cell? ⟨b, o + k, none⟩ = some (.int .i64 x) := aH.at HI.out.2 eU hx;have bY : x ∈ l := by rw [hx]; simp only [List.getD, List.getElem?_eq_getElem eU, Option.getD_some]; exact List.getElem_mem eU
   have hx0 : 0 <= x := (HV.out.2 x bY).1;have hx64 : x <= 64 := by have := (HV.out.2 x bY).2; omega
   have hx63 : x < 64 := (HV.out.2 x bY).2;obtain ⟨P, hP⟩ := eX (2 ^ x.toNat);have Hl : P < 18446744073709551616 := by
    rw [hP, show 18446744073709551616 = 2 ^ 64 from rfl];exact Nat.pow_lt_pow_right (by omega) (by omega)
   have eP : IntKind.u64.wrap (2 ^ x.toNat) = (P : Int) := by
    rw [IntKind.wrap_u64, hP];have h2 : ((2 : Int) ^ x.toNat) = ((2 ^ x.toNat : Nat) : Int) := by norm_cast
    rw [h2, <- hP]; omega
   have hSlt : S < 18446744073709551616 := by rw [HI.out.1]; exact Cn fun y hy => HV.out.2 y (List.mem_of_mem_take hy)
   obtain ⟨S2, dh⟩ := eX (S ||| P);have eO : bits .or .u64 (S : Int) (P : Int) = (S2 : Int) := by rw [bits_or_u64_nat S P hSlt Hl, dh]
   have HS := LH (S2 = jK (l.take (k + 1))) (by rw [UY eU, <- hx, <- hP, <- HI.out.1, dh]);clear hx aH bY hP dh;go_wp2_with fail
   go_roundg g
   case rel => exact ⟨k + 1, S2, by omega, by first | rfl | go_num, by go_num, Lh ⟨HS.out, HI.out.2⟩⟩
   case measure => omega
  ·obtain rfl : k = n := by omega
   have HE := LH (S = jK l) (by rw [HI.out.1, List.take_of_length_le (by rw [<- HV.out.1]; omega)]);go_wp2_with fail;go_ret;exact ⟨by rw [<- HE.out]; rfl, HI.out.2⟩
theorem Wz (z : Int) : bits .and .i64 z 127 = ((z % 128).toNat : Int) := by rw [i64_and127]; omega
theorem Wj (x : Nat) (hx : x < 18446744073709551616) (w : World) : Calls Tryz.prog 139 #[.int .u64 (x : Int)] w fun e w' => ∃ n : Nat, n <= 127 /\ e = .returned (.int .i64 (n : Int)) /\ w' = w := by
 go_enter Tryz.func139, Tryz.ntmps139;go_wp2_with fail;go_ret;refine ⟨_, ?_, congrArg (fun v => Ending.returned (Value.int .i64 v)) (Wz _), rfl⟩;omega
theorem TK (x : Nat) (hx : x < 18446744073709551616) (hx0 : x ≠ 0) (w : World) (hT : DB w) : Calls Tryz.prog 140 #[.int .u64 (x : Int)] w fun e w' => e = .returned (.int .i64 (Lib.ctz 64 x : Nat)) /\ w' = w := by
 obtain ⟨Pi, hk⟩ := Lib.lowest_bit 64 x hx0 hx;obtain ⟨hi, OZ⟩ := Lib.deBruijn64_at _ hk;have hcell := hT _ hi;rw [OZ] at hcell;have key := tz64_key x _ hx hx0 Pi;obtain ⟨iO, O4⟩ := eX (2 ^ Lib.ctz 64 x * 285870213051353865 % 18446744073709551616 / 288230376151711744);rw [<- O4] at hcell key hi;obtain ⟨k, kF⟩ := eX (Lib.ctz 64 x);rw [<- kF] at hcell hk ⊢;have e0 : ((x : Int) == 0) = false := by simp; omega
 clear Pi OZ O4 kF hT;go_enter Tryz.func140, Tryz.ntmps140
 go_wp2_with (simp only [key])
 go_ret;exact ⟨rfl, rfl⟩
theorem KP : (Tryz.prog.info? 3).map (fun i => (i.zero, i.size, i.bytes)) = some (some (.int .i64 0), 1, 8) := by kernel_rfl
def Gz (w : World) (l : List Int) (e : Ending) (w' : World) : Prop := ∃ A n c, e = .returned (.slice A n c) /\ n = l.length /\ n <= c /\ c <= maxLen /\ Rd w' A (iv l) /\ (∀ b o, A = some ⟨b, o, none⟩ -> w.heap.size <= b /\ b < w'.heap.size) /\ Bw w w'
theorem Oq {w w' : World} {l : List Int} {e : Ending} (h : Gz w l e w') : ∃ A n c, e = .returned (.slice A n c) /\ n = l.length /\ n <= c /\ c <= maxLen /\ Rd w' A (iv l) /\ (∀ b o, A = some ⟨b, o, none⟩ -> w.heap.size <= b /\ b < w'.heap.size) /\ Bw w w' := h
theorem SL (n : Nat) (hn : n <= 1000000) (w : World) : (Instr.makeSlice 22 (.int .i64 0) (.int .i64 (n : Int))).run Tryz.prog w = .ok (.slice (pt w.heap.size) 0 n) (w.alloc (.cells (iv (List.replicate n 0)).toArray 3)) := by
 obtain ⟨i0, aZ, hz0, hz1, hz2⟩ := info_parts KP;have h := run_make (P := Tryz.prog) w 22 3 i0 _ Tryz.underlying22 aZ hz0 .i64 .i64 0 (n : Int) (Int.le_refl _) (by omega) (by rw [hz2]; omega) (by omega);have e : madeCells (Value.int .i64 0).cells n = (iv (List.replicate n 0)).toArray := by
  apply Array.ext
  ·simp [FN, madeCells]
  ·intro i h1 h2;simp [madeCells, iv, Value.cells, Nat.mod_one]
 rw [h, Int.toNat_natCast, hz1, Nat.mul_one, e]
 rfl
theorem RA (w : World) (n : Nat) (hn : n <= 1000000) (Z : Array Value) (hZ : Z = (iv (List.replicate n 0)).toArray) : (w.alloc (.cells Z 3)).ownsRow w.heap.size 3 1 (.slice (pt w.heap.size) 0 n) 0 (iv []) := by
 subst hZ;exact ⟨rfl, .inr ⟨w.heap.size, n, _, rfl, Nat.le_refl _, heap_alloc_new w _, Nat.zero_le _, by unfold maxLen; omega, by simp [FN], rfl⟩⟩
theorem Mk (S0 : Nat) (cO : S0 < 18446744073709551616) (w : World) (hT : DB w) : Calls Tryz.prog 118 #[.int .u64 (S0 : Int)] w (Gz w (iC S0)) := by
 have HO := LH (∀ W, Cz 139 #[.int .u64 (S0 : Int)] W fun e w' => ∃ n : Nat, n <= 127 /\ e = .returned (.int .i64 (n : Int)) /\ w' = W) (Wj S0 cO);have HT := Lh hT;have jo := Lh cO;obtain ⟨i0, aZ, hz0, hz1, hz2⟩ := info_parts KP;obtain ⟨N, hN⟩ := eX ((iC S0).length);have HN := Lh hN;clear hT cO hN;go_enter Tryz.func118, Tryz.ntmps118
 go_wp2_with ((with_reducible refine (HO.out _).mono ?_); rintro e w1 ⟨n1, yX, rfl, jH⟩; have hw2 := jH.symm; clear jH; subst hw2; have wE := fun W => SL n1 (by omega) W; obtain ⟨Z, hZ⟩ := eX ((iv (List.replicate n1 0)).toArray); rw [<- hZ] at wE; have wR := LH ((w.alloc (.cells Z 3)).ownsRow w.heap.size 3 1 (.slice (pt w.heap.size) 0 n1) 0 (iv []) /\ Bw w (w.alloc (.cells Z 3))) ⟨RA w n1 (by omega) Z hZ, ai _ _⟩; clear hZ)
 go_loopg [0, 3] N (fun g s0 s3 wr => ∃ (S : Nat) (out : List Int), s0 = .int .u64 (S : Int) /\ Hid (g = (iC S).length /\ S < 18446744073709551616 /\ out ++ iC S = iC S0 /\ wr.ownsRow w.heap.size 3 1 s3 out.length (iv out) /\ Bw w wr))
 case atStart => exact ⟨S0, [], rfl, Lh ⟨HN.out, jo.out, rfl, wR.out.1, wR.out.2⟩⟩
 case round =>
  obtain ⟨S, R, rfl, HI⟩ := hrel;obtain ⟨A5, c5, hv, wF, tL, lF⟩ := Rd.of_own HI.out.2.2.2.1;subst hv;have HR5 := Lh wF;have hlen : R.length <= 64 := by have h1 := congrArg List.length HI.out.2.2.1; have := Su S0; rw [List.length_append] at h1; omega
  obtain ⟨m, hm⟩ := eX R.length;have kg := HI.out;rw [<- hm] at kg hlen tL;have HJ := Lh kg;have HM := Lh hm;rw [<- hm];clear HI kg hm wF
  by_cases h0 : S = 0
  ·have e1 : ((S : Int) != 0) = false := by subst h0; rfl
   have HE := LH (R = iC S0) (by have := HJ.out.2.2.1; rw [h0, LZ, List.append_nil] at this; exact this);clear h0;go_wp2_with fail;go_ret;refine ⟨_, _, _, rfl, by rw [<- HE.out]; exact HM.out, tL, lF, by rw [<- HE.out]; exact HR5.out, fun b o hb => ?_, HJ.out.2.2.2.2⟩;subst hb;have := HJ.out.2.2.2.1.lt b rfl;exact this
  ·have e1 : ((S : Int) != 0) = true := by simp; exact h0
   have hst := OW h0 HJ.out.2.1;obtain ⟨g, rfl⟩ : ∃ g, gk = g + 1 := ⟨gk - 1, by have := HJ.out.1; rw [hst] at this; simp at this; omega⟩;obtain ⟨k, hk⟩ := eX (Lib.ctz 64 S);obtain ⟨S2, dh⟩ := eX (S &&& (S - 1));have HTZ := LH (∀ W, Bw w W -> Cz 140 #[.int .u64 (S : Int)] W fun e w' => e = .returned (.int .i64 (k : Int)) /\ w' = W) fun W hb => by rw [hk]; exact TK S HJ.out.2.1 h0 W (HT.out.below hb)
   have eS1 : IntKind.u64.wrap ((S : Int) - 1) = ((S - 1 : Nat) : Int) := by rw [IntKind.wrap_u64]; have := HJ.out.2.1; omega
   obtain ⟨Sm, hSm⟩ := eX (S - 1);rw [<- hSm] at eS1;have eA : bits .and .u64 (S : Int) (Sm : Int) = (S2 : Int) := by rw [bits_and_u64_nat S Sm HJ.out.2.1 (by have := HJ.out.2.1; omega), dh, hSm]
   have HS := LH (iC S = (k : Int) :: iC S2 /\ S2 < 18446744073709551616) ⟨by rw [hst, hk, dh], by have := RJ h0; have := HJ.out.2.1; omega⟩;have hs1 : m + 1 <= maxLen := by unfold maxLen; omega
   have hs2 : (m + 1) * 8 <= 140737488355328 := by omega
   clear hst hk dh hSm h0
   go_wp2_with (first
    |((with_reducible refine (HTZ.out _ HJ.out.2.2.2.2).mono ?_); rintro e w1 ⟨rfl, jH⟩; have hw2 := jH.symm; clear jH; subst hw2)
    |(at_builtin; refine gW rfl (.tmp 13) (.tmp 16) 22 22 rfl w.heap.size 3 i0 _ 1 8 Tryz.underlying22 aZ hz0 hz1 hz2 rfl _ _ _ rfl (Q4 HJ.out.2.2.2.1 _) _ 1 [.int .i64 (k : Int)] rfl (FD Tryz.underlying22 hz1 _ _ _ rfl) hs1 hs2 (aF HJ.out.2.2.2.2 _).size ?_; intro v5 w5 ed cB dW; have bf := LH (w5.ownsRow w.heap.size 3 1 v5 (m + 1) (iv R ++ [.int .i64 (k : Int)]) /\ Bw w w5) ⟨ed, eH (aF HJ.out.2.2.2.2 _) cB (fun g hg => (HJ.out.2.2.2.1.lt _ hg).1)⟩; clear ed cB dW))
   go_roundg g
   case rel =>
    refine ⟨S2, R ++ [(k : Int)], by first | rfl | go_num, Lh ⟨by have := HJ.out.1; rw [HS.out.1] at this; simp at this; exact this, HS.out.2, ?_, ?_, bf.out.2⟩⟩
    ·rw [<- HJ.out.2.2.1, HS.out.1]; simp
    ·rw [List.length_append, <- HM.out, show iv (R ++ [(k : Int)]) = iv R ++ [.int .i64 (k : Int)] by simp [iv]]; exact bf.out.1
   case measure => omega
theorem QX (p : Rx -> Bool) (F : Nat) (ks : List Rx) (B : Option Addr) (m d : Nat) (mP : m = ks.length) (iA : m <= d) (fG : d <= 9223372036854775807) (w : World) (gQ : dU w ks B 0) (hen : ∀ args W, (callFunc F args).run Tryz.prog W = .ok (.enter F args) W) (rW : ∀ i, i < ks.length -> ∀ (A B : Option Addr) (n c k d : Nat) (W : World), Bw w W -> aI W (av ks i) A n c B k d -> Calls Tryz.prog F #[.agg #[.int .i64 (av ks i).kind, .slice A n c, .slice B k d]] W (aU W (p (av ks i))))
  (V : Bool) (hV : V = ks.any p) : Calls Tryz.prog 115 #[.slice B m d, .func (.func F) #[] #[]] w fun e w' => ∃ x : Int, e = .returned (.int .i64 x) /\ decide (0 <= x) = V /\ Bw w w' := by
 have HK := LH (m = ks.length /\ dU w ks B 0 /\ V = ks.any p) ⟨mP, gQ, hV⟩;have dH := Lh rW;clear mP gQ hV rW;go_enter Tryz.func115, Tryz.ntmps115;go_wp2_with fail
 go_loopg [8] m (fun g s8 wr => ∃ (i : Nat), i + g = m /\ s8 = .int .i64 (i : Int) /\ Hid ((∀ j, j < i -> p (av ks j) = false) /\ Bw w wr))
 case atStart => exact ⟨0, by omega, rfl, Lh ⟨fun j h => by omega, Below.refl _ _⟩⟩
 case round =>
  obtain ⟨i, hi, rfl, HI⟩ := hrel
  by_cases hlt : i < m
  · obtain ⟨g, rfl⟩ : ∃ g, gk = g + 1 := ⟨gk - 1, by omega⟩;have aH : i < ks.length := by rw [<- HK.out.1]; exact hlt
    obtain ⟨b, o, rfl⟩ := HK.out.2.1.place (by omega);obtain ⟨A2, n2, c2, B2, m2, d2, hrg, ax⟩ := HK.out.2.1.kid aH;have aP := Lh (iW hrg HI.out.2);obtain ⟨X, hX⟩ := eX (p (av ks i));have HC := LH (∀ W, Bw w W -> Cz F #[.agg #[.int .i64 (av ks i).kind, .slice A2 n2 c2, .slice B2 m2 d2]] W (aU W X)) fun W hb => by rw [hX]; exact dH.out i aH A2 B2 n2 c2 m2 d2 W hb (ax.below hb)
    have HX := Lh hX;clear hrg ax hX aH
    cases X
    ·go_wp2_with (first
 |(refine aG rfl (.tmp 14) rfl b (o + i * 3) rfl (av ks i).kind A2 B2 n2 c2 m2 d2 aP.out ?_)
 |((refine (HC.out _ HI.out.2).mono ?_); rintro e w1 hp; obtain ⟨rfl, hb⟩ := aV hp; have H1 := LH (Bw w w1) (ah HI.out.2 hb); clear hp hb))
     go_roundg g
     case rel => exact ⟨i + 1, by omega, by go_num, Lh ⟨fun j hj => by
      by_cases e : j < i
      ·exact HI.out.1 j e
      ·obtain rfl : j = i := by omega
       exact HX.out.symm, H1.out⟩⟩
     case measure => omega
    ·have kz := LH (V = true) (by
      rw [HK.out.2.2, List.any_eq_true];exact ⟨_, gU (by rw [<- HK.out.1]; exact hlt), HX.out.symm⟩)
     go_wp2_with (first
 |(refine aG rfl (.tmp 14) rfl b (o + i * 3) rfl (av ks i).kind A2 B2 n2 c2 m2 d2 aP.out ?_)
 |((refine (HC.out _ HI.out.2).mono ?_); rintro e w1 hp; obtain ⟨rfl, hb⟩ := aV hp; have H1 := LH (Bw w w1) (ah HI.out.2 hb); clear hp hb))
     go_ret;exact ⟨_, rfl, by rw [kz.out]; simp, H1.out⟩
  · obtain rfl : i = m := by omega
    have HE := LH (V = false) (by
     rw [HK.out.2.2, List.any_eq_false];intro x hx;obtain ⟨j, hj, e⟩ := List.getElem_of_mem hx;have h1 := HI.out.1 j (by rw [HK.out.1]; exact hj);rw [gI hj] at h1;rw [<- e, h1]; simp)
    go_wp2_with fail;go_ret;exact ⟨_, rfl, by rw [HE.out]; rfl, HI.out.2⟩
theorem Iu (p : Rx -> Bool) (F : Nat) (ks : List Rx) (B : Option Addr) (m d : Nat) (mP : m = ks.length) (iA : m <= d) (fG : d <= 9223372036854775807) (w : World) (gQ : dU w ks B 0) (hen : ∀ args W, (callFunc F args).run Tryz.prog W = .ok (.enter F args) W) (rW : ∀ i, i < ks.length -> ∀ (A B : Option Addr) (n c k d : Nat) (W : World), Bw w W -> aI W (av ks i) A n c B k d -> Calls Tryz.prog F #[.agg #[.int .i64 (av ks i).kind, .slice A n c, .slice B k d]] W (aU W (p (av ks i))))
  (V : Bool) (hV : V = ks.any p) : Calls Tryz.prog 78 #[.slice B m d, .func (.func F) #[] #[]] w (aU w V) := by
 have HC := Lh (QX p F ks B m d mP iA fG w gQ hen rW V hV);clear mP iA fG gQ hen rW hV;go_enter Tryz.func78, Tryz.ntmps78
 go_wp2_with ((with_reducible refine HC.out.mono ?_); rintro e w1 ⟨x, rfl, hd, hb⟩; have H1 := LH (Bw w w1) hb; clear hb)
 go_ret;exact ⟨rfl, H1.out⟩
theorem Oo (args : Array Value) (W : World) : (callFunc 47 args).run Tryz.prog W = .ok (.enter 47 args) W := by kernel_rfl
theorem Um (args : Array Value) (W : World) : (callFunc 79 args).run Tryz.prog W = .ok (.enter 79 args) W := by kernel_rfl
theorem Tx (r : Rx) (X : Bool) (A B : Option Addr) (n c m d : Nat) (w : World) (hc : ∀ W, Bw w W -> Calls Tryz.prog 47 #[.agg #[.int .i64 r.kind, .slice A n c, .slice B m d]] W (aU W X)) : Calls Tryz.prog 79 #[.agg #[.int .i64 r.kind, .slice A n c, .slice B m d]] w (aU w (!X)) := by
 obtain ⟨K, hK⟩ := eX r.kind;rw [<- hK] at hc ⊢;have HC := Lh hc;have hr1 : (w.alloc (zC K A n c B m d)).rangeAt w.heap.size 0 (zV K A n c B m d) := fun j v hv => by rw [Nat.zero_add]; exact kH (Below.refl _ _) j v hv
 clear hc hK;go_enter Tryz.func79, Tryz.ntmps79
 go_wp2_with (first
  |(refine aG rfl (.tmp 1) rfl w.heap.size (0) rfl K A B n c m d hr1 ?_)
  |((with_reducible refine (HC.out _ (ai _ _)).mono ?_); rintro e w1 hp; obtain ⟨rfl, hb⟩ := aV hp; have H1 := LH (Bw w w1) (ah (ai _ _) hb); clear hp hb))
 go_ret;exact ⟨rfl, H1.out⟩
theorem Qa : ∀ (z : Nat) (r : Rx), SizeOf.sizeOf r <= z -> ∀ (V : Bool), V = aO r -> ∀ (A B : Option Addr) (n c m d : Nat) (w : World), aI w r A n c B m d -> Calls Tryz.prog 47 #[.agg #[.int .i64 r.kind, .slice A n c, .slice B m d]] w (aU w V) := by
 intro z
 induction z with
 |zero => intro r hz; exact absurd hz (by cases r; rw [Rx.mk.sizeOf_spec]; omega)
 |succ z ih =>
  intro r hz V hV A B n c m d w hop;have hk : ∀ i, i < r.kids.length -> ∀ (A B : Option Addr) (n c k d : Nat) (W : World), aI W (av r.kids i) A n c B k d -> Cz 47 #[.agg #[.int .i64 (av r.kids i).kind, .slice A n c, .slice B k d]] W (aU W (aO (av r.kids i))) := fun i hi A B n c k d W h => ih _ (by have := jZ (gU (ks := r.kids) hi); omega) _ rfl A B n c k d W h
  have HAN := LH (∀ W, Bw w W -> Cz 78 #[.slice B m d, .func (.func 47) #[] #[]] W (aU W (r.kids.any aO))) fun W hb => Iu aO _ r.kids B m d hop.mlen hop.mcap hop.dmax W (dU.below hb _ hop.kids) Oo (fun i hi A B n c k d W' _ h => hk i hi A B n c k d W' h) _ rfl
  have HAL := LH (∀ W, Bw w W -> Cz 78 #[.slice B m d, .func (.func 79) #[] #[]] W (aU W (r.kids.any fun x => !aO x))) fun W hb => Iu (fun x => !aO x) _ r.kids B m d hop.mlen hop.mcap hop.dmax W (dU.below hb _ hop.kids) Um (fun i hi A B n c k d W' _ h => Tx _ _ A B n c k d W' fun W2 hb2 => hk i hi A B n c k d W2 (h.below hb2)) _ rfl
  obtain ⟨K, hK⟩ := eX r.kind;have fV := LH (V = if K = 3 then r.kids.all aO else if K = 4 then r.kids.any aO else decide (K = 1 \/ K = 5)) (by rw [hV, CW, hK]);rw [<- hK];clear hV hop ih hz hK hk
  by_cases k1 : K = 1
  ·skip
   have ab : (K == 1) = true := bT (by omega);have HE := LH (V = true) (by rw [fV.out, if_neg (by omega), if_neg (by omega)]; simp; omega);go_enter Tryz.func47, Tryz.ntmps47;go_wp2_with fail;go_ret;exact ⟨HE.out.symm ▸ rfl, ai _ _⟩
  ·by_cases k5 : K = 5
   ·skip
    have ab : (K == 1) = false := bF (by omega);have bb : (K == 5) = true := bT (by omega);have HE := LH (V = true) (by rw [fV.out, if_neg (by omega), if_neg (by omega)]; simp; omega);go_enter Tryz.func47, Tryz.ntmps47;go_wp2_with fail;go_ret;exact ⟨HE.out.symm ▸ rfl, ai _ _⟩
   ·by_cases k4 : K = 4
    ·skip
     have ab : (K == 1) = false := bF (by omega);have bb : (K == 5) = false := bF (by omega);have cb : (K == 4) = true := bT (by omega);have HE := LH (V = r.kids.any aO) (by rw [fV.out, if_neg (by omega), if_pos k4]);obtain ⟨X, hX⟩ := eX (r.kids.any aO);rw [<- hX] at HAN HE;clear hX;go_enter Tryz.func47, Tryz.ntmps47
     go_wp2_with ((with_reducible refine (HAN.out _ (ai _ _)).mono ?_); rintro e w1 hp; obtain ⟨rfl, hb⟩ := aV hp; have H1 := LH (Bw w w1) (ah (ai _ _) hb); clear hp hb)
     go_ret;exact ⟨HE.out.symm ▸ rfl, H1.out⟩
    ·by_cases k3 : K = 3
     ·skip
      have ab : (K == 1) = false := bF (by omega);have bb : (K == 5) = false := bF (by omega);have cb : (K == 4) = false := bF (by omega);have db : (K == 3) = true := bT (by omega);have HE := LH (V = !(r.kids.any fun x => !aO x)) (by rw [fV.out, if_pos k3, List.all_eq_not_any_not]);obtain ⟨X, hX⟩ : ∃ X, X = r.kids.any fun x => !aO x := ⟨_, rfl⟩
      rw [<- hX] at HAL HE;clear hX;go_enter Tryz.func47, Tryz.ntmps47
      go_wp2_with ((with_reducible refine (HAL.out _ (ai _ _)).mono ?_); rintro e w1 hp; obtain ⟨rfl, hb⟩ := aV hp; have H1 := LH (Bw w w1) (ah (ai _ _) hb); clear hp hb)
      go_ret;exact ⟨HE.out.symm ▸ rfl, H1.out⟩
     ·skip
      have ab : (K == 1) = false := bF (by omega);have bb : (K == 5) = false := bF (by omega);have cb : (K == 4) = false := bF (by omega);have db : (K == 3) = false := bF (by omega);have HE := LH (V = false) (by rw [fV.out, if_neg (by omega), if_neg (by omega)]; simp; omega);go_enter Tryz.func47, Tryz.ntmps47;go_wp2_with fail;go_ret;exact ⟨HE.out.symm ▸ rfl, ai _ _⟩
theorem Mc {r : Rx} {A B : Option Addr} {n c m d : Nat} {w : World} (h : aI w r A n c B m d) (V : Bool) (hV : V = aO r) : Calls Tryz.prog 47 #[.agg #[.int .i64 r.kind, .slice A n c, .slice B m d]] w (aU w V) := Qa _ r (Nat.le_refl _) V hV A B n c m d w h
namespace Rgx
def fC (x : Rx) : Bool := decide (x.kind ≠ 0 /\ x.kind ≠ 2)
def jU (q : Nat -> Prop) (base : Nat) (f : List Rx) (v : Value) (S : Nat) (w : World) : Prop := aD q base v (f.filter fC) w /\ (∀ i : Nat, S.testBit i = true ↔ ∃ x ∈ f, (i : Int) ∈ x.syms) /\ S < 18446744073709551616
section
variable {q : Nat -> Prop} {base : Nat} {f : List Rx} {v v' : Value} {S T : Nat} {w W : World} {y : Rx}
theorem jU.below (h : jU q base f v S w) (hb : Bw w W) : jU q base f v S W := ⟨h.1.below hb, h.2⟩
theorem Oe {f : List Rx} {y : Rx} (h : fC y = false) : (f ++ [y]).filter fC = f.filter fC := by rw [List.filter_append, List.filter_cons_of_neg (by simp [h])]; simp
theorem SE {f : List Rx} {y : Rx} (h : fC y = true) : (f ++ [y]).filter fC = f.filter fC ++ [y] := by rw [List.filter_append, List.filter_cons_of_pos h]; rfl
theorem Ns {S : Nat} (h : ∀ i : Nat, S.testBit i = true ↔ ∃ x ∈ f, (i : Int) ∈ x.syms) (hy : y.syms = []) : ∀ i : Nat, S.testBit i = true ↔ ∃ x ∈ f ++ [y], (i : Int) ∈ x.syms := fun i => by
 rw [h];constructor
 ·rintro ⟨x, hx, hi⟩; exact ⟨x, by simp [hx], hi⟩
 ·rintro ⟨x, hx, hi⟩
  rcases List.mem_append.1 hx with hx | hx
  ·exact ⟨x, hx, hi⟩
  ·rw [show x = y by simpa using hx, hy] at hi; cases hi
theorem jU.none (h : jU q base f v S w) (h0 : fC y = false) (hy : y.syms = []) : jU q base (f ++ [y]) v S w := ⟨by rw [Oe h0]; exact h.1, Ns h.2.1 hy, h.2.2⟩
theorem jU.set (h : jU q base f v S w) (h0 : fC y = false) (hy : ∀ x ∈ y.syms, 0 <= x /\ x < 64) : jU q base (f ++ [y]) v (S ||| jK y.syms) w := ⟨by rw [Oe h0]; exact h.1, fun i => by
 rw [Nat.testBit_or, Bool.or_eq_true, h.2.1, Cb hy];constructor
 ·rintro (⟨x, hx, hi⟩ | hi)
  ·exact ⟨x, by simp [hx], hi⟩
  ·exact ⟨y, by simp, hi⟩
 ·rintro ⟨x, hx, hi⟩
  rcases List.mem_append.1 hx with hx | hx
  ·exact .inl ⟨x, hx, hi⟩
  ·rw [show x = y by simpa using hx] at hi; exact .inr hi, by
 rw [show 18446744073709551616 = 2 ^ 64 from rfl];exact Nat.or_lt_two_pow h.2.2 (Cn hy)⟩
theorem jU.other (h : jU q base f v S w) (h0 : fC y = true) (hy : y.syms = []) (hr : aD q base v' (f.filter fC ++ [y]) W) : jU q base (f ++ [y]) v' S W := ⟨by rw [SE h0]; exact hr, Ns h.2.1 hy, h.2.2⟩
end
theorem FP {l : List Rx} {i : Nat} (h : i < l.length) : flatR (l.take (i + 1)) = flatR (l.take i) ++ flt (av l i) := by
 rw [List.take_succ_eq_append_getElem h, uy, gI h];show _ ++ (flt l[i] ++ []) = _;rw [List.append_nil]
theorem xJ {l : List Rx} {i : Nat} (h : i < l.length) : l.take (i + 1) = l.take i ++ [av l i] := by rw [List.take_succ_eq_append_getElem h, gI h]
theorem KJ {f : List Rx} {S : Nat} (h : ∀ i : Nat, S.testBit i = true ↔ ∃ x ∈ f, (i : Int) ∈ x.syms) (hS : S < 18446744073709551616) : uh f = f.filter fC ++ if S = 0 then [] else [.mk 2 (iC S) []] := by
 unfold uh;have e := Ue h
 by_cases h0 : S = 0
 ·rw [if_pos h0, if_pos (by rw [<- e, h0, LZ])]; rfl
 ·rw [if_neg h0, if_neg (by rw [<- e, OW h0 hS]; simp), e]; rfl
theorem NC {l ts : List Rx} (hN : ∀ x ∈ l, NF x) (hp : ts.Perm (uh (flatR l))) (hs : ts.Pairwise (fun a b => ¬ jE b a)) : altEnd (xK (dD ts)) = altP l := by
 unfold altP;rw [WJ (NF.flatR hN) (Jh hs) fun z => by rw [F3, hp.mem_iff]]
theorem Qo {s : List Rx} : xK s = if qm s = true /\ s.tail.any aO = true then s.tail else s := by
 cases s with
 |nil => rfl
 |cons x t =>
  rw [MC];simp [qm]
theorem RN (l : List Rx) : (((flatR l).filter fC).length : Int) <= aj l := by
 have h1 := List.length_filter_le fC (flatR l);have h2 := mW (flatR l);have h3 := zX l;omega
end Rgx
namespace Rgx
theorem Ox {l I : List Rx} {i : Nat} (hc : aj l <= 1000000000000) (hi : i < l.length) (hI : flt (av l i) = I) : ∀ j, j <= I.length -> ((flatR (l.take i) ++ I.take j).filter fC).length <= 1000000000000 := fun j hj => by
 have h1 := List.length_filter_le fC (flatR (l.take i) ++ I.take j);have h2 := mW (flatR (l.take (i + 1)));have h3 := zX (l.take (i + 1));have h4 := vU (rs := l) (i + 1);rw [FP hi, hI, List.length_append] at h2;rw [List.length_append, List.length_take] at h1;rw [FP hi, hI] at h3;omega
end Rgx
theorem NS {p : Nat -> Prop} {W W' w' : World} {I : List Rx} {B : Option Addr} {v v' : Value} (h : bA p W I B) (hb : Bw W W') (hp : ∀ b, p b -> b < W.heap.size /\ some b ≠ v.ownBlock) (hn : I ≠ [] -> ∀ b o, B = some ⟨b, o, none⟩ -> some b ≠ v.ownBlock) (hg : W'.grownBy w' v.ownBlock) (ha : v'.ownBlock = v.ownBlock \/ v'.ownBlock = some W'.heap.size) : bA p w' I B /\ (I ≠ [] -> ∀ b o, B = some ⟨b, o, none⟩ -> some b ≠ v'.ownBlock) := by
 have keep : ∀ b o, b < W.heap.size -> some b ≠ v.ownBlock -> w'.cell? ⟨b, o, none⟩ = W.cell? ⟨b, o, none⟩ := fun b o hl hne => (World.cell?_of_block (hg.block b (Nat.lt_of_lt_of_le hl hb.size) hne)).trans (hb.cell (p := ⟨b, o, none⟩) hl)
 refine ⟨fun i hi => ?_, fun hne b o e => ?_⟩
 ·obtain ⟨b, o, v1, v2, e, h1, h2, h3, h4⟩ := h i hi;have hne := hn (List.ne_nil_of_length_pos (by omega)) b o e;have hl := World.block_lt_of_cell? W _ h1;exact ⟨b, o, v1, v2, e, (keep b _ hl hne).trans h1, (keep b _ hl hne).trans h2, (keep b _ hl hne).trans h3, aY.keep (fun b o hb => keep b o (hp b hb).1 (hp b hb).2) _ h4⟩
 ·have hne2 := hn hne b o e
  rcases ha with h1 | h1
  ·rw [h1]; exact hne2
  ·rw [h1];intro e2;have e3 : b = W'.heap.size := by simpa using e2
   obtain ⟨b', o', v1, v2, e4, h5, _⟩ := h 0 (List.length_pos_iff.2 hne);have e5 : b = b' := by rw [e] at e4; simp only [Option.some.injEq, Addr.mk.injEq] at e4; exact e4.1
   have hl := World.block_lt_of_cell? W _ h5;have := hb.size;simp only at hl;omega
theorem F4 {q : Nat -> Prop} {base : Nat} {v : Value} {rs : List Rx} {w0 w W : World} (h : aD q base v rs w) (hb : Bw w0 w) (hg : w.grownBy W v.ownBlock) (hbase : w0.heap.size <= base := by simp) : Bw w0 W := eH hb hg fun g hg => by
 obtain ⟨xs, _, hO⟩ := h;have := (hO.lt g hg).1;omega
namespace Rgx
theorem Fy {p : Nat -> Prop} {w : World} {S : Nat} {L : List Int} {A : Option Addr} {n c : Nat} (hL : L = iC S) (hn : n = L.length) (jd : n <= c) (hcm : c <= maxLen) (hr : Rd w A (iv L)) (hA : ∀ b o, A = some ⟨b, o, none⟩ -> p b) : ak p w (.mk 2 L []) A n c none 0 0 :=
 ak.make (by constructor <;> decide) (fun x hx => by rw [hL] at hx; have := (zQ.1 hx).1; constructor <;> omega) hn jd hcm hr (fun _ b o e => hA b o e) rfl (Nat.le_refl _) (Nat.zero_le _) (fun i hi => absurd hi (by simp)) fun h => absurd rfl h
theorem VN {l : List Rx} (hN : ∀ x ∈ l, NF x) (hc : aj l <= 1000000000000) : (uh (flatR l)).length <= 1000000000000 := by
 have h1 := mW (flatR l);have h2 := zX l;unfold uh
 by_cases h : dR (flatR l) = []
 ·rw [if_pos h, List.append_nil];have h3 := List.length_filter_le (fun x : Rx => decide (x.kind ≠ 0 /\ x.kind ≠ 2)) (flatR l);omega
 ·rw [if_neg h, List.length_append];obtain ⟨s, hs⟩ := List.exists_mem_of_ne_nil _ h;obtain ⟨_, y, hy, gG⟩ := qY.1 hs;have gY : y.kind = 2 := by
   by_cases e : y.kind = 2
   ·exact e
   ·rw [(NF.flatR hN y hy).1.syms e] at gG; cases gG
  have h3 : ((flatR l).filter (fun x : Rx => decide (x.kind ≠ 0 /\ x.kind ≠ 2))).length < (flatR l).length := by
   rw [List.length_filter_lt_length_iff_exists];exact ⟨y, hy, by simp [gY]⟩
  simp only [List.length_cons, List.length_nil];omega
end Rgx
theorem Le {q : Nat -> Prop} {s : List Rx} {R : Rx} {B6 : Option Addr} {N6 d6 : Nat} {w : World} {ow : Option Nat} {V1 X2 : Bool} (hse : altEnd (xK s) = R) (jg : bA (fun b => q b /\ some b ≠ ow) w s B6) (tL : N6 <= d6) (hm : d6 <= maxLen) (hN : N6 = s.length) (hpl : s ≠ [] -> ∃ g, B6 = some ⟨g, 0, none⟩ /\ q g) (hV : V1 = qm s) (hX : X2 = s.tail.any aO) :
  ∃ B7, (V1 = true -> ∀ W, (Instr.slice 23 (.slice B6 N6 d6) (some (.int .i64 1)) none none).run Tryz.prog W = .ok (.slice B7 (N6 - 1) (d6 - 1)) W) /\
   (∀ W, Bw w W -> Calls Tryz.prog 123 #[.slice B6 N6 d6] W (aU W V1)) /\
   (V1 = true -> ∀ W, Bw w W -> Calls Tryz.prog 78 #[.slice B7 (N6 - 1) (d6 - 1), .func (.func 47) #[] #[]] W (aU W X2)) /\
   ((V1 && X2) = false -> ∀ W, Bw w W -> Calls Tryz.prog 116 #[.int .i64 4, .int .i64 0, .slice B6 N6 d6] W (dB q W R)) /\
   ((V1 && X2) = true -> ∀ W, Bw w W -> Calls Tryz.prog 116 #[.int .i64 4, .int .i64 0, .slice B7 (N6 - 1) (d6 - 1)] W (dB q W R)) := by
 have lF : d6 <= 9223372036854775807 := by unfold maxLen at hm; exact hm
 have hcs := Qo (s := s);rw [hcs] at hse;have hbe : ∀ W, Bw w W -> Cz 123 #[.slice B6 N6 d6] W (aU W V1) := fun W hb => Oh s B6 N6 d6 hN tL lF W (jg.below hb) V1 hV
 have hjw : (V1 && X2) = false -> ∀ W, Bw w W -> Cz 116 #[.int .i64 4, .int .i64 0, .slice B6 N6 d6] W (dB q W R) := fun hf W hb => by
  refine Gn (p := q) 4 0 (by constructor <;> decide) (by constructor <;> decide) s B6 N6 d6 hN tL hm W ((jg.below hb).mono fun b hb => hb.1) (fun hne b o e => ?_) R ?_
  ·obtain ⟨g, e2, hq⟩ := hpl hne;rw [e] at e2;have e3 : b = g := by simp only [Option.some.injEq, Addr.mk.injEq] at e2; exact e2.1
   rw [e3]; exact hq
  ·rw [Hu, <- hse, if_neg];rw [<- hV, <- hX];intro h;rw [h.1, h.2] at hf
   cases hf
 by_cases h1 : V1 = true
 ·have hne : s ≠ [] := by
   rintro rfl;rw [hV] at h1
   cases h1
  obtain ⟨g, rfl, hq⟩ := hpl hne;obtain ⟨i0, aZ, hz0, hz1, hz2⟩ := info_parts lG;have hl := List.length_pos_iff.2 hne;obtain ⟨o', ho', hcut⟩ := Cc (P := Tryz.prog) Tryz.underlying23 aZ g 0 N6 d6 1 (by omega) tL;have Ey : bA (fun b => q b /\ some b ≠ ow) w s.tail (some ⟨g, o', none⟩) := by
   match s, jg, hN with
   | x :: t, jg, hN =>
     refine jg.tail fun ht => ?_
     have := List.length_pos_iff.2 ht;rw [ho' (by simp at hN; omega), hz1]
  refine ⟨some ⟨g, o', none⟩, fun _ => hcut, hbe, fun _ W hb => ?_, hjw, fun ht W hb => ?_⟩
  ·refine Iu aO _ s.tail _ (N6 - 1) (d6 - 1) (by rw [List.length_tail]; omega) (by omega) (by omega) W (Ey.below hb).ok Oo (fun i hi A B n c k d W2 hb2 h => Mc h _ rfl) X2 hX
  ·refine Gn (p := q) 4 0 (by constructor <;> decide) (by constructor <;> decide) s.tail _ (N6 - 1) (d6 - 1) (by rw [List.length_tail]; omega) (by omega) (by omega) W ((Ey.below hb).mono fun b hb => hb.1) (fun hne b o e => ?_) R ?_
   · have e3 : g = b := by simp only [Option.some.injEq, Addr.mk.injEq] at e; exact e.1
     rw [<- e3]; exact hq
   · rw [Hu, <- hse, if_pos];rw [<- hV, <- hX];rw [Bool.and_eq_true] at ht;exact ht
 ·refine ⟨none, fun h => absurd h h1, hbe, fun h => absurd h h1, hjw, fun h => ?_⟩;rw [Bool.and_eq_true] at h;exact absurd h.1 h1
theorem CG {p : Nat -> Prop} (w : World) (hp : ∀ b, p b -> b < w.heap.size) (hDB : DB w) (l : List Rx) (B : Option Addr) (m d : Nat) (hm : m = l.length) (iA : m <= d) (fG : d <= 9223372036854775807) (hN : ∀ x ∈ l, NF x) (hc : aj l <= 1000000000000) (hk : bA p w l B) : Calls Tryz.prog 83 #[.slice B m d] w (dB p w (altP l)) := by
 obtain ⟨R, hR⟩ := eX (altP l);have HR := Lh hR;rw [<- hR];clear hR;obtain ⟨i0, aZ, hz0, hz1, hz2⟩ := info_parts lG;obtain ⟨q, hq⟩ : ∃ q : Nat -> Prop, q = fun b => (p b \/ w.heap.size < b) := ⟨_, rfl⟩
 have HL : Hid (m = l.length /\ bA p w l B /\ ∀ x ∈ l, NF x) := Lh ⟨hm, hk, hN⟩;have gM := Lh hDB;have iw : Hid (aj l <= 1000000000000 /\ ∀ i, aj (l.take i) <= aj l) := Lh ⟨hc, fun i => vU i⟩;have HQ : Hid ((∀ b, p b -> q b) /\ (∀ b, w.heap.size < b -> q b) /\ (∀ b, q b -> b ≠ w.heap.size) /\ (∀ b, q b -> p b \/ w.heap.size <= b) /\ ∀ b, p b -> b < w.heap.size) := Lh (by subst hq; exact ⟨fun b h => .inl h, fun b h => .inr h, fun b h => by rcases h with h | h; (have := hp b h; omega); omega, fun b h => by rcases h with h | h; exact .inl h; exact .inr (by omega), hp⟩);have HZ : Hid (∀ W, Below (w.alloc zR).heap.size (w.alloc zR) W -> ae W w.heap.size zL 25) := Lh fun W hb => (ae.new' w zL _ 25 rfl).below hb (by simp)
 clear hm hk hN hc hp hq hDB;go_enter Tryz.func83, Tryz.ntmps83;go_wp2_with fail
 go_loopg [3, 4, 12] m (fun g s3 s4 s12 wr => ∃ (i S : Nat), i + g = m /\ s4 = .int .u64 (S : Int) /\ s12 = .int .i64 (i : Int) /\ Hid (jU q (w.heap.size + 1) (flatR (l.take i)) s3 S wr /\ Below (w.alloc zR).heap.size (w.alloc zR) wr))
 case atStart => exact ⟨0, 0, by omega, rfl, rfl, Lh ⟨⟨aD.nil _ _ _, fun i => by simp [flatR], by omega⟩, Below.refl _ _⟩⟩
 case round =>
  obtain ⟨i, S, hi, rfl, rfl, HI⟩ := hrel;obtain ⟨B0, d0, hv, _⟩ := HI.out.1.1.e;obtain ⟨N0, eY⟩ := eX (((flatR (l.take i)).filter fC).length);rw [<- eY] at hv;subst hv;clear eY;have bg : Hid (Bw w wr) := Lh (ah (ai _ _) HI.out.2)
  by_cases hlt : i < m
  ·obtain ⟨gg, rfl⟩ : ∃ g, gk = g + 1 := ⟨gk - 1, by omega⟩;have bR : Hid (i < l.length) := Lh (by rw [<- HL.out.1]; exact hlt);obtain ⟨b, o, rfl⟩ := HL.out.2.1.place (by have := bR.out; omega);obtain ⟨A, n, c, B2, m2, d2, hrg, ax⟩ := HL.out.2.1.kid bR.out;obtain ⟨x, hx⟩ := eX (av l i);rw [<- hx] at hrg ax;obtain ⟨K, hK⟩ := eX x.kind;rw [<- hK] at hrg;have aP := Lh (iW hrg bg.out);have gz := Lh ax;have bQ : Hid (K = x.kind /\ x = av l i) := Lh ⟨hK, hx⟩;have nT : Hid (NF x) := Lh (HL.out.2.2 x (by rw [hx]; exact gU bR.out));have G5 := ax.o.mcap;have GK := ax.o.dmax;clear hrg ax hx hK
   by_cases k4 : K = 4
   ·skip
    have ab : (K == 4) = true := bT (by omega);have uI : Hid (flt (av l i) = x.kids) := Lh (by rw [<- bQ.out.2]; unfold flt; rw [if_pos (by rw [<- bQ.out.1]; exact k4)]);clear k4
    go_wp2_with (first
     |(refine aG rfl (.tmp 14) rfl b (o + i * 3) rfl K A B2 n c m2 d2 aP.out ?_)
     |(refine wB rfl 25 (.tmp 6) (.tmp 15) rfl wr.heap.size 0 rfl (zV K A n c B2 m2 d2) rfl (ae.new' wr zL _ 25 rfl) 3 au ?_; intro w4 ag; have aA : Hid (ae w4 wr.heap.size (zV K A n c B2 m2 d2) 25 /\ Bw wr w4) := Lh (dC ag); clear ag; have gF : Hid (Below (w.alloc zR).heap.size (w.alloc zR) w4) := Lh (ah HI.out.2 aA.out.2); have hc0 := (aA.out.1.alloc (zC K A n c B2 m2 d2)).cell (j := 0) rfl; have hc2 := (aA.out.1.alloc (zC K A n c B2 m2 d2)).cell (j := 2) rfl; have bO := aS aA.out.1)
     |(refine aG rfl (.tmp 6) rfl wr.heap.size (0) rfl K A B2 n c m2 d2 bO ?_))
    obtain ⟨W5, wL⟩ := eX (w4.alloc (zC K A n c B2 m2 d2));have D5 : Hid (Bw w4 W5) := Lh (by rw [wL]; exact ai _ _);have Dg : Hid (Bw wr W5) := Lh (ah aA.out.2 D5.out);have Kn : Hid (Below (w.alloc zR).heap.size (w.alloc zR) W5) := Lh (ah gF.out D5.out);have pQ : Hid (bA p W5 x.kids B2 /\ m2 = x.kids.length /\ (∀ y ∈ x.kids, NF y) /\ (x.kids ≠ [] -> ∀ b o, B2 = some ⟨b, o, none⟩ -> some b ≠ (Value.slice B0 N0 d0).ownBlock)) := Lh ⟨gz.out.kids.1.below (ah bg.out Dg.out), gz.out.o.mlen, nT.out.kids, fun hne b o e e2 => by
     obtain ⟨xs, _, hO⟩ := HI.out.1.1;have h1 := (hO.lt b e2.symm).1;have := HQ.out.2.2.2.2 b (gz.out.kids.2 hne b o e);omega⟩
    have HLEN : Hid (∀ j, j <= x.kids.length -> ((flatR (l.take i) ++ x.kids.take j).filter fC).length <= 1000000000000) := Lh (Ox iw.out.1 bR.out uI.out);rw [<- wL];clear wL
    go_loopg [3, 4, 25] m2 (fun g2 s3 s4 Ea wr => ∃ (j S : Nat), j + g2 = m2 /\ s4 = .int .u64 (S : Int) /\ Ea = .int .i64 (j : Int) /\ Hid (jU q (w.heap.size + 1) (flatR (l.take i) ++ x.kids.take j) s3 S wr /\ Below (w.alloc zR).heap.size (w.alloc zR) wr /\ bA p wr x.kids B2 /\ (x.kids ≠ [] -> ∀ b o, B2 = some ⟨b, o, none⟩ -> some b ≠ s3.ownBlock)))
    case atStart => exact ⟨0, S, by omega, rfl, rfl, Lh ⟨by rw [List.take_zero, List.append_nil]; exact HI.out.1.below Dg.out, Kn.out, pQ.out.1, pQ.out.2.2.2⟩⟩
    case round =>
     obtain ⟨j, S, hj, rfl, rfl, HJ⟩ := hrel;obtain ⟨B5, d5, hv, _⟩ := HJ.out.1.1.e;obtain ⟨N5, bD⟩ := eX (((flatR (l.take i) ++ x.kids.take j).filter fC).length);rw [<- bD] at hv;subst hv;clear bD
     by_cases lh : j < m2
     ·obtain ⟨g2, rfl⟩ : ∃ g, gk = g + 1 := ⟨gk - 1, by omega⟩;have nQ : Hid (j < x.kids.length) := Lh (by rw [<- pQ.out.2.1]; exact lh);have HO_base : Hid (w.heap.size + 1 <= wr.heap.size) := Lh (by have h1 := HJ.out.2.1.size; simpa using h1);obtain ⟨b2, o2, qI⟩ := pQ.out.1.place (by have := nQ.out; omega);have HPW : Hid (∀ b, p b -> b < wr.heap.size /\ some b ≠ (Value.slice B5 N5 d5).ownBlock) := Lh fun b hb => ⟨by have := HQ.out.2.2.2.2 b hb; have := HO_base.out; omega, fun e => by
        obtain ⟨xs, _, hO⟩ := HJ.out.1.1;have h1 := (hO.lt b e.symm).1;have := HQ.out.2.2.2.2 b hb;omega⟩
      have yC := HJ.out.2.2.1;rw [qI] at yC;obtain ⟨A3, n3, c3, B3, m3, d3, hrg3, eF⟩ := yC.kid nQ.out;obtain ⟨y, hy⟩ := eX (av x.kids j);rw [<- hy] at hrg3 eF;obtain ⟨Ky, bi⟩ := eX y.kind;rw [<- bi] at hrg3;have rY := Lh hrg3;have fI : Hid (ak p wr y A3 n3 c3 B3 m3 d3 /\ Ky = y.kind /\ y = av x.kids j) := Lh ⟨eF, bi, hy⟩;have vg : Hid (NF y) := Lh (pQ.out.2.2.1 y (by rw [hy]; exact gU nQ.out));subst qI;clear hrg3 eF hy bi yC
      by_cases ky0 : Ky = 0
      · have nR : Hid (jU q (w.heap.size + 1) (flatR (l.take i) ++ x.kids.take (j + 1)) (.slice B5 N5 d5) S wr) := Lh (by rw [xJ nQ.out, <- List.append_assoc, <- fI.out.2.2]; exact HJ.out.1.none (by unfold fC; rw [<- fI.out.2.1, ky0]; rfl) (by rw [vg.out.k0 (by rw [<- fI.out.2.1]; exact ky0)]; rfl));have yb : (Ky == 0) = true := bT (by omega);clear ky0
        go_wp2_with (first
        |(refine aG rfl (.tmp 27) rfl b2 (o2 + j * 3) rfl Ky A3 B3 n3 c3 m3 d3 rY.out ?_)
        |(refine wB rfl 25 (.tmp 9) (.tmp 28) rfl wr.heap.size 0 rfl (zV Ky A3 n3 c3 B3 m3 d3) rfl (ae.new' wr zL _ 25 rfl) 3 au ?_; intro w6 ag; have aJ : Hid (ae w6 wr.heap.size (zV Ky A3 n3 c3 B3 m3 d3) 25 /\ Bw wr w6) := Lh (dC ag); clear ag; have eZ : Hid (Below (w.alloc zR).heap.size (w.alloc zR) w6) := Lh (ah HJ.out.2.1 aJ.out.2); have uP := aJ.out.1.cell (j := 0) rfl; have kD := aJ.out.1.cell (j := 1) rfl; have yj := aS aJ.out.1))
        go_roundg g2
        case rel => exact ⟨j + 1, S, by omega, by first | rfl | go_num, by go_num, Lh ⟨nR.out.below aJ.out.2, eZ.out, HJ.out.2.2.1.below aJ.out.2, HJ.out.2.2.2⟩⟩
        case measure => omega
      · by_cases ky2 : Ky = 2
        ·have nH := (vg.out.k2 (by rw [<- fI.out.2.1]; exact ky2)).2;have oK := (oh.1 nH).2.2;obtain ⟨T, hT⟩ := eX (jK y.syms);have HSO : Hid (∀ W, Bw wr W -> Cz 91 #[.slice A3 n3 c3] W fun e w' => e = .returned (.int .u64 (T : Nat)) /\ Bw W w') := Lh fun W hb => by rw [hT]; exact Jr y.syms A3 n3 c3 fI.out.1.o.nlen fI.out.1.o.ncap fI.out.1.o.cmax oK W (fI.out.1.o.syms.below hb)
         obtain ⟨S2, dh⟩ := eX (S ||| T);have eO : bits .or .u64 (S : Int) (T : Int) = (S2 : Int) := by rw [bits_or_u64_nat S T HJ.out.1.2.2 (by rw [hT]; exact Cn oK), dh]
         have nR : Hid (jU q (w.heap.size + 1) (flatR (l.take i) ++ x.kids.take (j + 1)) (.slice B5 N5 d5) S2 wr) := Lh (by rw [xJ nQ.out, <- List.append_assoc, <- fI.out.2.2, dh, hT]; exact HJ.out.1.set (by unfold fC; rw [<- fI.out.2.1, ky2]; rfl) oK);have yb : (Ky == 0) = false := bF (by omega);have zb : (Ky == 2) = true := bT (by omega);clear ky0 ky2 hT dh nH oK
         go_wp2_with (first
        |(refine aG rfl (.tmp 27) rfl b2 (o2 + j * 3) rfl Ky A3 B3 n3 c3 m3 d3 rY.out ?_)
        |(refine wB rfl 25 (.tmp 9) (.tmp 28) rfl wr.heap.size 0 rfl (zV Ky A3 n3 c3 B3 m3 d3) rfl (ae.new' wr zL _ 25 rfl) 3 au ?_; intro w6 ag; have aJ : Hid (ae w6 wr.heap.size (zV Ky A3 n3 c3 B3 m3 d3) 25 /\ Bw wr w6) := Lh (dC ag); clear ag; have eZ : Hid (Below (w.alloc zR).heap.size (w.alloc zR) w6) := Lh (ah HJ.out.2.1 aJ.out.2); have uP := aJ.out.1.cell (j := 0) rfl; have kD := aJ.out.1.cell (j := 1) rfl; have yj := aS aJ.out.1)
           |((with_reducible refine (HSO.out _ aJ.out.2).mono ?_); rintro e w7 ⟨rfl, jf⟩; have H7 : Hid (Bw wr w7 /\ Below (w.alloc zR).heap.size (w.alloc zR) w7) := Lh ⟨ah aJ.out.2 jf, ah eZ.out jf⟩; clear jf))
         go_roundg g2
         case rel => exact ⟨j + 1, S2, by omega, by first | rfl | go_num, by go_num, Lh ⟨nR.out.below H7.out.1, H7.out.2, HJ.out.2.2.1.below H7.out.1, HJ.out.2.2.2⟩⟩
         case measure => omega
        ·have EU : fC y = true := by unfold fC; rw [<- fI.out.2.1]; simp [ky0, ky2]
         have yA : y.syms = [] := vg.out.syms (by rw [<- fI.out.2.1]; exact ky2);have EG : Hid (fC y = true /\ y.syms = []) := Lh ⟨EU, yA⟩;obtain ⟨rs, mM⟩ := eX ((flatR (l.take i) ++ x.kids.take j).filter fC);have wH := HJ.out.1.1;rw [<- mM] at wH;obtain ⟨xs, hC, hO⟩ := wH;have HC := Lh hC;have HO := Lh hO;have HRS := Lh mM;have HQ2 : Hid (∀ b, p b -> q b /\ some b ≠ (Value.slice B5 N5 d5).ownBlock) := Lh fun b hb => ⟨HQ.out.1 b hb, fun e => by
           have h1 := (HO.out.lt b e.symm).1;have := HQ.out.2.2.2.2 b hb;omega⟩
         have hlen : rs.length <= 1000000000000 := by
           have h1 := HLEN.out j (Nat.le_of_lt nQ.out);rw [<- mM] at h1;omega
         have hs1 : rs.length + 1 <= maxLen := by unfold maxLen; omega
         have hs2 : (rs.length + 1) * 56 <= 140737488355328 := by omega
         have yb : (Ky == 0) = false := bF (by omega);have zb : (Ky == 2) = false := bF (by omega);clear ky0 ky2 hC hO mM EU yA hlen
         go_wp2_with (first
        |(refine aG rfl (.tmp 27) rfl b2 (o2 + j * 3) rfl Ky A3 B3 n3 c3 m3 d3 rY.out ?_)
        |(refine wB rfl 25 (.tmp 9) (.tmp 28) rfl wr.heap.size 0 rfl (zV Ky A3 n3 c3 B3 m3 d3) rfl (ae.new' wr zL _ 25 rfl) 3 au ?_; intro w6 ag; have aJ : Hid (ae w6 wr.heap.size (zV Ky A3 n3 c3 B3 m3 d3) 25 /\ Bw wr w6) := Lh (dC ag); clear ag; have eZ : Hid (Below (w.alloc zR).heap.size (w.alloc zR) w6) := Lh (ah HJ.out.2.1 aJ.out.2); have uP := aJ.out.1.cell (j := 0) rfl; have kD := aJ.out.1.cell (j := 1) rfl; have yj := aS aJ.out.1)
           |(refine aG rfl (.tmp 9) rfl wr.heap.size (0) rfl Ky A3 B3 n3 c3 m3 d3 yj ?_)
           |(at_builtin; refine gW rfl (.tmp 31) (.tmp 33) 23 23 rfl (w.heap.size + 1) 25 i0 _ 3 56 Tryz.underlying23 aZ hz0 hz1 hz2 rfl _ _ _ rfl (gu HO.out (aF aJ.out.2 _)) _ 1 (zV Ky A3 n3 c3 B3 m3 d3) rfl (jR hz1 _ _ _ _ _ _ _ _) hs1 hs2 (Nat.le_trans (HO_base.out) ((aF aJ.out.2 _)).size) ?_; intro v8 w8 pU kW nN; have bM : Hid (aD q (w.heap.size + 1) v8 (rs ++ [y]) w8 /\ Below (w.alloc zR).heap.size (w.alloc zR) w8 /\ bA p w8 x.kids (some ⟨b2, o2, none⟩) /\ (x.kids ≠ [] -> ∀ b o, (some (⟨b2, o2, none⟩ : Addr)) = some ⟨b, o, none⟩ -> some b ≠ v8.ownBlock)) := Lh ⟨aD.app HC.out (aF aJ.out.2 _) (by rw [fI.out.2.1]; exact aM.one (aY.mono HQ2.out _ ((fI.out.1.below (aF aJ.out.2 _)).q))) rfl kW nN pU, eH (aF eZ.out _) kW (fun g hg => by have h9 := (HO.out.lt _ hg).1; first | exact h9 | (simpa using h9)), NS HJ.out.2.2.1 (aF aJ.out.2 _) HPW.out HJ.out.2.2.2 kW nN⟩; clear pU kW nN))
         go_roundg g2
         case rel => exact ⟨j + 1, S, by omega, by first | rfl | go_num, by go_num, Lh ⟨by
           rw [xJ nQ.out, <- List.append_assoc, <- fI.out.2.2];exact HJ.out.1.other EG.out.1 EG.out.2 (by rw [<- HRS.out]; exact bM.out.1), bM.out.2.1, bM.out.2.2.1, bM.out.2.2.2⟩⟩
         case measure => omega
     ·obtain rfl : j = m2 := by omega
      have yU : Hid (flatR (l.take (i + 1)) = flatR (l.take i) ++ x.kids) := Lh (by rw [FP bR.out, uI.out]);have HAE : Hid (jU q (w.heap.size + 1) (flatR (l.take (i + 1))) (.slice B5 N5 d5) S wr) := Lh (by
        have h1 := HJ.out.1;rw [pQ.out.2.1, List.take_length] at h1;rw [yU.out]; exact h1)
      go_wp2_with fail
      go_roundg gg
      case rel => exact ⟨i + 1, S, by omega, by first | rfl | go_num, by go_num, Lh ⟨HAE.out, HJ.out.2.1⟩⟩
      case measure => omega
   ·skip
    have ab : (K == 4) = false := bF (by omega)
    go_wp2_with (first
     |(refine aG rfl (.tmp 14) rfl b (o + i * 3) rfl K A B2 n c m2 d2 aP.out ?_)
     |(refine wB rfl 25 (.tmp 6) (.tmp 15) rfl wr.heap.size 0 rfl (zV K A n c B2 m2 d2) rfl (ae.new' wr zL _ 25 rfl) 3 au ?_; intro w4 ag; have aA : Hid (ae w4 wr.heap.size (zV K A n c B2 m2 d2) 25 /\ Bw wr w4) := Lh (dC ag); clear ag; have gF : Hid (Below (w.alloc zR).heap.size (w.alloc zR) w4) := Lh (ah HI.out.2 aA.out.2); have hc0 := (aA.out.1.alloc (zC K A n c B2 m2 d2)).cell (j := 0) rfl; have hc2 := (aA.out.1.alloc (zC K A n c B2 m2 d2)).cell (j := 2) rfl; have bO := aS aA.out.1)
     |(refine aG rfl (.tmp 6) rfl wr.heap.size (0) rfl K A B2 n c m2 d2 bO ?_))
    obtain ⟨W5, wL⟩ := eX (w4.alloc (zC K A n c B2 m2 d2));have D5 : Hid (Bw w4 W5) := Lh (by rw [wL]; exact ai _ _);have Dg : Hid (Bw wr W5) := Lh (ah aA.out.2 D5.out);have Kn : Hid (Below (w.alloc zR).heap.size (w.alloc zR) W5) := Lh (ah gF.out D5.out);obtain ⟨B6, hB6⟩ := eX (some (⟨w4.heap.size, 0, none⟩ : Addr));have pQ : Hid (bA p W5 [x] B6 /\ 1 = [x].length /\ (∀ y ∈ [x], NF y) /\ ([x] ≠ [] -> ∀ b o, B6 = some ⟨b, o, none⟩ -> some b ≠ (Value.slice B0 N0 d0).ownBlock)) := Lh ⟨by
     rw [hB6];refine aM.e (xs := (zV K A n c B2 m2 d2)) (by rw [bQ.out.1]; exact aM.one (gz.out.below (ah bg.out Dg.out)).q) fun j v hv => ?_
     rw [Nat.zero_add, wL];exact (ae.at w4 (zV K A n c B2 m2 d2) _ 25 _ rfl rfl).cell hv, rfl, fun y hy => by rw [show y = x by simpa using hy]; exact nT.out, fun hne b o e e2 => by
     obtain ⟨xs, _, hO⟩ := HI.out.1.1;have h1 := (hO.lt b e2.symm).2;rw [hB6] at e;have h3 : w4.heap.size = b := by simp only [Option.some.injEq, Addr.mk.injEq] at e; exact e.1
     have := aA.out.2.size;omega⟩
    have uI : Hid (flt (av l i) = [x]) := Lh (by rw [<- bQ.out.2]; unfold flt; rw [if_neg (by rw [<- bQ.out.1]; exact k4)]);have HLEN : Hid (∀ j, j <= [x].length -> ((flatR (l.take i) ++ [x].take j).filter fC).length <= 1000000000000) := Lh (Ox iw.out.1 bR.out uI.out);rw [<- wL, <- hB6];clear wL hB6 k4
    go_loopg [3, 4, 25] 1 (fun g2 s3 s4 Ea wr => ∃ (j S : Nat), j + g2 = 1 /\ s4 = .int .u64 (S : Int) /\ Ea = .int .i64 (j : Int) /\ Hid (jU q (w.heap.size + 1) (flatR (l.take i) ++ [x].take j) s3 S wr /\ Below (w.alloc zR).heap.size (w.alloc zR) wr /\ bA p wr [x] B6 /\ ([x] ≠ [] -> ∀ b o, B6 = some ⟨b, o, none⟩ -> some b ≠ s3.ownBlock)))
    case atStart => exact ⟨0, S, by omega, rfl, rfl, Lh ⟨by rw [List.take_zero, List.append_nil]; exact HI.out.1.below Dg.out, Kn.out, pQ.out.1, pQ.out.2.2.2⟩⟩
    case round =>
     obtain ⟨j, S, hj, rfl, rfl, HJ⟩ := hrel;obtain ⟨B5, d5, hv, _⟩ := HJ.out.1.1.e;obtain ⟨N5, bD⟩ := eX (((flatR (l.take i) ++ [x].take j).filter fC).length);rw [<- bD] at hv;subst hv;clear bD
     by_cases lh : j < 1
     ·obtain ⟨g2, rfl⟩ : ∃ g, gk = g + 1 := ⟨gk - 1, by omega⟩;have nQ : Hid (j < [x].length) := Lh (by rw [<- pQ.out.2.1]; exact lh);have HO_base : Hid (w.heap.size + 1 <= wr.heap.size) := Lh (by have h1 := HJ.out.2.1.size; simpa using h1);obtain ⟨b2, o2, qI⟩ := pQ.out.1.place (by have := nQ.out; omega);have HPW : Hid (∀ b, p b -> b < wr.heap.size /\ some b ≠ (Value.slice B5 N5 d5).ownBlock) := Lh fun b hb => ⟨by have := HQ.out.2.2.2.2 b hb; have := HO_base.out; omega, fun e => by
        obtain ⟨xs, _, hO⟩ := HJ.out.1.1;have h1 := (hO.lt b e.symm).1;have := HQ.out.2.2.2.2 b hb;omega⟩
      have yC := HJ.out.2.2.1;rw [qI] at yC;obtain ⟨A3, n3, c3, B3, m3, d3, hrg3, eF⟩ := yC.kid nQ.out;obtain ⟨y, hy⟩ := eX (av [x] j);rw [<- hy] at hrg3 eF;obtain ⟨Ky, bi⟩ := eX y.kind;rw [<- bi] at hrg3;have rY := Lh hrg3;have fI : Hid (ak p wr y A3 n3 c3 B3 m3 d3 /\ Ky = y.kind /\ y = av [x] j) := Lh ⟨eF, bi, hy⟩;have vg : Hid (NF y) := Lh (pQ.out.2.2.1 y (by rw [hy]; exact gU nQ.out));subst qI;clear hrg3 eF hy bi yC
      by_cases ky0 : Ky = 0
      · have nR : Hid (jU q (w.heap.size + 1) (flatR (l.take i) ++ [x].take (j + 1)) (.slice B5 N5 d5) S wr) := Lh (by rw [xJ nQ.out, <- List.append_assoc, <- fI.out.2.2]; exact HJ.out.1.none (by unfold fC; rw [<- fI.out.2.1, ky0]; rfl) (by rw [vg.out.k0 (by rw [<- fI.out.2.1]; exact ky0)]; rfl));have yb : (Ky == 0) = true := bT (by omega);clear ky0
        go_wp2_with (first
        |(refine aG rfl (.tmp 27) rfl b2 (o2 + j * 3) rfl Ky A3 B3 n3 c3 m3 d3 rY.out ?_)
        |(refine wB rfl 25 (.tmp 9) (.tmp 28) rfl wr.heap.size 0 rfl (zV Ky A3 n3 c3 B3 m3 d3) rfl (ae.new' wr zL _ 25 rfl) 3 au ?_; intro w6 ag; have aJ : Hid (ae w6 wr.heap.size (zV Ky A3 n3 c3 B3 m3 d3) 25 /\ Bw wr w6) := Lh (dC ag); clear ag; have eZ : Hid (Below (w.alloc zR).heap.size (w.alloc zR) w6) := Lh (ah HJ.out.2.1 aJ.out.2); have uP := aJ.out.1.cell (j := 0) rfl; have kD := aJ.out.1.cell (j := 1) rfl; have yj := aS aJ.out.1))
        go_roundg g2
        case rel => exact ⟨j + 1, S, by omega, by first | rfl | go_num, by go_num, Lh ⟨nR.out.below aJ.out.2, eZ.out, HJ.out.2.2.1.below aJ.out.2, HJ.out.2.2.2⟩⟩
        case measure => omega
      · by_cases ky2 : Ky = 2
        ·have nH := (vg.out.k2 (by rw [<- fI.out.2.1]; exact ky2)).2;have oK := (oh.1 nH).2.2;obtain ⟨T, hT⟩ := eX (jK y.syms);have HSO : Hid (∀ W, Bw wr W -> Cz 91 #[.slice A3 n3 c3] W fun e w' => e = .returned (.int .u64 (T : Nat)) /\ Bw W w') := Lh fun W hb => by rw [hT]; exact Jr y.syms A3 n3 c3 fI.out.1.o.nlen fI.out.1.o.ncap fI.out.1.o.cmax oK W (fI.out.1.o.syms.below hb)
         obtain ⟨S2, dh⟩ := eX (S ||| T);have eO : bits .or .u64 (S : Int) (T : Int) = (S2 : Int) := by rw [bits_or_u64_nat S T HJ.out.1.2.2 (by rw [hT]; exact Cn oK), dh]
         have nR : Hid (jU q (w.heap.size + 1) (flatR (l.take i) ++ [x].take (j + 1)) (.slice B5 N5 d5) S2 wr) := Lh (by rw [xJ nQ.out, <- List.append_assoc, <- fI.out.2.2, dh, hT]; exact HJ.out.1.set (by unfold fC; rw [<- fI.out.2.1, ky2]; rfl) oK);have yb : (Ky == 0) = false := bF (by omega);have zb : (Ky == 2) = true := bT (by omega);clear ky0 ky2 hT dh nH oK
         go_wp2_with (first
        |(refine aG rfl (.tmp 27) rfl b2 (o2 + j * 3) rfl Ky A3 B3 n3 c3 m3 d3 rY.out ?_)
        |(refine wB rfl 25 (.tmp 9) (.tmp 28) rfl wr.heap.size 0 rfl (zV Ky A3 n3 c3 B3 m3 d3) rfl (ae.new' wr zL _ 25 rfl) 3 au ?_; intro w6 ag; have aJ : Hid (ae w6 wr.heap.size (zV Ky A3 n3 c3 B3 m3 d3) 25 /\ Bw wr w6) := Lh (dC ag); clear ag; have eZ : Hid (Below (w.alloc zR).heap.size (w.alloc zR) w6) := Lh (ah HJ.out.2.1 aJ.out.2); have uP := aJ.out.1.cell (j := 0) rfl; have kD := aJ.out.1.cell (j := 1) rfl; have yj := aS aJ.out.1)
           |((with_reducible refine (HSO.out _ aJ.out.2).mono ?_); rintro e w7 ⟨rfl, jf⟩; have H7 : Hid (Bw wr w7 /\ Below (w.alloc zR).heap.size (w.alloc zR) w7) := Lh ⟨ah aJ.out.2 jf, ah eZ.out jf⟩; clear jf))
         go_roundg g2
         case rel => exact ⟨j + 1, S2, by omega, by first | rfl | go_num, by go_num, Lh ⟨nR.out.below H7.out.1, H7.out.2, HJ.out.2.2.1.below H7.out.1, HJ.out.2.2.2⟩⟩
         case measure => omega
        ·have EU : fC y = true := by unfold fC; rw [<- fI.out.2.1]; simp [ky0, ky2]
         have yA : y.syms = [] := vg.out.syms (by rw [<- fI.out.2.1]; exact ky2);have EG : Hid (fC y = true /\ y.syms = []) := Lh ⟨EU, yA⟩;obtain ⟨rs, mM⟩ := eX ((flatR (l.take i) ++ [x].take j).filter fC);have wH := HJ.out.1.1;rw [<- mM] at wH;obtain ⟨xs, hC, hO⟩ := wH;have HC := Lh hC;have HO := Lh hO;have HRS := Lh mM;have HQ2 : Hid (∀ b, p b -> q b /\ some b ≠ (Value.slice B5 N5 d5).ownBlock) := Lh fun b hb => ⟨HQ.out.1 b hb, fun e => by
           have h1 := (HO.out.lt b e.symm).1;have := HQ.out.2.2.2.2 b hb;omega⟩
         have hlen : rs.length <= 1000000000000 := by
           have h1 := HLEN.out j (Nat.le_of_lt nQ.out);rw [<- mM] at h1;omega
         have hs1 : rs.length + 1 <= maxLen := by unfold maxLen; omega
         have hs2 : (rs.length + 1) * 56 <= 140737488355328 := by omega
         have yb : (Ky == 0) = false := bF (by omega);have zb : (Ky == 2) = false := bF (by omega);clear ky0 ky2 hC hO mM EU yA hlen
         go_wp2_with (first
        |(refine aG rfl (.tmp 27) rfl b2 (o2 + j * 3) rfl Ky A3 B3 n3 c3 m3 d3 rY.out ?_)
        |(refine wB rfl 25 (.tmp 9) (.tmp 28) rfl wr.heap.size 0 rfl (zV Ky A3 n3 c3 B3 m3 d3) rfl (ae.new' wr zL _ 25 rfl) 3 au ?_; intro w6 ag; have aJ : Hid (ae w6 wr.heap.size (zV Ky A3 n3 c3 B3 m3 d3) 25 /\ Bw wr w6) := Lh (dC ag); clear ag; have eZ : Hid (Below (w.alloc zR).heap.size (w.alloc zR) w6) := Lh (ah HJ.out.2.1 aJ.out.2); have uP := aJ.out.1.cell (j := 0) rfl; have kD := aJ.out.1.cell (j := 1) rfl; have yj := aS aJ.out.1)
           |(refine aG rfl (.tmp 9) rfl wr.heap.size (0) rfl Ky A3 B3 n3 c3 m3 d3 yj ?_)
           |(at_builtin; refine gW rfl (.tmp 31) (.tmp 33) 23 23 rfl (w.heap.size + 1) 25 i0 _ 3 56 Tryz.underlying23 aZ hz0 hz1 hz2 rfl _ _ _ rfl (gu HO.out (aF aJ.out.2 _)) _ 1 (zV Ky A3 n3 c3 B3 m3 d3) rfl (jR hz1 _ _ _ _ _ _ _ _) hs1 hs2 (Nat.le_trans (HO_base.out) ((aF aJ.out.2 _)).size) ?_; intro v8 w8 pU kW nN; have bM : Hid (aD q (w.heap.size + 1) v8 (rs ++ [y]) w8 /\ Below (w.alloc zR).heap.size (w.alloc zR) w8 /\ bA p w8 [x] (some ⟨b2, o2, none⟩) /\ ([x] ≠ [] -> ∀ b o, (some (⟨b2, o2, none⟩ : Addr)) = some ⟨b, o, none⟩ -> some b ≠ v8.ownBlock)) := Lh ⟨aD.app HC.out (aF aJ.out.2 _) (by rw [fI.out.2.1]; exact aM.one (aY.mono HQ2.out _ ((fI.out.1.below (aF aJ.out.2 _)).q))) rfl kW nN pU, eH (aF eZ.out _) kW (fun g hg => by have h9 := (HO.out.lt _ hg).1; first | exact h9 | (simpa using h9)), NS HJ.out.2.2.1 (aF aJ.out.2 _) HPW.out HJ.out.2.2.2 kW nN⟩; clear pU kW nN))
         go_roundg g2
         case rel => exact ⟨j + 1, S, by omega, by first | rfl | go_num, by go_num, Lh ⟨by
           rw [xJ nQ.out, <- List.append_assoc, <- fI.out.2.2];exact HJ.out.1.other EG.out.1 EG.out.2 (by rw [<- HRS.out]; exact bM.out.1), bM.out.2.1, bM.out.2.2.1, bM.out.2.2.2⟩⟩
         case measure => omega
     ·obtain rfl : j = 1 := by omega
      have yU : Hid (flatR (l.take (i + 1)) = flatR (l.take i) ++ [x]) := Lh (by rw [FP bR.out, uI.out]);have HAE : Hid (jU q (w.heap.size + 1) (flatR (l.take (i + 1))) (.slice B5 N5 d5) S wr) := Lh (by
        have h1 := HJ.out.1;rw [pQ.out.2.1, List.take_length] at h1;rw [yU.out]; exact h1)
      go_wp2_with fail
      go_roundg gg
      case rel => exact ⟨i + 1, S, by omega, by first | rfl | go_num, by go_num, Lh ⟨HAE.out, HJ.out.2.1⟩⟩
      case measure => omega
  ·obtain rfl : i = m := by omega
   have nR : Hid (jU q (w.heap.size + 1) (flatR l) (.slice B0 N0 d0) S wr) := Lh (by have h1 := HI.out.1; rw [HL.out.1, List.take_length] at h1; exact h1);have oq : Hid ((((flatR l).filter fC).length : Int) <= 1000000000000 - 0) := Lh (by have h1 := RN l; have h2 := iw.out.1; omega)
   by_cases cO : S = 0
   ·have e1 : ((S : Int) != 0) = false := by subst cO; rfl
    have e2 : ((S : Int) == 0) = true := by subst cO; rfl
    have xY : Hid ((flatR l).filter fC = uh (flatR l)) := Lh (by rw [KJ nR.out.2.1 nR.out.2.2, if_pos cO, List.append_nil]);have kL : Hid (aD q (w.heap.size + 1) (.slice B0 N0 d0) ((flatR l).filter fC) wr /\ Below (w.alloc zR).heap.size (w.alloc zR) wr) := Lh ⟨nR.out.1, HI.out.2⟩;have iK : Hid (((flatR l).filter fC).length <= 1000000000000) := Lh (by have := oq.out; omega);clear cO
    go_wp2_with (first
     |((refine (NL (w.heap.size + 1) _ _ _ kL.out.1 iK.out).mono ?_); rintro e gL ⟨rfl, ts, Fb, Fq, kM, hgr⟩; have pO : Hid (aD q (w.heap.size + 1) _ ts gL /\ Below (w.alloc zR).heap.size (w.alloc zR) gL /\ ts.Perm ((flatR l).filter fC) /\ ts.Pairwise (fun a b => ¬ jE b a)) := Lh ⟨kM, F4 kL.out.1 kL.out.2 hgr, Fb, Fq⟩; clear Fb Fq kM hgr)
     |((refine (Ow (w.heap.size + 1) _ _ _ pO.out.1 (by rw [pO.out.2.2.1.length_eq]; exact iK.out)).mono ?_); rintro e kX ⟨v6, rfl, Ei, Dw⟩; obtain ⟨B6, d6, fD, uL, ve, yP, y8⟩ := Ei.e; have vk : Hid (Below (w.alloc zR).heap.size (w.alloc zR) kX) := Lh (F4 pO.out.1 pO.out.2.1 Dw); have fT : Hid (altEnd (xK (dD ts)) = R) := Lh (by rw [HR.out]; exact NC HL.out.2.2 (by rw [<- xY.out]; exact pO.out.2.2.1) pO.out.2.2.2); obtain ⟨s, hs⟩ := eX (dD ts); rw [<- hs] at fD uL yP y8 fT; obtain ⟨N6, yR⟩ := eX s.length; rw [<- yR] at fD uL; subst fD; obtain ⟨V1, hV1⟩ := eX (qm s); obtain ⟨X2, De⟩ := eX (s.tail.any aO); have JZ := Le (R := R) fT.out yP uL ve yR (fun hne => by obtain ⟨g, e, h1, _⟩ := y8 hne; exact ⟨g, e, HQ.out.2.1 g (by omega)⟩) hV1 De; obtain ⟨B7, Fg, Ep, Dh, ED, Fj⟩ := JZ; have AC := Lh Ep; have lD := Lh Dh; have HJW := Lh ED; have HJT := Lh Fj; have vo := Lh Fg; clear Ei Dw uL ve yP y8 hs yR hV1 De Fg Ep Dh ED Fj fT; cases V1 <;> cases X2; all_goals (try (have hcut := vo.out rfl)))
     |((with_reducible refine (AC.out _ (Below.refl _ _)).mono ?_); rintro e jP hp; obtain ⟨rfl, hb⟩ := aV hp; have kT : Hid (Bw kX jP) := Lh hb; clear hp hb)
     |((with_reducible refine (lD.out (by first | trivial | rfl | decide) _ kT.out).mono ?_); rintro e Ao hp; obtain ⟨rfl, hb⟩ := aV hp; replace kT : Hid (Bw kX Ao) := Lh (ah kT.out hb); clear hp hb)
     |((with_reducible refine (HJW.out (by first | trivial | rfl | decide) _ kT.out).mono ?_); rintro e mg hp; obtain ⟨A9, n9, c9, B9, m9, d9, rfl, h9, fo⟩ := dV hp; have H9 : Hid (ak q mg R A9 n9 c9 B9 m9 d9 /\ Below (w.alloc zR).heap.size (w.alloc zR) mg) := Lh ⟨h9.mono fun b hb => (by rcases hb with hb | hb; exact hb; exact HQ.out.2.1 b (by have h1 := vk.out.size; have h2 := kT.out.size; simp at h1; omega)), ah (ah vk.out kT.out) fo⟩; clear hp h9 fo)
     |((with_reducible refine (HJT.out (by first | trivial | rfl | decide) _ kT.out).mono ?_); rintro e mg hp; obtain ⟨A9, n9, c9, B9, m9, d9, rfl, h9, fo⟩ := dV hp; have H9 : Hid (ak q mg R A9 n9 c9 B9 m9 d9 /\ Below (w.alloc zR).heap.size (w.alloc zR) mg) := Lh ⟨h9.mono fun b hb => (by rcases hb with hb | hb; exact hb; exact HQ.out.2.1 b (by have h1 := vk.out.size; have h2 := kT.out.size; simp at h1; omega)), ah (ah vk.out kT.out) fo⟩; clear hp h9 fo)
     |(refine wB rfl 25 (.tmp 2) (.tmp 68) rfl w.heap.size 0 rfl (zV R.kind A9 n9 c9 B9 m9 d9) rfl (HZ.out _ H9.out.2) 3 au ?_; intro qo ag; have tK : Hid (ae qo w.heap.size (zV R.kind A9 n9 c9 B9 m9 d9) 25 /\ Bw w qo /\ ak q qo R A9 n9 c9 B9 m9 d9) := Lh ⟨ag.1, ag.below (ah (ai _ _) H9.out.2) (Nat.le_refl _), il H9.out.1 ag HQ.out.2.2.1⟩; clear ag))
    all_goals (exact cK rfl w.heap.size rfl (C := (zV R.kind A9 n9 c9 B9 m9 d9)) (T := 25) tK.out.1 _ Tryz.underlying25 rfl au rfl ⟨_, _, _, _, _, _, rfl, tK.out.2.2.mono HQ.out.2.2.2.1, tK.out.2.1⟩)
   ·have e1 : ((S : Int) != 0) = true := by simp; exact cO
    have e2 : ((S : Int) == 0) = false := by simp; exact cO
    obtain ⟨L, hL⟩ := eX (iC S);have HLL : Hid (L = iC S) := Lh hL;obtain ⟨rs, mM⟩ := eX ((flatR l).filter fC);have xY : Hid (rs ++ [.mk 2 L []] = uh (flatR l)) := Lh (by rw [KJ nR.out.2.1 nR.out.2.2, if_neg cO, mM, hL]);have wH := nR.out.1;rw [<- mM] at wH;obtain ⟨xs, hC, hO⟩ := wH;have HC := Lh hC;have HO := Lh hO;have HO_base : Hid (w.heap.size + 1 <= wr.heap.size) := Lh (by have h1 := HI.out.2.size; simpa using h1);have hlen : rs.length <= 1000000000000 := by have h1 := oq.out; rw [<- mM] at h1; omega
    have iK : Hid ((rs ++ [Rx.mk 2 L []]).length <= 1000000000000) := Lh (by
     have h1 := VN HL.out.2.2 iw.out.1;rw [<- xY.out] at h1; exact h1)
    have hs1 : rs.length + 1 <= maxLen := by unfold maxLen; omega
    have hs2 : (rs.length + 1) * 56 <= 140737488355328 := by omega
    have mV : Hid (∀ W, Bw wr W -> Cz 118 #[.int .u64 (S : Int)] W (Gz W L)) := Lh fun W hb => by rw [hL]; exact Mk S nR.out.2.2 W (gM.out.below (ah bg.out hb))
    clear cO hL mM hC hO hlen
    go_wp2_with (first
     |((with_reducible refine (mV.out _ (Below.refl _ _)).mono ?_); rintro e w9 hp; obtain ⟨A5, n5, c5, rfl, hn5, PD, Px, wF, Ki, bq⟩ := Oq hp; have HB9 : Hid (Below (w.alloc zR).heap.size (w.alloc zR) w9 /\ Bw wr w9) := Lh ⟨ah HI.out.2 bq, bq⟩; have HEL : Hid (ak (fun b => q b /\ some b ≠ (Value.slice B0 N0 d0).ownBlock) w9 (.mk 2 L []) A5 n5 c5 none 0 0) := Lh (Fy HLL.out hn5 PD Px wF (fun b o e => ⟨HQ.out.2.1 b (by have h1 := (Ki b o e).1; have h2 := HO_base.out; omega), fun e2 => by have h1 := (HO.out.lt b e2.symm).2; have h2 := (Ki b o e).1; omega⟩)); clear hp hn5 PD Px wF Ki bq)
     |(at_builtin; refine gW rfl (.tmp 48) (.tmp 52) 23 23 rfl (w.heap.size + 1) 25 i0 _ 3 56 Tryz.underlying23 aZ hz0 hz1 hz2 rfl _ _ _ rfl (gu HO.out (aF HB9.out.2 _)) _ 1 (zV 2 A5 n5 c5 none 0 0) rfl (jR hz1 _ _ _ _ _ _ _ _) hs1 hs2 (Nat.le_trans (HO_base.out) ((aF HB9.out.2 _)).size) ?_; intro v8 w8 pU kW nN; have bM : Hid (aD q (w.heap.size + 1) v8 (rs ++ [.mk 2 L []]) w8 /\ Below (w.alloc zR).heap.size (w.alloc zR) w8) := Lh ⟨aD.app HC.out (aF HB9.out.2 _) (aM.one ((HEL.out.below (ai _ _)).q)) rfl kW nN pU, eH (aF HB9.out.1 _) kW (fun g hg => by have h9 := (HO.out.lt _ hg).1; first | exact h9 | (simpa using h9))⟩; clear pU kW nN)
     |((refine (NL (w.heap.size + 1) _ _ _ bM.out.1 iK.out).mono ?_); rintro e gL ⟨rfl, ts, Fb, Fq, kM, hgr⟩; have pO : Hid (aD q (w.heap.size + 1) _ ts gL /\ Below (w.alloc zR).heap.size (w.alloc zR) gL /\ ts.Perm (rs ++ [Rx.mk 2 L []]) /\ ts.Pairwise (fun a b => ¬ jE b a)) := Lh ⟨kM, F4 bM.out.1 bM.out.2 hgr, Fb, Fq⟩; clear Fb Fq kM hgr)
     |((refine (Ow (w.heap.size + 1) _ _ _ pO.out.1 (by rw [pO.out.2.2.1.length_eq]; exact iK.out)).mono ?_); rintro e kX ⟨v6, rfl, Ei, Dw⟩; obtain ⟨B6, d6, fD, uL, ve, yP, y8⟩ := Ei.e; have vk : Hid (Below (w.alloc zR).heap.size (w.alloc zR) kX) := Lh (F4 pO.out.1 pO.out.2.1 Dw); have fT : Hid (altEnd (xK (dD ts)) = R) := Lh (by rw [HR.out]; exact NC HL.out.2.2 (by rw [<- xY.out]; exact pO.out.2.2.1) pO.out.2.2.2); obtain ⟨s, hs⟩ := eX (dD ts); rw [<- hs] at fD uL yP y8 fT; obtain ⟨N6, yR⟩ := eX s.length; rw [<- yR] at fD uL; subst fD; obtain ⟨V1, hV1⟩ := eX (qm s); obtain ⟨X2, De⟩ := eX (s.tail.any aO); have JZ := Le (R := R) fT.out yP uL ve yR (fun hne => by obtain ⟨g, e, h1, _⟩ := y8 hne; exact ⟨g, e, HQ.out.2.1 g (by omega)⟩) hV1 De; obtain ⟨B7, Fg, Ep, Dh, ED, Fj⟩ := JZ; have AC := Lh Ep; have lD := Lh Dh; have HJW := Lh ED; have HJT := Lh Fj; have vo := Lh Fg; clear Ei Dw uL ve yP y8 hs yR hV1 De Fg Ep Dh ED Fj fT; cases V1 <;> cases X2; all_goals (try (have hcut := vo.out rfl)))
     |((with_reducible refine (AC.out _ (Below.refl _ _)).mono ?_); rintro e jP hp; obtain ⟨rfl, hb⟩ := aV hp; have kT : Hid (Bw kX jP) := Lh hb; clear hp hb)
     |((with_reducible refine (lD.out (by first | trivial | rfl | decide) _ kT.out).mono ?_); rintro e Ao hp; obtain ⟨rfl, hb⟩ := aV hp; replace kT : Hid (Bw kX Ao) := Lh (ah kT.out hb); clear hp hb)
     |((with_reducible refine (HJW.out (by first | trivial | rfl | decide) _ kT.out).mono ?_); rintro e mg hp; obtain ⟨A9, n9, c9, B9, m9, d9, rfl, h9, fo⟩ := dV hp; have H9 : Hid (ak q mg R A9 n9 c9 B9 m9 d9 /\ Below (w.alloc zR).heap.size (w.alloc zR) mg) := Lh ⟨h9.mono fun b hb => (by rcases hb with hb | hb; exact hb; exact HQ.out.2.1 b (by have h1 := vk.out.size; have h2 := kT.out.size; simp at h1; omega)), ah (ah vk.out kT.out) fo⟩; clear hp h9 fo)
     |((with_reducible refine (HJT.out (by first | trivial | rfl | decide) _ kT.out).mono ?_); rintro e mg hp; obtain ⟨A9, n9, c9, B9, m9, d9, rfl, h9, fo⟩ := dV hp; have H9 : Hid (ak q mg R A9 n9 c9 B9 m9 d9 /\ Below (w.alloc zR).heap.size (w.alloc zR) mg) := Lh ⟨h9.mono fun b hb => (by rcases hb with hb | hb; exact hb; exact HQ.out.2.1 b (by have h1 := vk.out.size; have h2 := kT.out.size; simp at h1; omega)), ah (ah vk.out kT.out) fo⟩; clear hp h9 fo)
     |(refine wB rfl 25 (.tmp 2) (.tmp 68) rfl w.heap.size 0 rfl (zV R.kind A9 n9 c9 B9 m9 d9) rfl (HZ.out _ H9.out.2) 3 au ?_; intro qo ag; have tK : Hid (ae qo w.heap.size (zV R.kind A9 n9 c9 B9 m9 d9) 25 /\ Bw w qo /\ ak q qo R A9 n9 c9 B9 m9 d9) := Lh ⟨ag.1, ag.below (ah (ai _ _) H9.out.2) (Nat.le_refl _), il H9.out.1 ag HQ.out.2.2.1⟩; clear ag))
    all_goals (exact cK rfl w.heap.size rfl (C := (zV R.kind A9 n9 c9 B9 m9 d9)) (T := 25) tK.out.1 _ Tryz.underlying25 rfl au rfl ⟨_, _, _, _, _, _, rfl, tK.out.2.2.mono HQ.out.2.2.2.1, tK.out.2.1⟩)
theorem DB.grew {w W : World} {row : Option Nat} (h : DB w) (hg : w.grownBy W row) (hr : ∀ g, row = some g -> 0 < g) : DB W := fun j hj => by
 have h1 := h j hj;rw [<- h1];refine World.cell?_of_block (hg.block _ (World.block_lt_of_cell? w _ h1) fun e => ?_);have h2 := hr _ e.symm;simp only at h2;omega
theorem DB.lt {w : World} (h : DB w) : 0 < w.heap.size := World.block_lt_of_cell? w _ (h 0 (by decide))
namespace Rgx
theorem bA.lt {p : Nat -> Prop} {w : World} {ks : List Rx} {B : Option Addr} (h : bA p w ks B) : bA (fun b => p b /\ b < w.heap.size) w ks B := fun i hi => by
 obtain ⟨b, o, v1, v2, e, h1, h2, h3, h4⟩ := h i hi;exact ⟨b, o, v1, v2, e, h1, h2, h3, aY.and _ h4 (iE.q _ (aY.ok _ h4))⟩
theorem ak.lt {p : Nat -> Prop} {w : World} {r : Rx} {A B : Option Addr} {n c m d : Nat} (h : ak p w r A n c B m d) : ak (fun b => p b /\ b < w.heap.size) w r A n c B m d := h.and h.o.toP
end Rgx
def zt (x : Rx) : Prop := ∀ (p : Nat -> Prop) (w : World) (A B : Option Addr) (n c m d : Nat), (∀ b, p b -> b < w.heap.size) -> DB w -> ak p w x A n c B m d -> Calls Tryz.prog 51 #[.agg #[.int .i64 x.kind, .slice A n c, .slice B m d]] w (dB p w (normR false x))
def Jk (q : Nat -> Prop) (base : Nat) (v : Value) (ls : List Rx) (x : Rx) (w : World) (e : Ending) (w' : World) : Prop := ∃ v' L, e = .returned v' /\ aD q base v' (ls ++ L) w' /\ j4 w w' v.ownBlock v'.ownBlock /\ (∀ y ∈ L, NF y) /\ (x.kind = 3 -> iN L (x.kids.map (normR false))) /\ (x.kind = 4 -> dS L (x.kids.map (normR false))) /\ aj L <= aj x.kids
def zP (x : Rx) : Prop := ∀ (p q : Nat -> Prop) (base : Nat) (v : Value) (ls : List Rx) (w : World) (A B : Option Addr) (n c m d : Nat), (∀ b, p b -> b < base) -> base <= w.heap.size -> 0 < base -> (∀ b, p b -> q b) -> (∀ b, base <= b -> q b) -> DB w -> aD q base v ls w -> (ls.length : Int) + aj x.kids <= 1000000000000 -> ak p w x A n c B m d -> Calls Tryz.prog 82 #[v, .agg #[.int .i64 x.kind, .slice A n c, .slice B m d]] w (Jk q base v ls x w)
theorem M9 {q : Nat -> Prop} {base : Nat} {v : Value} {rs : List Rx} {w : World} (h : aD q base v rs w) : ∀ g, v.ownBlock = some g -> base <= g /\ g < w.heap.size := fun g hg => by
 obtain ⟨xs, _, hO⟩ := h;exact hO.lt g hg
theorem LM {p : Nat -> Prop} {w : World} {x : Rx} {K : Int} {A B : Option Addr} {n c m d : Nat} (hK : K = x.kind) (h : zt x) (hp : ∀ b, p b -> b < w.heap.size) (hd : DB w) (hx : ak p w x A n c B m d) : Calls Tryz.prog 51 #[.agg #[.int .i64 K, .slice A n c, .slice B m d]] w (dB p w (normR false x)) := by
 subst hK;exact h p w A B n c m d hp hd hx
theorem IV {p q : Nat -> Prop} {base : Nat} {v : Value} {ls : List Rx} {w : World} {x : Rx} {K : Int} {A B : Option Addr} {n c m d : Nat} (hK : K = x.kind) (h : zP x) (h1 : ∀ b, p b -> b < base) (h2 : base <= w.heap.size) (h3 : 0 < base) (h4 : ∀ b, p b -> q b) (h5 : ∀ b, base <= b -> q b) (hd : DB w) (hr : aD q base v ls w) (hl : (ls.length : Int) + aj x.kids <= 1000000000000) (hx : ak p w x A n c B m d) : Calls Tryz.prog 82 #[v, .agg #[.int .i64 K, .slice A n c, .slice B m d]] w (Jk q base v ls x w) := by
 subst hK;exact h p q base v ls w A B n c m d h1 h2 h3 h4 h5 hd hr hl hx
theorem qi.keep7 {p : Nat -> Prop} {w W : World} {r : Rx} {A B : Option Addr} {n c m d base : Nat} (h : ak p w r A n c B m d) (keep : ∀ b o, b < base -> W.cell? ⟨b, o, none⟩ = w.cell? ⟨b, o, none⟩) (hp : ∀ b, p b -> b < base) : aI W r A n c B m d := by
 obtain ⟨A', n', c', B', m', d', e1, e2, h2⟩ := (aY.keep (W := W) (fun b o hb => keep b o (hp b hb)) r h.q).op;simp only [Value.slice.injEq] at e1 e2;obtain ⟨rfl, rfl, rfl⟩ := e1;obtain ⟨rfl, rfl, rfl⟩ := e2;exact h2.o
theorem Gg {L L2 ks : List Rx} {k : Rx} {K : Int} {i : Nat} (hi : i < ks.length) (hk : k = av ks i) (hv : aC k = true) (h3 : K = 3 -> iN L ((ks.take i).map (normR false))) (h4 : K = 4 -> dS L ((ks.take i).map (normR false)))
  (hL : ((dE k).kind ≠ K /\ L2 = [normR false (dE k)]) \/ ((dE k).kind = K /\ ((dE k).kind = 3 -> iN L2 ((dE k).kids.map (normR false))) /\ ((dE k).kind = 4 -> dS L2 ((dE k).kids.map (normR false))))) :
  (K = 3 -> iN (L ++ L2) ((ks.take (i + 1)).map (normR false))) /\ (K = 4 -> dS (L ++ L2) ((ks.take (i + 1)).map (normR false))) := by
 obtain ⟨D8, hu2, _⟩ := Co hv;have hN : ∀ y ∈ (dE k).kids.map (normR false), NF y := fun y hy => by
  obtain ⟨x, hx, rfl⟩ := List.mem_map.1 hy;exact NF.normR false (jL D8 x hx)
 rw [xJ hi, List.map_append, <- hk];show (K = 3 -> iN (L ++ L2) ((ks.take i).map (normR false) ++ [normR false k])) /\ (K = 4 -> dS (L ++ L2) ((ks.take i).map (normR false) ++ [normR false k]));rw [<- hu2];refine ⟨fun e => (h3 e).app ?_, fun e => (h4 e).app ?_⟩
 ·rcases hL with ⟨_, rfl⟩ | ⟨hk3, hs, _⟩
  · exact iN.refl _
  · have h5 := hs (hk3.trans e);rw [lH, if_pos (hk3.trans e)];exact h5.tr (iN.in_ hN).symm
 ·rcases hL with ⟨_, rfl⟩ | ⟨hk3, _, hs⟩
  · exact dS.refl _
  · have h5 := hs (hk3.trans e);rw [lH, if_neg (by omega), if_pos (hk3.trans e)];exact h5.tr (dS.in_ hN).symm
theorem Qw (r : Rx) (nJ : aC r = true) (hn : ∀ x, SizeOf.sizeOf x < SizeOf.sizeOf r -> aC x = true -> az x <= 1000000000000 -> zt x) (hp : ∀ x, SizeOf.sizeOf x < SizeOf.sizeOf r -> aC x = true -> zP x) : zP r := by
 intro p q base v ls w A B n c m d hpb hbase htb jF hq hDB kM hlen hop;obtain ⟨i0, aZ, hz0, hz1, hz2⟩ := info_parts lG;obtain ⟨K, hK⟩ := eX r.kind;have HX := LH (ak p w r A n c B m d /\ K = r.kind /\ aC r = true) ⟨hop, hK, nJ⟩;have HP := LH ((∀ b, p b -> b < base) /\ base <= w.heap.size /\ 0 < base /\ (∀ b, p b -> q b) /\ (∀ b, base <= b -> q b)) ⟨hpb, hbase, htb, jF, hq⟩;have gM := Lh hDB;have kL := Lh kM;have HLEN := Lh hlen;have HN := Lh hn;have HPA := Lh hp;have iA := hop.o.mcap;have fG := hop.o.dmax;rw [<- hK];clear hop hK nJ hpb hbase htb jF hq hDB kM hlen hn hp;go_enter Tryz.func82, Tryz.ntmps82;have hb2 : (w.alloc (zC K A n c B m d)).cell? ⟨w.heap.size, 2, none⟩ = some (.slice B m d) := kH (Below.refl _ _) 2 _ rfl;go_wp2_with fail
 go_loopg [0, 10] m (fun g s0 s10 wr => ∃ (i : Nat) (L : List Rx), i + g = m /\ s10 = .int .i64 (i : Int) /\ Hid (aD q base s0 (ls ++ L) wr /\ j4 (w.alloc (zC K A n c B m d)) wr v.ownBlock s0.ownBlock /\ (∀ y ∈ L, NF y) /\ (K = 3 -> iN L ((r.kids.take i).map (normR false))) /\ (K = 4 -> dS L ((r.kids.take i).map (normR false))) /\ aj L <= aj (r.kids.take i)))
 case atStart => exact ⟨0, [], by omega, rfl, Lh ⟨by rw [List.append_nil]; exact kL.out.below (ai _ _), j4.refl _ _, (fun y hy => by cases hy), fun _ => iN.refl _, fun _ => dS.refl _, by simp⟩⟩
 case round =>
  obtain ⟨i, L, hi, rfl, HI⟩ := hrel;obtain ⟨B5, d5, hv, _⟩ := HI.out.1.e;obtain ⟨N5, bD⟩ := eX ((ls ++ L).length);rw [<- bD] at hv;subst hv;clear bD
  by_cases hlt : i < m
  · obtain ⟨gg, rfl⟩ : ∃ g, gk = g + 1 := ⟨gk - 1, by omega⟩;have bR := LH (i < r.kids.length) (by rw [<- HX.out.1.o.mlen]; exact hlt);have HGB := LH (∀ g, v.ownBlock = some g -> base <= g /\ g < w.heap.size) (M9 kL.out);have fJ := LH (w.heap.size + 1 <= wr.heap.size /\ base <= wr.heap.size) (by have h1 := HI.out.2.1.size; have h2 := HP.out.2.1; simp at h1; omega);have keep : ∀ b o, b < base -> wr.cell? ⟨b, o, none⟩ = w.cell? ⟨b, o, none⟩ := fun b o hb => (World.cell?_of_block (HI.out.2.1.1.block b (by have := HP.out.2.1; simp; omega) (fun e => by have := (HGB.out b e.symm).1; omega))).trans ((ai w _).cell (p := ⟨b, o, none⟩) (by have := HP.out.2.1; show b < _; omega))
    have Pq := LH (DB wr) (DB.grew (gM.out.below (ai _ _)) HI.out.2.1.1 (fun g hg => by have := (HGB.out g hg).1; have := HP.out.2.2.1; omega));have dQ := LH (wr.cell? ⟨w.heap.size, 0, none⟩ = some (.int .i64 K)) ((World.cell?_of_block (HI.out.2.1.1.block w.heap.size (by simp) (fun e => by have := (HGB.out _ e.symm).2; omega))).trans (kH (Below.refl _ _) 0 _ rfl));have hkr : ak p wr r A n c B m d := ⟨qi.keep7 HX.out.1 keep HP.out.1, aY.keep (fun b o hb => keep b o (HP.out.1 b hb)) _ HX.out.1.q⟩;obtain ⟨b, o, rfl⟩ := hkr.kids.1.place (by have := bR.out; omega);obtain ⟨A2, n2, c2, B2, m2, d2, hrg, ax⟩ := hkr.kids.1.kid bR.out;obtain ⟨k, hk⟩ := eX (av r.kids i);rw [<- hk] at hrg ax;obtain ⟨Kk, iQ⟩ := eX k.kind;rw [<- iQ] at hrg;have aP := Lh hrg;have hvk : aC k = true := by rw [hk]; exact jL HX.out.2.2 _ (gU bR.out)
    have HK := LH (k = av r.kids i /\ aC k = true /\ SizeOf.sizeOf (dE k) < SizeOf.sizeOf r /\ az (dE k) <= az k /\ aj (r.kids.take (i + 1)) = aj (r.kids.take i) + az k /\ (ls.length : Int) + aj (r.kids.take (i + 1)) <= 1000000000000) ⟨hk, hvk, by have := jZ (gU (ks := r.kids) bR.out); have := (NI k).1; rw [<- hk] at *; omega, (NI k).2, by rw [zB bR.out, hk, gI bR.out], by have := vU (rs := r.kids) (i + 1); have := HLEN.out; omega⟩;have HUN := LH (∀ W, Bw wr W -> Cz 117 #[.agg #[.int .i64 Kk, .slice A2 n2 c2, .slice B2 m2 d2]] W fun e w' => ∃ A n c B m d, e = .returned (.agg #[.int .i64 (dE k).kind, .slice A n c, .slice B m d]) /\ ak p w' (dE k) A n c B m d /\ Bw W w') fun W hb => by rw [iQ]; exact QF k A2 B2 n2 c2 m2 d2 W (ax.below hb)
    obtain ⟨X, hX⟩ := eX ((dE k).kind == K);have bQ := LH (((dE k).kind == K) = X) hX.symm;have iw := LH ((((ls ++ L).length : Nat) : Int) <= ls.length + aj (r.kids.take i) /\ 1 <= az k) ⟨by rw [List.length_append]; have h1 := mW L; have h2 := HI.out.2.2.2.2.2; omega, fQ k⟩;obtain ⟨xs, hC, hO⟩ := HI.out.1;have HC := Lh hC;have HO := Lh hO;have HO_base := LH (base <= wr.heap.size) fJ.out.2;have hs1 : (ls ++ L).length + 1 <= maxLen := by have h1 := iw.out; have h2 := HK.out.2.2.2.2; unfold maxLen; omega
    have hs2 : ((ls ++ L).length + 1) * 56 <= 140737488355328 := by have h1 := iw.out; have h2 := HK.out.2.2.2.2; omega
    clear hkr hrg ax hk iQ hvk hX keep hC hO
    cases X
    ·go_wp2_with (first
 |(refine aG rfl (.tmp 12) rfl b (o + i * 3) rfl Kk A2 B2 n2 c2 m2 d2 aP.out ?_)
 |(refine wB rfl 25 (.tmp 6) (.tmp 13) rfl wr.heap.size 0 rfl (zV Kk A2 n2 c2 B2 m2 d2) rfl (ae.new' wr zL _ 25 rfl) 3 au ?_; intro w4 ag; have aA := LH (ae w4 wr.heap.size (zV Kk A2 n2 c2 B2 m2 d2) 25 /\ Bw wr w4) (dC ag); clear ag; have jb := aS aA.out.1)
 |(refine aG rfl (.tmp 6) rfl wr.heap.size (0) rfl Kk A2 B2 n2 c2 m2 d2 jb ?_)
 |((with_reducible refine (HUN.out _ aA.out.2).mono ?_); rintro e w5 ⟨Au, nu, cu, Bu, mu, du, rfl, Ez, bq⟩; obtain ⟨Ku, qG⟩ := eX ((dE k).kind); rw [<- qG]; have vH := Lh qG; have H5 := LH (ak p w5 (dE k) Au nu cu Bu mu du /\ Bw w4 w5) ⟨Ez, bq⟩; clear Ez bq qG jb)
 |(refine wB rfl 25 (.tmp 6) (.tmp 15) rfl wr.heap.size 0 rfl (zV Ku Au nu cu Bu mu du) rfl (aA.out.1.below H5.out.2 aA.out.1.lt) 3 au ?_; intro w6 ag; have aJ := LH (ae w6 wr.heap.size (zV Ku Au nu cu Bu mu du) 25 /\ Bw wr w6 /\ ak p w6 (dE k) Au nu cu Bu mu du) ⟨ag.1, ag.below (ah aA.out.2 H5.out.2) (Nat.le_refl _), il H5.out.1 ag (fun b hb => by have h1 := HP.out.1 b hb; have h2 := fJ.out; omega)⟩; have pE := aS aJ.out.1; have hk6 := aJ.out.1.cell (j := 0) rfl; have hk3 : w6.cell? ⟨w.heap.size, 0, none⟩ = some (.int .i64 K) := (aJ.out.2.1.cell (p := ⟨w.heap.size, 0, none⟩) (World.block_lt_of_cell? wr _ dQ.out)).trans dQ.out; have yM : (Ku == K) = false := (by rw [vH.out]; exact bQ.out); have Eb : decide (Ku = K) = false := (by rw [vH.out, <- bQ.out]; rfl); clear ag)
      |(refine aG rfl (.tmp 6) rfl wr.heap.size (0) rfl Ku Au Bu nu cu mu du pE ?_)
      |((with_reducible refine (LM vH.out (HN.out (dE k) HK.out.2.2.1 (Co HK.out.2.1).1 (by have h1 := HK.out; have h3 := iF (r.kids.take i); have h4 := iw.out; omega)) (fun b hb => by have h1 := HP.out.1 b hb; have h2 := fJ.out.2; have h3 := aJ.out.2.1.size; omega) (Pq.out.below aJ.out.2.1) aJ.out.2.2).mono ?_); rintro e w8 hp; obtain ⟨A8, n8, c8, B8, m8, d8, rfl, h8, aK⟩ := dV hp; have H8 := LH (ak (fun b => q b /\ some b ≠ (Value.slice B5 N5 d5).ownBlock) w8 (normR false (dE k)) A8 n8 c8 B8 m8 d8 /\ Bw w6 w8) ⟨h8.mono (fun b hb => by
         have h9 := M9 HI.out.1;have h10 := aJ.out.2.1.size
         rcases hb with hb | hb
         ·exact ⟨HP.out.2.2.2.1 b hb, fun e => by have := (h9 b e.symm).1; have := HP.out.1 b hb; omega⟩
         ·exact ⟨HP.out.2.2.2.2 b (by have := fJ.out.2; omega), fun e => by have := (h9 b e.symm).2; omega⟩), aK⟩; clear hp h8 aK)
      |(at_builtin; refine gW rfl (.tmp 24) (.tmp 27) 23 23 rfl (base) 25 i0 _ 3 56 Tryz.underlying23 aZ hz0 hz1 hz2 rfl _ _ _ rfl (gu HO.out (aF (ah aJ.out.2.1 H8.out.2) _)) _ 1 [.int .i64 (normR false (dE k)).kind, .slice A8 n8 c8, .slice B8 m8 d8] rfl (jR hz1 _ _ _ _ _ _ _ _) hs1 hs2 (Nat.le_trans (HO_base.out) ((aF (ah aJ.out.2.1 H8.out.2) _)).size) ?_; intro v9 w9 dJ dN fe; have aR := LH (aD q (base) v9 ((ls ++ L) ++ [normR false (dE k)]) w9 /\ j4 (w.alloc (zC K A n c (some ⟨b, o, none⟩) m d)) w9 v.ownBlock v9.ownBlock) ⟨aD.app HC.out (aF (ah aJ.out.2.1 H8.out.2) _) (aM.one ((H8.out.1.below (ai _ _)).q)) rfl dN fe dJ, ((HI.out.2.1.step (vV (aF (ah aJ.out.2.1 H8.out.2) _)) (.inl rfl)).append dN fe)⟩; clear dJ dN fe))
     go_roundg gg
     case rel => exact ⟨i + 1, L ++ [normR false (dE k)], by omega, by go_num, Lh ⟨by rw [<- List.append_assoc]; exact aR.out.1, aR.out.2, fun y hy => by
      rcases List.mem_append.1 hy with hy | hy
      ·exact HI.out.2.2.1 y hy
      ·rw [show y = normR false (dE k) by simpa using hy]; exact NF.normR false (Co HK.out.2.1).1, (Gg bR.out HK.out.1 HK.out.2.1 HI.out.2.2.2.1 HI.out.2.2.2.2.1 (.inl ⟨by simpa using bQ.out, rfl⟩)).1, (Gg bR.out HK.out.1 HK.out.2.1 HI.out.2.2.2.1 HI.out.2.2.2.2.1 (.inl ⟨by simpa using bQ.out, rfl⟩)).2, by
      rw [lJ, HK.out.2.2.2.2.1];have h1 := zJ false (Co HK.out.2.1).1;have h2 := HK.out.2.2.2.1;have h3 := HI.out.2.2.2.2.2;simp only [aj];omega⟩⟩
     case measure => omega
    ·go_wp2_with (first
 |(refine aG rfl (.tmp 12) rfl b (o + i * 3) rfl Kk A2 B2 n2 c2 m2 d2 aP.out ?_)
 |(refine wB rfl 25 (.tmp 6) (.tmp 13) rfl wr.heap.size 0 rfl (zV Kk A2 n2 c2 B2 m2 d2) rfl (ae.new' wr zL _ 25 rfl) 3 au ?_; intro w4 ag; have aA := LH (ae w4 wr.heap.size (zV Kk A2 n2 c2 B2 m2 d2) 25 /\ Bw wr w4) (dC ag); clear ag; have jb := aS aA.out.1)
 |(refine aG rfl (.tmp 6) rfl wr.heap.size (0) rfl Kk A2 B2 n2 c2 m2 d2 jb ?_)
 |((with_reducible refine (HUN.out _ aA.out.2).mono ?_); rintro e w5 ⟨Au, nu, cu, Bu, mu, du, rfl, Ez, bq⟩; obtain ⟨Ku, qG⟩ := eX ((dE k).kind); rw [<- qG]; have vH := Lh qG; have H5 := LH (ak p w5 (dE k) Au nu cu Bu mu du /\ Bw w4 w5) ⟨Ez, bq⟩; clear Ez bq qG jb)
 |(refine wB rfl 25 (.tmp 6) (.tmp 15) rfl wr.heap.size 0 rfl (zV Ku Au nu cu Bu mu du) rfl (aA.out.1.below H5.out.2 aA.out.1.lt) 3 au ?_; intro w6 ag; have aJ := LH (ae w6 wr.heap.size (zV Ku Au nu cu Bu mu du) 25 /\ Bw wr w6 /\ ak p w6 (dE k) Au nu cu Bu mu du) ⟨ag.1, ag.below (ah aA.out.2 H5.out.2) (Nat.le_refl _), il H5.out.1 ag (fun b hb => by have h1 := HP.out.1 b hb; have h2 := fJ.out; omega)⟩; have pE := aS aJ.out.1; have hk6 := aJ.out.1.cell (j := 0) rfl; have hk3 : w6.cell? ⟨w.heap.size, 0, none⟩ = some (.int .i64 K) := (aJ.out.2.1.cell (p := ⟨w.heap.size, 0, none⟩) (World.block_lt_of_cell? wr _ dQ.out)).trans dQ.out; have yM : (Ku == K) = true := (by rw [vH.out]; exact bQ.out); have Eb : decide (Ku = K) = true := (by rw [vH.out, <- bQ.out]; rfl); clear ag)
      |(refine aG rfl (.tmp 6) rfl wr.heap.size (0) rfl Ku Au Bu nu cu mu du pE ?_)
      |((with_reducible refine (IV vH.out (HPA.out (dE k) HK.out.2.2.1 (Co HK.out.2.1).1) HP.out.1 (by have h2 := fJ.out.2; have h3 := aJ.out.2.1.size; omega) HP.out.2.2.1 HP.out.2.2.2.1 HP.out.2.2.2.2 (Pq.out.below aJ.out.2.1) (HI.out.1.below aJ.out.2.1) (by have h1 := iw.out.1; have h2 := HK.out.2.2.2; have h3 := fP (dE k); omega) aJ.out.2.2).mono ?_); rintro e w8 ⟨v8, L2, rfl, Pj, JO, PW, hs8, hl8, hc8⟩; have H8 := LH (aD q base v8 (ls ++ L ++ L2) w8 /\ j4 (w.alloc (zC K A n c (some ⟨b, o, none⟩) m d)) w8 v.ownBlock v8.ownBlock /\ (∀ y ∈ L2, NF y) /\ ((dE k).kind = 3 -> iN L2 ((dE k).kids.map (normR false))) /\ ((dE k).kind = 4 -> dS L2 ((dE k).kids.map (normR false))) /\ aj L2 <= aj (dE k).kids) ⟨Pj, (HI.out.2.1.step (vV aJ.out.2.1) (.inl rfl)).step JO.1 JO.2, PW, hs8, hl8, hc8⟩; clear Pj JO PW hs8 hl8 hc8))
     go_roundg gg
     case rel => exact ⟨i + 1, L ++ L2, by omega, by go_num, Lh ⟨by rw [<- List.append_assoc]; exact H8.out.1, H8.out.2.1, fun y hy => by
      rcases List.mem_append.1 hy with hy | hy
      ·exact HI.out.2.2.1 y hy
      ·exact H8.out.2.2.1 y hy, (Gg bR.out HK.out.1 HK.out.2.1 HI.out.2.2.2.1 HI.out.2.2.2.2.1 (.inr ⟨by simpa using bQ.out, H8.out.2.2.2.1, H8.out.2.2.2.2.1⟩)).1, (Gg bR.out HK.out.1 HK.out.2.1 HI.out.2.2.2.1 HI.out.2.2.2.2.1 (.inr ⟨by simpa using bQ.out, H8.out.2.2.2.1, H8.out.2.2.2.2.1⟩)).2, by
      rw [lJ, HK.out.2.2.2.2.1];have h1 := H8.out.2.2.2.2.2;have h2 := HK.out.2.2.2.1;have h3 := HI.out.2.2.2.2.2;have h4 := fP (dE k);omega⟩⟩
     case measure => omega
  · obtain rfl : i = m := by omega
    have HE := LH (Jk q base v ls r w (.returned (.slice B5 N5 d5)) wr) ⟨_, L, rfl, HI.out.1, ⟨⟨HI.out.2.1.1.os, HI.out.2.1.1.tape, HI.out.2.1.1.output, Nat.le_trans (by simp) HI.out.2.1.1.size, fun j hj hne => (HI.out.2.1.1.block j (by simp; omega) hne).trans ((ai w _).block j hj)⟩, HI.out.2.1.2.imp id fun ⟨g, e, h⟩ => ⟨g, e, by simp at h; omega⟩⟩, HI.out.2.2.1, fun e => by have h1 := HI.out.2.2.2.1 (HX.out.2.1.trans e); rwa [HX.out.1.o.mlen, List.take_length] at h1, fun e => by have h1 := HI.out.2.2.2.2.1 (HX.out.2.1.trans e); rwa [HX.out.1.o.mlen, List.take_length] at h1, by have h1 := HI.out.2.2.2.2.2; rwa [HX.out.1.o.mlen, List.take_length] at h1⟩;go_wp2_with fail;go_ret;exact HE.out
theorem Qp (r : Rx) (nJ : aC r = true) (hcm : az r <= 1000000000000) (DX : zP r) (hn : ∀ x, SizeOf.sizeOf x < SizeOf.sizeOf r -> aC x = true -> az x <= 1000000000000 -> zt x) : zt r := by
 intro p w A B n c m d hpb hDB hop;obtain ⟨K, hK⟩ := eX r.kind;obtain ⟨R, hR⟩ := eX (normR false r);have HX := LH (ak p w r A n c B m d /\ K = r.kind /\ aC r = true /\ az r <= 1000000000000) ⟨hop, hK, nJ, hcm⟩;have HP := LH ((∀ b, p b -> b < w.heap.size + 2) /\ 0 < w.heap.size + 2 /\ ∀ b, p b -> b < w.heap.size) ⟨fun b h => by have := hpb b h; omega, by have := hDB.lt; omega, hpb⟩;have rT := LH (∀ b, (p b \/ w.heap.size + 2 <= b) -> b ≠ w.heap.size + 1) (fun b h => by rcases h with h | h; (have := hpb b h; omega); omega);have gM := Lh hDB;have HN := Lh hn;have HPA := Lh DX;have bK := LH (ae ((w.alloc (zC K A n c B m d)).alloc zR) w.heap.size (zV K A n c B m d) 25) ((ae.at w (zV K A n c B m d) _ 25 _ rfl rfl).alloc _);have HZ := LH (ae ((w.alloc (zC K A n c B m d)).alloc zR) (w.heap.size + 1) zL 25) (ae.at (w.alloc (zC K A n c B m d)) zL _ 25 _ rfl (by simp));have bO := aS bK.out;rw [<- hK, <- hR]
 by_cases k3 : K = 3
 ·have hK2 := Lh k3;have HR := LH (R = seqP (r.kids.map (normR false))) (by rw [hR, lH, if_pos (hK.symm.trans k3)]; rfl);have ab : (K == 3) = true := bT (by omega);clear hop hK nJ hcm hpb hDB hn DX hR k3;go_enter Tryz.func51, Tryz.ntmps51
  go_wp2_with (first
   |(refine aG rfl (.tmp 7) rfl w.heap.size (0) rfl K A B n c m d bO ?_)
   |((with_reducible refine (IV HX.out.2.1 HPA.out HP.out.1 (by simp) HP.out.2.1 (fun b h => .inl h) (fun b h => .inr h) (gM.out.below (aF (ai _ _) _)) (aD.nil (fun b => p b \/ w.heap.size + 2 <= b) (w.heap.size + 2) _) (by have h1 := HX.out.2.2.2; have h2 := fP r; simp; omega) (HX.out.1.below (aF (ai _ _) _))).mono ?_); rintro e w1 ⟨v1, L, rfl, kM, hgr, vE, hs, hl, hc⟩; obtain ⟨B1, d1, rfl, hle, fG, jg, hpl⟩ := kM.e; have H1 := LH (bA (fun b => (fun b => p b \/ w.heap.size + 2 <= b) b /\ b < w1.heap.size) w1 L B1 /\ Below ((w.alloc (zC K A n c B m d)).alloc zR).heap.size ((w.alloc (zC K A n c B m d)).alloc zR) w1 /\ (∀ y ∈ L, NF y) /\ (r.kind = 3 -> iN L (r.kids.map (normR false))) /\ aj L <= aj r.kids /\ L.length <= d1 /\ d1 <= 9223372036854775807) ⟨(jg.mono (fun b h => h.1)).lt, j4.below (Below.refl _ _) hgr (fun g hg => by cases hg), vE, hs, hc, hle, fG⟩; clear kM hgr vE hs hl hc hle fG jg hpl)
   |((with_reducible refine (FL w1 (p := fun b => (fun b => p b \/ w.heap.size + 2 <= b) b /\ b < w1.heap.size) (fun b h => h.2) L B1 L.length d1 rfl H1.out.2.2.2.2.2.1 H1.out.2.2.2.2.2.2 H1.out.2.2.1 (by have h1 := HX.out.2.2.2; have h2 := fP r; have h3 := H1.out.2.2.2.2.1; omega) H1.out.1).mono ?_); rintro e w8 hp; obtain ⟨A8, n8, c8, B8, m8, d8, rfl, h8, aK⟩ := dV hp; rw [<- (HR.out.trans (H1.out.2.2.2.1 (HX.out.2.1.symm.trans hK2.out)).of.symm)] at h8 ⊢; have H8 := LH (ak (fun b => p b \/ w.heap.size + 2 <= b) w8 R A8 n8 c8 B8 m8 d8 /\ Below ((w.alloc (zC K A n c B m d)).alloc zR).heap.size ((w.alloc (zC K A n c B m d)).alloc zR) w8) ⟨h8.mono (fun b hb => by
      rcases hb with hb | hb
      ·exact hb.1
      ·have := H1.out.2.1.size; simp at this; exact .inr (by omega)), ah H1.out.2.1 aK⟩; clear hp h8 aK)
   |(refine wB rfl 25 (.tmp 2) (.tmp 9) rfl (w.heap.size + 1) 0 rfl (zV R.kind A8 n8 c8 B8 m8 d8) rfl (HZ.out.below H8.out.2 (by simp <;> omega)) 3 au ?_; intro w9 ag; have aB := LH (ae w9 (w.heap.size + 1) (zV R.kind A8 n8 c8 B8 m8 d8) 25 /\ Bw w w9 /\ ak (fun b => p b \/ w.heap.size + 2 <= b) w9 R A8 n8 c8 B8 m8 d8) ⟨ag.1, ag.below (ah (aF (ai _ _) _) H8.out.2) (by omega), il H8.out.1 ag rT.out⟩; clear ag))
  exact cK rfl (w.heap.size + 1) rfl (C := (zV R.kind A8 n8 c8 B8 m8 d8)) (T := 25) aB.out.1 _ Tryz.underlying25 rfl au rfl (by exact ⟨_, _, _, _, _, _, rfl, aB.out.2.2.mono (fun b hb => by rcases hb with hb | hb; exact .inl hb; exact .inr (by omega)), aB.out.2.1⟩)
 ·by_cases k4 : K = 4
  ·have hK2 := Lh k4;have HR := LH (R = altP (r.kids.map (normR false))) (by rw [hR, lH, if_neg (by rw [<- hK]; exact k3), if_pos (hK.symm.trans k4)]);have ab : (K == 3) = false := bF (by omega);have bb : (K == 4) = true := bT (by omega);clear hop hK nJ hcm hpb hDB hn DX hR k3 k4;go_enter Tryz.func51, Tryz.ntmps51
   go_wp2_with (first
   |(refine aG rfl (.tmp 12) rfl w.heap.size (0) rfl K A B n c m d bO ?_)
   |((with_reducible refine (IV HX.out.2.1 HPA.out HP.out.1 (by simp) HP.out.2.1 (fun b h => .inl h) (fun b h => .inr h) (gM.out.below (aF (ai _ _) _)) (aD.nil (fun b => p b \/ w.heap.size + 2 <= b) (w.heap.size + 2) _) (by have h1 := HX.out.2.2.2; have h2 := fP r; simp; omega) (HX.out.1.below (aF (ai _ _) _))).mono ?_); rintro e w1 ⟨v1, L, rfl, kM, hgr, vE, hs, hl, hc⟩; obtain ⟨B1, d1, rfl, hle, fG, jg, hpl⟩ := kM.e; have H1 := LH (bA (fun b => (fun b => p b \/ w.heap.size + 2 <= b) b /\ b < w1.heap.size) w1 L B1 /\ Below ((w.alloc (zC K A n c B m d)).alloc zR).heap.size ((w.alloc (zC K A n c B m d)).alloc zR) w1 /\ (∀ y ∈ L, NF y) /\ (r.kind = 4 -> dS L (r.kids.map (normR false))) /\ aj L <= aj r.kids /\ L.length <= d1 /\ d1 <= 9223372036854775807) ⟨(jg.mono (fun b h => h.1)).lt, j4.below (Below.refl _ _) hgr (fun g hg => by cases hg), vE, hl, hc, hle, fG⟩; clear kM hgr vE hs hl hc hle fG jg hpl)
   |((with_reducible refine (CG w1 (p := fun b => (fun b => p b \/ w.heap.size + 2 <= b) b /\ b < w1.heap.size) (fun b h => h.2) (gM.out.below (ah (aF (ai _ _) _) H1.out.2.1)) L B1 L.length d1 rfl H1.out.2.2.2.2.2.1 H1.out.2.2.2.2.2.2 H1.out.2.2.1 (by have h1 := HX.out.2.2.2; have h2 := fP r; have h3 := H1.out.2.2.2.2.1; omega) H1.out.1).mono ?_); rintro e w8 hp; obtain ⟨A8, n8, c8, B8, m8, d8, rfl, h8, aK⟩ := dV hp; rw [<- (HR.out.trans (H1.out.2.2.2.1 (HX.out.2.1.symm.trans hK2.out)).of.symm)] at h8 ⊢; have H8 := LH (ak (fun b => p b \/ w.heap.size + 2 <= b) w8 R A8 n8 c8 B8 m8 d8 /\ Below ((w.alloc (zC K A n c B m d)).alloc zR).heap.size ((w.alloc (zC K A n c B m d)).alloc zR) w8) ⟨h8.mono (fun b hb => by
      rcases hb with hb | hb
      ·exact hb.1
      ·have := H1.out.2.1.size; simp at this; exact .inr (by omega)), ah H1.out.2.1 aK⟩; clear hp h8 aK)
   |(refine wB rfl 25 (.tmp 2) (.tmp 14) rfl (w.heap.size + 1) 0 rfl (zV R.kind A8 n8 c8 B8 m8 d8) rfl (HZ.out.below H8.out.2 (by simp <;> omega)) 3 au ?_; intro w9 ag; have aB := LH (ae w9 (w.heap.size + 1) (zV R.kind A8 n8 c8 B8 m8 d8) 25 /\ Bw w w9 /\ ak (fun b => p b \/ w.heap.size + 2 <= b) w9 R A8 n8 c8 B8 m8 d8) ⟨ag.1, ag.below (ah (aF (ai _ _) _) H8.out.2) (by omega), il H8.out.1 ag rT.out⟩; clear ag))
   exact cK rfl (w.heap.size + 1) rfl (C := (zV R.kind A8 n8 c8 B8 m8 d8)) (T := 25) aB.out.1 _ Tryz.underlying25 rfl au rfl (by exact ⟨_, _, _, _, _, _, rfl, aB.out.2.2.mono (fun b hb => by rcases hb with hb | hb; exact .inl hb; exact .inr (by omega)), aB.out.2.1⟩)
  ·by_cases k5 : K = 5
   ·obtain ⟨y, hy, nL⟩ : ∃ y, r.kids = [y] /\ aC y = true := by
      rcases kw nJ with rfl | rfl | ⟨s, rfl, _⟩ | ⟨ks, rfl, _⟩ | ⟨ks, rfl, _⟩ | ⟨x, rfl, hx⟩ <;> simp [Rx.kind] at hK <;> first | omega | exact ⟨_, rfl, hx⟩
    have HR := LH (R = starP (normR false y)) (by rw [hR, lH, if_neg (by rw [<- hK]; exact k3), if_neg (by rw [<- hK]; exact k4), if_pos (hK.symm.trans k5), hy]; rfl);have l9 : m = 1 := by rw [hop.o.mlen, hy]; rfl
    subst l9;have kF : r.kids.length = 1 := by rw [hy]; rfl
    obtain ⟨b, o, rfl⟩ := hop.kids.1.place (by omega);obtain ⟨A2, n2, c2, B2, m2, d2, hrg, ax⟩ := hop.kids.1.kid (i := 0) (by omega);have Ej : av r.kids 0 = y := by rw [hy]; rfl
    rw [Ej] at hrg ax;obtain ⟨Ky, bi⟩ := eX y.kind;rw [<- bi] at hrg;have qD : az y <= 1000000000000 := by
      have h1 := fP r;have h2 : aj r.kids = az y := by rw [hy]; simp [aj]
      omega
    have HY := LH (ak p w y A2 n2 c2 B2 m2 d2 /\ Ky = y.kind /\ aC y = true /\ az y <= 1000000000000 /\ SizeOf.sizeOf y < SizeOf.sizeOf r) ⟨ax, bi, nL, qD, jZ (by rw [hy]; simp)⟩;have vg := LH (NF (normR false y)) (NF.normR false nL);have aP := LH (((w.alloc (zC K A n c (some ⟨b, o, none⟩) 1 d)).alloc zR).rangeAt b (o + 0 * 3) (zV Ky A2 n2 c2 B2 m2 d2)) (iW hrg (aF (ai _ _) _));have hb2 := bK.out.cell (j := 2) rfl;have ab : (K == 3) = false := bF (by omega);have bb : (K == 4) = false := bF (by omega);have cb : (K == 5) = true := bT (by omega);clear hop hK nJ hcm hpb hDB hn DX hR k3 k4 k5 hy nL kF hrg ax Ej bi;go_enter Tryz.func51, Tryz.ntmps51
    go_wp2_with (first
      |(refine aG rfl (.tmp 19) rfl b (o + 0 * 3) rfl Ky A2 B2 n2 c2 m2 d2 aP.out ?_)
      |((with_reducible refine (LM HY.out.2.1 (HN.out y HY.out.2.2.2.2 HY.out.2.2.1 HY.out.2.2.2.1) (fun b hb => by have := HP.out.1 b hb; simp; omega) (gM.out.below (aF (ai _ _) _)) (HY.out.1.below (aF (ai _ _) _))).mono ?_); rintro e w1 hp; obtain ⟨A3, n3, c3, B3, m3, d3, rfl, h3, hb3⟩ := dV hp; have H1 := LH (ak (fun b => (p b \/ w.heap.size + 2 <= b) /\ b < w1.heap.size) w1 (normR false y) A3 n3 c3 B3 m3 d3 /\ Below ((w.alloc (zC K A n c (some ⟨b, o, none⟩) 1 d)).alloc zR).heap.size ((w.alloc (zC K A n c (some ⟨b, o, none⟩) 1 d)).alloc zR) w1) ⟨(h3.mono (fun b hb => by
         rcases hb with hb | hb
         ·exact .inl hb
         ·simp at hb; exact .inr (by omega))).lt, hb3⟩; clear hp h3 hb3)
      |((with_reducible refine (Wh w1 (fun b hb => hb.2) (normR false y) vg.out A3 B3 n3 c3 m3 d3 H1.out.1).mono ?_); rintro e w8 hp; obtain ⟨A8, n8, c8, B8, m8, d8, rfl, h8, aK⟩ := dV hp; rw [<- HR.out] at h8 ⊢; have H8 := LH (ak (fun b => p b \/ w.heap.size + 2 <= b) w8 R A8 n8 c8 B8 m8 d8 /\ Below ((w.alloc (zC K A n c (some ⟨b, o, none⟩) 1 d)).alloc zR).heap.size ((w.alloc (zC K A n c (some ⟨b, o, none⟩) 1 d)).alloc zR) w8) ⟨h8.mono (fun b hb => by
         rcases hb with hb | hb
         ·exact hb.1
         ·have := H1.out.2.size; simp at this; exact .inr (by omega)), ah H1.out.2 aK⟩; clear hp h8 aK)
      |(refine wB rfl 25 (.tmp 2) (.tmp 22) rfl (w.heap.size + 1) 0 rfl (zV R.kind A8 n8 c8 B8 m8 d8) rfl (HZ.out.below H8.out.2 (by simp <;> omega)) 3 au ?_; intro w9 ag; have aB := LH (ae w9 (w.heap.size + 1) (zV R.kind A8 n8 c8 B8 m8 d8) 25 /\ Bw w w9 /\ ak (fun b => p b \/ w.heap.size + 2 <= b) w9 R A8 n8 c8 B8 m8 d8) ⟨ag.1, ag.below (ah (aF (ai _ _) _) H8.out.2) (by omega), il H8.out.1 ag rT.out⟩; clear ag))
    exact cK rfl (w.heap.size + 1) rfl (C := (zV R.kind A8 n8 c8 B8 m8 d8)) (T := 25) aB.out.1 _ Tryz.underlying25 rfl au rfl (by exact ⟨_, _, _, _, _, _, rfl, aB.out.2.2.mono (fun b hb => by rcases hb with hb | hb; exact .inl hb; exact .inr (by omega)), aB.out.2.1⟩)
   ·have HR := LH (R = r) (by rw [hR, lH, if_neg (by rw [<- hK]; exact k3), if_neg (by rw [<- hK]; exact k4), if_neg (by rw [<- hK]; exact k5)]);have ab : (K == 3) = false := bF (by omega);have bb : (K == 4) = false := bF (by omega);have cb : (K == 5) = false := bF (by omega);clear hop hK nJ hcm hpb hDB hn DX hR k3 k4 k5;go_enter Tryz.func51, Tryz.ntmps51
    go_wp2_with (first
      |(refine aG rfl (.tmp 1) rfl w.heap.size (0) rfl K A B n c m d bO ?_)
      |(refine wB rfl 25 (.tmp 2) (.tmp 23) rfl (w.heap.size + 1) 0 rfl (zV K A n c B m d) rfl HZ.out 3 au ?_; intro w9 ag; have aB := LH (ae w9 (w.heap.size + 1) (zV K A n c B m d) 25 /\ Bw w w9) ⟨ag.1, ag.below (aF (ai _ _) _) (by omega)⟩; clear ag))
    exact cK rfl (w.heap.size + 1) rfl (C := (zV K A n c B m d)) (T := 25) aB.out.1 _ Tryz.underlying25 rfl au rfl (by rw [HR.out, HX.out.2.1]; exact lI (HX.out.1.below aB.out.2) (fun b hb => .inl hb) aB.out.2)
theorem OM : ∀ (z : Nat) (r : Rx), SizeOf.sizeOf r <= z -> aC r = true -> (az r <= 1000000000000 -> zt r) /\ zP r
 |0, r, hz, hv => by cases r; simp at hz
 |z + 1, r, hz, hv => by
  have ih : ∀ x, SizeOf.sizeOf x < SizeOf.sizeOf r -> aC x = true -> (az x <= 1000000000000 -> zt x) /\ zP x := fun x hx hv => OM z x (by omega) hv
  have hpa := Qw r hv (fun x hx hv hc => (ih x hx hv).1 hc) (fun x hx hv => (ih x hx hv).2);exact ⟨fun hc => Qp r hv hc hpa (fun x hx hv hc => (ih x hx hv).1 hc), hpa⟩
theorem TC {p : Nat -> Prop} {w : World} (hp : ∀ b, p b -> b < w.heap.size) (hd : DB w) (r : Rx) (hv : aC r = true) (hc : az r <= 1000000000000) {A B : Option Addr} {n c m d : Nat} (h : ak p w r A n c B m d) : Calls Tryz.prog 51 #[.agg #[.int .i64 r.kind, .slice A n c, .slice B m d]] w (dB p w (normR false r)) :=
 (OM _ r (Nat.le_refl _) hv).1 hc p w A B n c m d hp hd h
namespace Rgx
theorem MO : ∀ l : List Int, jI l = true -> ∀ x t, l = x :: t -> x + (t.length : Int) + 1 <= 64
 |[], _, x, t, e => by cases e
 |[y], h, x, t, e => by
  obtain ⟨rfl, rfl⟩ : y = x /\ [] = t := by simpa using e
  simp [jI] at h;simp only [List.length_nil];omega
 |y :: z :: l, h, x, t, e => by
  obtain ⟨rfl, rfl⟩ : y = x /\ z :: l = t := by simpa using e
  have h2 : jI (z :: l) = true := by rw [jI] at h; simp only [Bool.and_eq_true] at h; exact h.2
  have h3 := MO (z :: l) h2 z l rfl;have h4 : y < z := by rw [jI] at h; simp only [Bool.and_eq_true, decide_eq_true_eq] at h; exact h.1.2
  simp only [List.length_cons] at *;omega
theorem QD {l : List Int} (h : fO l = true) : l.length <= 64 := by
 unfold fO at h;simp only [Bool.and_eq_true, decide_eq_true_eq] at h
 match l, h with
 |x :: t, ⟨_, h⟩ =>
  have h1 := MO _ h x t rfl;have h2 : 0 <= x := by unfold jI at h; simp only [Bool.and_eq_true, decide_eq_true_eq] at h; exact h.1.1.1
  simp only [List.length_cons];omega
theorem JE {r : Rx} (h : aC r = true) : r.syms.length <= 64 := by
 rcases kw h with rfl | rfl | ⟨s, rfl, hs⟩ | ⟨ks, rfl, _⟩ | ⟨ks, rfl, _⟩ | ⟨x, rfl, _⟩ <;> first | exact QD hs | simp [Rx.syms]
end Rgx
section
variable {P : Program} {w : World} {ops : Array Oper} {o : Oper} {a : Act}
theorem xA {rest : List Oper} {Q : Exit -> Act -> World -> Prop} (hgd : o.guard = none) (ty : TypeId) (x y : Operand) (ho : o.op = .store ty x y)
  (g j : Nat) (hx : a.eval x = .pointer (some ⟨g, j, none⟩)) (A : Option Addr) (n c : Nat) (hy : a.eval y = .slice A n c) {C : List Value} {T : TypeId} (hb : ae w g C T) (hj : j < C.length) (hi : (P.info? ty).map (·.size) = some 1)
  (h : ∀ w1, aT w w1 g (C.set j (.slice A n c)) T -> wpList P ops Q rest (a.put o.dst undef) w1) : wpList P ops Q (o :: rest) a w := by
 refine wpList_plain hgd fun _ hK => ?_
 have hst := run_storeCells_cells (P := P) g j [Value.slice A n c] 0 w (fun i hi => by
    have h0 : i = 0 := by simpa using hi
    subst h0; exact (hb.there j 1 (by omega) 0 (by omega)).1) (fun i hi => by
    have h0 : i = 0 := by simpa using hi
    subst h0; exact (hb.there j 1 (by omega) 0 (by omega)).2) (fun v hv => by
    have hv' : v = .slice A n c := by simpa using hv
    subst hv'; rfl)
 have hrun : (Instr.storeAt ty (.pointer (some ⟨g, j, none⟩)) (.slice A n c)).run P w = .ok () (w.setCell ⟨g, j, none⟩ (.slice A n c)) := by
  cases hq : P.info? ty with
  | none => simp [hq] at hi
  | some i =>
    have hi' : i.size = 1 := by simpa [hq] using hi
    have hst' : (storeCells ⟨g, j, none⟩ [Value.slice A n c] 0).run P w = .ok () (w.setCell ⟨g, j, none⟩ (.slice A n c)) := hst;simp [Instr.storeAt, Instr.sureAddr, storeVar, sizeOf, typeInfo, hq, hi', Value.cells, hst']
 unfold Oper.wp execOp;simp only [ho, hx, hy, Sem.run_bind, Sem.run_pure, Result.andThen_ok, hrun];exact hK _ _ (h _ (aT.of_setCell hb j _))
end
theorem IR {q : Nat -> Prop} {base g n cap k : Nat} {cur : List Rx} {w : World} {ops : Array Oper} {o : Oper} {a : Act} {KK : Act -> World -> Prop} {Q : Exit -> Act -> World -> Prop} {E : Prop} (hgd : o.guard = none) (x y : Operand) (ho : o.op = .store 25 x y)
  (h : aD q base (.slice (pt g) n cap) cur w) (hn : n = cur.length) (hk : k < n) (hx : a.eval x = .pointer (some ⟨g, k * 3, none⟩)) (r : Rx) (K : Int) (hK : K = r.kind) (A B : Option Addr) (n1 c1 m1 d1 : Nat) (hy : a.eval y = .agg #[.int .i64 K, .slice A n1 c1, .slice B m1 d1]) (hr : aY (fun b => q b /\ some b ≠ some g) w r (.slice A n1 c1) (.slice B m1 d1))
  (hw : ∀ w1, aD q base (.slice (pt g) n cap) (cur.set k r) w1 /\ w.grownBy w1 (some g) -> KK (a.put o.dst undef) w1) : if Region.wanted o (yielded ops a.tmps) = true then Oper.wp Tryz.prog o a w KK Q else E := by
 subst hK;rw [if_pos (by simp [Region.wanted, hgd])];refine wp_store_mid 25 x y ho g (k * 3) #[.int .i64 r.kind, .slice A n1 c1, .slice B m1 d1] hx hy (h.there hn hk) au (by simp [Value.oneCell']) ?_;exact hw _ (h.store hn hr hk)
theorem Rgx.aD.other {q : Nat -> Prop} {base G : Nat} {v : Value} {rs : List Rx} {w W : World} (h : aD q base v rs w) (hg : w.grownBy W (some G)) (hq : ∀ b, q b -> b ≠ G) (hG : G < base) : aD q base v rs W := by
 obtain ⟨xs, h1, h2⟩ := h;refine ⟨xs, (h1.lt.keep (W := W) fun b o hb => World.cell?_of_block (hg.block b hb.2 fun e => hq b hb.1.1 (by simpa using e))).mono fun b hb => hb.1, h2.kept hg ?_⟩
 cases hv : v.ownBlock with
 |none => exact .inl rfl
 |some g =>
  refine .inr fun e => ?_
  have h3 := (h2.lt g hv).1;simp only [Option.some.injEq] at e;omega
theorem dG {w W : World} {G : Nat} {D : List Value} {T : TypeId} (h : aT w W G D T) : w.grownBy W (some G) := ⟨h.2.2.2.1, h.2.2.2.2.1, h.2.2.2.2.2, by rw [h.2.2.1]; exact Nat.le_refl _, fun k _ hk => h.2.1 k fun e => hk (by rw [e])⟩
theorem Rgx.ak.other {p : Nat -> Prop} {w W : World} {G : Option Nat} {r : Rx} {A B : Option Addr} {n c m d : Nat} (h : ak p w r A n c B m d) (hg : w.grownBy W G) (hp : ∀ b, p b -> some b ≠ G) : ak p W r A n c B m d := by
 have h1 := h.and h.o.toP;obtain ⟨A', n', c', B', m', d', e1, e2, h2⟩ := (aY.keep (W := W) (fun b o hb => World.cell?_of_block (hg.block b hb.2 (hp b hb.1))) r h1.q).op;simp only [Value.slice.injEq] at e1 e2;obtain ⟨rfl, rfl, rfl⟩ := e1;obtain ⟨rfl, rfl, rfl⟩ := e2;exact h2.mono fun b hb => hb.1
theorem OC (q : Nat -> Prop) (base m : Nat) (w : World) (hb : base <= w.heap.size) (hm : m <= maxLen) : aD q base (.slice (pt w.heap.size) m m) (List.replicate m (.mk 0 [] [])) (w.alloc (.cells (madeCells #[.int .i64 0, .slice none 0 0, .slice none 0 0] (m * 3)) 25)) := by
 have Af : ∀ i, i < m * 3 -> (madeCells #[.int .i64 0, .slice none 0 0, .slice none 0 0] (m * 3)).toList[i]? = some (#[.int .i64 0, .slice none 0 0, .slice none 0 0][i % 3]!) := fun i hi => by
  unfold madeCells;simp [hi]
 refine ⟨(madeCells #[.int .i64 0, .slice none 0 0, .slice none 0 0] (m * 3)).toList, ⟨by simp [madeCells], fun i hi => ?_⟩, by simp [madeCells], .inr ⟨w.heap.size, m, _, by simp, hb, heap_alloc_new w _, by simp, hm, by simp [madeCells], ?_⟩⟩
 ·rw [List.length_replicate] at hi;refine ⟨.slice none 0 0, .slice none 0 0, ?_, ?_, ?_, ?_⟩
  ·rw [Af _ (by omega), show i * 3 % 3 = 0 by omega]; simp; rfl
  ·rw [Af _ (by omega), show (i * 3 + 1) % 3 = 1 by omega]; rfl
  ·rw [Af _ (by omega), show (i * 3 + 2) % 3 = 2 by omega]; rfl
  ·rw [List.getElem_replicate]; exact (ak.flat _ _ (by constructor <;> decide)).q
 ·rw [List.length_replicate, List.take_of_length_le (by simp [madeCells])]
theorem Jj (m : Nat) (hm : m <= 2000000000000) (w : World) : (Instr.makeSlice 23 (.int .i64 (m : Int)) (.int .i64 (m : Int))).run Tryz.prog w = .ok (.slice (pt w.heap.size) m m) (w.alloc (.cells (madeCells #[.int .i64 0, .slice none 0 0, .slice none 0 0] (m * 3)) 25)) := by
 obtain ⟨i0, aZ, hz0, hz1, hz2⟩ := info_parts lG;have h := run_make (P := Tryz.prog) w 23 25 i0 _ Tryz.underlying23 aZ hz0 .i64 .i64 (m : Int) (m : Int) (by omega) (Int.le_refl _) (by rw [hz2]; omega) (by omega);rw [h, Int.toNat_natCast, hz1]
 rfl
theorem Ja {P : Program} {w : World} {size : Nat} {tx e' : TypeId} (hk : P.underlying tx = some (.slice e')) (hs : size = 1) {A : Option Addr} {l : List Int} (h : Rd w A (iv l)) (n c : Nat) (hn : n = l.length) :
  Src P size tx (.slice A n c) n (iv l) w := by
 subst hs hn
 cases A with
 |none =>
  have hl : l = [] := by
   rcases h with h | ⟨b, o, e, _⟩
   ·simpa [iv] using h
   ·cases e
  subst hl;exact Src.ofNil w hk c
 |some a =>
  refine Src.ofSlice w hk a l.length c (iv l) (by simp [iv]) (fun j u hu => ?_) (fun u hu => by
   obtain ⟨x, _, rfl⟩ := List.mem_map.1 hu
   rfl)
  rcases h with h | ⟨b, o, e, hc⟩
  ·rw [h] at hu; simp at hu
  ·obtain rfl : a = ⟨b, o, none⟩ := by simpa using e
   have rO : (⟨b, o, none⟩ : Addr).add j = ⟨b, o + j, none⟩ := by unfold Addr.add; split <;> simp_all
   rw [rO];exact hc j u hu
theorem BK : (Tryz.prog.info? 3).map (fun i => (i.zero, i.size, i.bytes)) = some (some (.int .i64 0), 1, 8) := by kernel_rfl
theorem Fs : (Tryz.prog.info? 22).map (·.size) = some 1 := by kernel_rfl
theorem Xb : (Tryz.prog.info? 23).map (·.size) = some 1 := by kernel_rfl
theorem CL {q : Nat -> Prop} {base : Nat} {w : World} {K : Int} {s : List Int} {A : Option Addr} {n c m d : Nat} {B : Option Addr} {ks : List Rx} {v : Value} (h : ak q w (.mk K s []) A n c none 0 0) (hr : aD q base v ks w) (hq : ∀ b, base <= b -> q b) (hv : v = .slice B m d) : ak q w (.mk K s ks) A n c B m d := by
 obtain ⟨B', d', e, h1, h2, h3, h4⟩ := hr.e;rw [hv, Value.slice.injEq] at e;obtain ⟨rfl, rfl, rfl⟩ := e;obtain ⟨⟨g1, g2⟩, ⟨A', n', c', e, g3, g4, g5, g6, g7⟩, _⟩ := (aY.iff _ _ _ _ _).1 h.q;rw [Value.slice.injEq] at e;obtain ⟨rfl, rfl, rfl⟩ := e;refine ak.make g1 g2 g3 g4 g5 g6 g7 rfl h1 h2 (h3.mono fun b h => h.1) fun hn b o e => ?_
 obtain ⟨g, e2, h5, _⟩ := h4 hn;rw [e2, Option.some.injEq, Addr.mk.injEq] at e;exact e.1 ▸ hq g h5
theorem IW {q : Nat -> Prop} {w : World} {K : Int} {s : List Int} {base : Nat} {A : Option Addr} {n c : Nat} (hK : fM K) (hs : ∀ x ∈ s, fM x) (hn : n = s.length) (hown : w.ownsRow base 3 1 (.slice A n c) n (iv s)) (hq : ∀ b, base <= b -> b < w.heap.size -> q b) : ak q w (.mk K s []) A n c none 0 0 := by
 obtain ⟨A', c', e, hr, jd, hcm⟩ := Rd.of_own hown;rw [Value.slice.injEq] at e;obtain ⟨rfl, _, rfl⟩ := e;refine ak.make hK hs hn jd hcm hr (fun _ b o e => ?_) rfl (Nat.le_refl _) (Nat.zero_le _) (fun i hi => absurd hi (by simp)) fun h => absurd rfl h
 subst e;have h1 := hown.lt b rfl;exact hq b h1.1 h1.2
def Ci (x : Rx) : Prop := ∀ (w : World) (A B : Option Addr) (n c m d : Nat), aI w x A n c B m d -> Calls Tryz.prog 50 #[.agg #[.int .i64 x.kind, .slice A n c, .slice B m d]] w (dB (fun _ => False) w x)
theorem Rj {w : World} {x : Rx} {K : Int} {A B : Option Addr} {n c m d : Nat} (hK : K = x.kind) (h : Ci x) (hx : aI w x A n c B m d) : Calls Tryz.prog 50 #[.agg #[.int .i64 K, .slice A n c, .slice B m d]] w (dB (fun _ => False) w x) := by
 subst hK;exact h w A B n c m d hx
theorem CB {cur ks : List Rx} (hl : cur.length = ks.length) (h : ∀ j, j < ks.length -> av cur j = av ks j) : cur = ks := by
 refine List.ext_getElem hl fun i h1 h2 => ?_
 have := h i h2
 rwa [gI h1, gI h2] at this
theorem Cq {cur : List Rx} {k : Nat} {x : Rx} (h : k < cur.length) : av (cur.set k x) k = x := by
 unfold av;rw [List.getD_eq_getElem?_getD, List.getElem?_set_self h]; rfl
theorem ae.grown {w W : World} {G : Option Nat} {g : Nat} {C : List Value} {T : TypeId} (h : ae w g C T) (hg : w.grownBy W G) (hne : some g ≠ G) : ae W g C T := (hg.block g h.lt hne).trans h
theorem UK (r : Rx) (nJ : aC r = true) (hcm : az r <= 1000000000000) (ih : ∀ x ∈ r.kids, Ci x) : Ci r := by
 intro w A B n c m d hop;obtain ⟨i0, aZ, hz0, hz1, hz2⟩ := info_parts lG;obtain ⟨j0, sG, nP, iG, gY⟩ := info_parts BK;obtain ⟨K, hK⟩ := eX r.kind;have hm : m <= 2000000000000 := by
  have h1 := fP r;have h2 := mW r.kids;rw [hop.mlen]; omega
 have HX := LH (aI w r A n c B m d /\ K = r.kind /\ aC r = true /\ n <= 64 /\ fM K /\ (∀ x ∈ r.syms, fM x) /\ m <= 2000000000000) ⟨hop, hK, nJ, by rw [hop.nlen]; exact JE nJ, by rw [hK]; exact hop.kin, hop.sin, hm⟩;have dH := Lh ih;have iA := hop.mcap;have H1 := LH (ae (((w.alloc (zC K A n c B m d)).alloc zR).alloc (zC K none 0 0 none 0 0)) (w.heap.size + 1 + 1) (zV K none 0 0 none 0 0) 25 /\ Bw w (((w.alloc (zC K A n c B m d)).alloc zR).alloc (zC K none 0 0 none 0 0)) /\ ae (((w.alloc (zC K A n c B m d)).alloc zR).alloc (zC K none 0 0 none 0 0)) w.heap.size (zV K A n c B m d) 25 /\ ae (((w.alloc (zC K A n c B m d)).alloc zR).alloc (zC K none 0 0 none 0 0)) (w.heap.size + 1) zL 25 /\ w.heap.size + 1 + 1 + 1 <= (((w.alloc (zC K A n c B m d)).alloc zR).alloc (zC K none 0 0 none 0 0)).heap.size) ⟨ae.at ((w.alloc (zC K A n c B m d)).alloc zR) (zV K none 0 0 none 0 0) _ 25 _ rfl (by simp), aF (aF (ai _ _) _) _, ((ae.at w (zV K A n c B m d) _ 25 _ rfl rfl).alloc _).alloc _, (ae.at (w.alloc (zC K A n c B m d)) zL _ 25 _ rfl (by simp)).alloc _, by simp⟩
 have wE := Jj m hm;rw [<- hK];clear hop hK nJ hcm ih
 by_cases h0 : m = 0
 ·subst h0;go_enter Tryz.func50, Tryz.ntmps50
  go_wp2_with (first
 |(at_builtin; refine gW rfl (.tmp 10) (.tmp 12) 22 22 rfl (w.heap.size + 1 + 1 + 1) 3 j0 _ 1 8 Tryz.underlying22 sG nP iG gY rfl _ 0 [] rfl ⟨rfl, .inl ⟨rfl, rfl⟩⟩ _ n (iv r.syms) rfl (Ja Tryz.underlying22 iG (HX.out.1.below H1.out.2.1).syms n c HX.out.1.nlen) (by have := HX.out.2.2.2.1; unfold maxLen; omega) (by have := HX.out.2.2.2.1; omega) H1.out.2.2.2.2 ?_; intro v5 w5 hown cB dW; obtain ⟨A5, c5, D9, _⟩ := Rd.of_own hown; subst D9; simp only [Nat.zero_add, List.nil_append] at hown ⊢; have bq : Below (((w.alloc (zC K A n c B 0 d)).alloc zR).alloc (zC K none 0 0 none 0 0)).heap.size (((w.alloc (zC K A n c B 0 d)).alloc zR).alloc (zC K none 0 0 none 0 0)) w5 := eH (Below.refl _ _) cB (fun g hg => by cases hg); have H5 := LH (ae w5 (w.heap.size + 1 + 1) (zV K none 0 0 none 0 0) 25 /\ Bw w w5 /\ ae w5 w.heap.size (zV K A n c B 0 d) 25 /\ ae w5 (w.heap.size + 1) zL 25 /\ w.heap.size + 1 + 1 + 1 <= w5.heap.size /\ ak (fun b => (fun b => w.heap.size + 1 + 1 + 1 <= b) b /\ b < w5.heap.size) w5 (.mk K r.syms []) A5 n c5 none 0 0) ⟨H1.out.1.below bq H1.out.1.lt, ah H1.out.2.1 bq, H1.out.2.2.1.below bq H1.out.2.2.1.lt, H1.out.2.2.2.1.below bq H1.out.2.2.2.1.lt, Nat.le_trans H1.out.2.2.2.2 bq.size, IW HX.out.2.2.2.2.1 HX.out.2.2.2.2.2.1 HX.out.1.nlen hown (fun b h1 h2 => ⟨h1, h2⟩)⟩; clear hown cB dW bq)
 |(refine xA rfl 22 (.tmp 14) (.tmp 13) rfl (w.heap.size + 1 + 1) 1 rfl A5 n c5 rfl H5.out.1 (by simp) Fs ?_; intro w6 ag; have H6 := LH (ae w6 (w.heap.size + 1 + 1) (zV K A5 n c5 none 0 0) 25 /\ Bw w w6 /\ ae w6 w.heap.size (zV K A n c B 0 d) 25 /\ ae w6 (w.heap.size + 1) zL 25 /\ w.heap.size + 1 + 1 + 1 <= w6.heap.size /\ ak (fun b => (fun b => w.heap.size + 1 + 1 + 1 <= b) b /\ b < w6.heap.size) w6 (.mk K r.syms []) A5 n c5 none 0 0) ⟨ag.1, ag.below H5.out.2.1 (by omega), ag.other H5.out.2.2.1 (by omega), ag.other H5.out.2.2.2.1 (by omega), by rw [ag.2.2.1]; exact H5.out.2.2.2.2.1, by rw [ag.2.2.1]; exact H5.out.2.2.2.2.2.other (dG ag) (fun b hb e => by have := hb.1; simp at e; omega)⟩; have hb2 := H6.out.2.2.1.cell (j := 2) rfl; clear ag))
  go_loopg [27] 0 (fun g EW wr => ∃ (i : Nat) (cur : List Rx), i + g = 0 /\ EW = .int .i64 (i : Int) /\ Hid (cur.length = 0 /\ (∀ j, j < i -> av cur j = av r.kids j) /\ (ae wr (w.heap.size + 1 + 1) (zV K A5 n c5 none 0 0) 25 /\ aD (fun b => w.heap.size + 1 + 1 + 1 <= b) (w.heap.size + 1 + 1 + 1) (.slice none 0 0) cur wr /\ Bw w wr /\ ae wr (w.heap.size + 1) zL 25 /\ ak (fun b => (fun b => w.heap.size + 1 + 1 + 1 <= b) b /\ some b ≠ Value.ownBlock (.slice none 0 0)) wr (.mk K r.syms []) A5 n c5 none 0 0 /\ w.heap.size + 1 + 1 + 1 <= wr.heap.size)))
  case atStart => exact ⟨0, [], by omega, rfl, Lh ⟨rfl, fun j hj => by omega, H6.out.1, aD.nil _ _ _, H6.out.2.1, H6.out.2.2.2.1, H6.out.2.2.2.2.2.mono (fun b hb => ⟨hb.1, fun e => by cases e⟩), H6.out.2.2.2.2.1⟩⟩
  case round =>
    obtain ⟨i, cur, hi, rfl, HI⟩ := hrel
    by_cases hlt : i < 0
    ·omega
    ·obtain rfl : 0 = i := by omega
     have bO := aS HI.out.2.2.1
     go_wp2_with (first
      |(refine aG rfl (.tmp 3) rfl (w.heap.size + 1 + 1) (0) rfl K A5 none n c5 0 0 bO ?_)
      |(refine wB rfl 25 (.tmp 2) (.tmp 39) rfl (w.heap.size + 1) 0 rfl (zV K A5 n c5 none 0 0) rfl HI.out.2.2.2.2.2.1 3 au ?_; intro w9 ag; have aB := LH (ae w9 (w.heap.size + 1) (zV K A5 n c5 none 0 0) 25 /\ Bw w w9 /\ aD (fun b => w.heap.size + 1 + 1 + 1 <= b) (w.heap.size + 1 + 1 + 1) (.slice none 0 0) cur w9 /\ ak (fun b => w.heap.size + 1 + 1 + 1 <= b) w9 (.mk K r.syms []) A5 n c5 none 0 0) ⟨ag.1, ag.below HI.out.2.2.2.2.1 (by omega), HI.out.2.2.2.1.other (dG ag) (fun b hb => by omega) (by omega), (HI.out.2.2.2.2.2.2.1.other (dG ag) (fun b hb e => by have := hb.1; simp at e; omega)).mono (fun b hb => hb.1)⟩; clear ag))
     exact cK rfl (w.heap.size + 1) rfl (C := (zV K A5 n c5 none 0 0)) (T := 25) aB.out.1 _ Tryz.underlying25 rfl au rfl (by
      have e : cur = r.kids := CB (HI.out.1.trans HX.out.1.mlen) fun j hj => HI.out.2.1 j (by rw [HX.out.1.mlen]; exact hj)
      have h1 := CL aB.out.2.2.2 aB.out.2.2.1 (fun b h => h) rfl;rw [e, HX.out.2.1, show Rx.mk r.kind r.syms r.kids = r by cases r; rfl] at h1;refine ⟨A5, n, c5, none, 0, 0, ?_, h1.mono (fun b hb => .inr (by omega)), aB.out.2.1⟩;rw [HX.out.2.1])
 ·have kN : 0 < m := by omega
  go_enter Tryz.func50, Tryz.ntmps50
  go_wp2_with (first
 |(at_builtin; refine gW rfl (.tmp 10) (.tmp 12) 22 22 rfl (w.heap.size + 1 + 1 + 1) 3 j0 _ 1 8 Tryz.underlying22 sG nP iG gY rfl _ 0 [] rfl ⟨rfl, .inl ⟨rfl, rfl⟩⟩ _ n (iv r.syms) rfl (Ja Tryz.underlying22 iG (HX.out.1.below H1.out.2.1).syms n c HX.out.1.nlen) (by have := HX.out.2.2.2.1; unfold maxLen; omega) (by have := HX.out.2.2.2.1; omega) H1.out.2.2.2.2 ?_; intro v5 w5 hown cB dW; obtain ⟨A5, c5, D9, _⟩ := Rd.of_own hown; subst D9; simp only [Nat.zero_add, List.nil_append] at hown ⊢; have bq : Below (((w.alloc (zC K A n c B m d)).alloc zR).alloc (zC K none 0 0 none 0 0)).heap.size (((w.alloc (zC K A n c B m d)).alloc zR).alloc (zC K none 0 0 none 0 0)) w5 := eH (Below.refl _ _) cB (fun g hg => by cases hg); have H5 := LH (ae w5 (w.heap.size + 1 + 1) (zV K none 0 0 none 0 0) 25 /\ Bw w w5 /\ ae w5 w.heap.size (zV K A n c B m d) 25 /\ ae w5 (w.heap.size + 1) zL 25 /\ w.heap.size + 1 + 1 + 1 <= w5.heap.size /\ ak (fun b => (fun b => w.heap.size + 1 + 1 + 1 <= b) b /\ b < w5.heap.size) w5 (.mk K r.syms []) A5 n c5 none 0 0) ⟨H1.out.1.below bq H1.out.1.lt, ah H1.out.2.1 bq, H1.out.2.2.1.below bq H1.out.2.2.1.lt, H1.out.2.2.2.1.below bq H1.out.2.2.2.1.lt, Nat.le_trans H1.out.2.2.2.2 bq.size, IW HX.out.2.2.2.2.1 HX.out.2.2.2.2.2.1 HX.out.1.nlen hown (fun b h1 h2 => ⟨h1, h2⟩)⟩; clear hown cB dW bq)
 |(refine xA rfl 22 (.tmp 14) (.tmp 13) rfl (w.heap.size + 1 + 1) 1 rfl A5 n c5 rfl H5.out.1 (by simp) Fs ?_; intro w6 ag; have H6 := LH (ae w6 (w.heap.size + 1 + 1) (zV K A5 n c5 none 0 0) 25 /\ Bw w w6 /\ ae w6 w.heap.size (zV K A n c B m d) 25 /\ ae w6 (w.heap.size + 1) zL 25 /\ w.heap.size + 1 + 1 + 1 <= w6.heap.size /\ ak (fun b => (fun b => w.heap.size + 1 + 1 + 1 <= b) b /\ b < w6.heap.size) w6 (.mk K r.syms []) A5 n c5 none 0 0) ⟨ag.1, ag.below H5.out.2.1 (by omega), ag.other H5.out.2.2.1 (by omega), ag.other H5.out.2.2.2.1 (by omega), by rw [ag.2.2.1]; exact H5.out.2.2.2.2.1, by rw [ag.2.2.1]; exact H5.out.2.2.2.2.2.other (dG ag) (fun b hb e => by have := hb.1; simp at e; omega)⟩; have hb2 := H6.out.2.2.1.cell (j := 2) rfl; clear ag)
 |(refine xA rfl 23 (.tmp 23) (.tmp 22) rfl (w.heap.size + 1 + 1) 2 rfl (pt w6.heap.size) m m rfl (H6.out.1.alloc _) (by simp) Xb ?_; intro w7 ag; have H7 := LH (ae w7 (w.heap.size + 1 + 1) (zV K A5 n c5 (pt w6.heap.size) m m) 25 /\ aD (fun b => w.heap.size + 1 + 1 + 1 <= b) (w.heap.size + 1 + 1 + 1) (.slice (pt w6.heap.size) m m) (List.replicate m (.mk 0 [] [])) w7 /\ Bw w w7 /\ ae w7 (w.heap.size + 1) zL 25 /\ ak (fun b => (fun b => w.heap.size + 1 + 1 + 1 <= b) b /\ some b ≠ Value.ownBlock (.slice (pt w6.heap.size) m m)) w7 (.mk K r.syms []) A5 n c5 none 0 0 /\ w.heap.size + 1 + 1 + 1 <= w7.heap.size) ⟨ag.1, (OC (fun b => w.heap.size + 1 + 1 + 1 <= b) (w.heap.size + 1 + 1 + 1) m w6 H6.out.2.2.2.2.1 (by have := HX.out.2.2.2.2.2.2; unfold maxLen; omega)).other (dG ag) (fun b hb => by omega) (by omega), ag.below (aF H6.out.2.1 _) (by omega), ag.other (H6.out.2.2.2.1.alloc _) (by omega), ((H6.out.2.2.2.2.2.below (ai _ _)).other (dG ag) (fun b hb e => by have := hb.1; simp at e; omega)).mono (fun b hb => ⟨hb.1, fun e => by have := hb.2; simp [Value.ownBlock] at e; omega⟩), by rw [ag.2.2.1]; have := H6.out.2.2.2.2.1; simp; omega⟩; have hb3 := (ag.other (H6.out.2.2.1.alloc _) (by omega)).cell (j := 2) rfl; clear ag))
  go_loopg [27] m (fun g EW wr => ∃ (i : Nat) (cur : List Rx), i + g = m /\ EW = .int .i64 (i : Int) /\ Hid (cur.length = m /\ (∀ j, j < i -> av cur j = av r.kids j) /\ (ae wr (w.heap.size + 1 + 1) (zV K A5 n c5 (pt w6.heap.size) m m) 25 /\ aD (fun b => w.heap.size + 1 + 1 + 1 <= b) (w.heap.size + 1 + 1 + 1) (.slice (pt w6.heap.size) m m) cur wr /\ Bw w wr /\ ae wr (w.heap.size + 1) zL 25 /\ ak (fun b => (fun b => w.heap.size + 1 + 1 + 1 <= b) b /\ some b ≠ Value.ownBlock (.slice (pt w6.heap.size) m m)) wr (.mk K r.syms []) A5 n c5 none 0 0 /\ w.heap.size + 1 + 1 + 1 <= wr.heap.size)))
  case atStart => exact ⟨0, List.replicate m (.mk 0 [] []), by omega, rfl, Lh ⟨by simp, fun j hj => by omega, H7.out⟩⟩
  case round =>
    obtain ⟨i, cur, hi, rfl, HI⟩ := hrel
    by_cases hlt : i < m
    ·obtain ⟨gg, rfl⟩ : ∃ g, gk = g + 1 := ⟨gk - 1, by omega⟩;have hlen := HX.out.1.mlen;obtain ⟨b, o, rfl⟩ := HX.out.1.toP.kids.1.place (by omega);obtain ⟨A2, n2, c2, B2, m2, d2, hrg, ax⟩ := HX.out.1.toP.kids.1.kid (i := i) (by omega);have hrg2 := iW hrg HI.out.2.2.2.2.1;obtain ⟨Kk, iQ⟩ := eX ((av r.kids i).kind);rw [<- iQ] at hrg2;have aP := Lh hrg2;have bY := gU (ks := r.kids) (i := i) (by omega);have HK := LH (Ci (av r.kids i) /\ Kk = (av r.kids i).kind /\ aI w (av r.kids i) A2 n2 c2 B2 m2 d2) ⟨dH.out _ bY, iQ, ax.o⟩;have fJ := LH (w.heap.size + 1 + 1 + 1 <= w6.heap.size /\ w6.heap.size < wr.heap.size) ⟨H6.out.2.2.2.2.1, by
      obtain ⟨B9, d9, e8, _, _, _, h9⟩ := HI.out.2.2.2.1.e;obtain ⟨g9, e9, _, h8⟩ := h9 (List.ne_nil_of_length_pos (by have := HI.out.1; omega));rw [Value.slice.injEq] at e8;rw [<- e8.1] at e9;simp at e9; omega⟩
     clear hlen hrg ax hrg2 iQ bY
     go_wp2_with (first
      |(refine aG rfl (.tmp 30) rfl b (o + i * 3) rfl Kk A2 B2 n2 c2 m2 d2 aP.out ?_)
      |(refine wB rfl 25 (.tmp 5) (.tmp 31) rfl wr.heap.size 0 rfl (zV Kk A2 n2 c2 B2 m2 d2) rfl (ae.new' wr zL _ 25 rfl) 3 au ?_; intro w4 ag; have aA := LH (ae w4 wr.heap.size (zV Kk A2 n2 c2 B2 m2 d2) 25 /\ Bw wr w4) (dC ag); clear ag; have jo := LH ((fun w' : World => w'.cell? ⟨w.heap.size + 1 + 1, 2, none⟩ = some (.slice (pt w6.heap.size) m m) /\ w'.rangeAt wr.heap.size 0 (zV Kk A2 n2 c2 B2 m2 d2)) w4.drew) ⟨(HI.out.2.2.1.below aA.out.2 HI.out.2.2.1.lt).cell rfl, aS aA.out.1⟩; have gF := LH (Bw w w4.drew) (ah HI.out.2.2.2.2.1 (below_drewN aA.out.2 1))))
     refine wp_region_held_drew (S := fun w' => w'.cell? ⟨w.heap.size + 1 + 1, 2, none⟩ = some (.slice (pt w6.heap.size) m m) /\ w'.rangeAt wr.heap.size 0 (zV Kk A2 n2 c2 B2 m2 d2)) (by kernel_rfl) (jo.out) (fun cO => ?_);refine aL 0 ?_;refine aL 1 ?_;refine aL 2 ?_;refine wX 3 rfl (yieldsIf_load_mid (by rfl) _ _ rfl _ _ rfl _ _ (fun w h => h.2) Tryz.underlying25 rfl au) ?_;refine wpAnyH_ready (rs := [4]) (by kernel_rfl) (by simp) ?_;refine wA rfl (fun K hK => ?_) AllReadyH.nil
     go_simp;go_at_call 50;refine (Rj HK.out.2.1 HK.out.1 (HK.out.2.2.below gF.out)).mono ?_;rintro e w8 hp;obtain ⟨A8, n8, c8, B8, m8, d8, rfl, h8, aK⟩ := dV hp;obtain ⟨K8, aX⟩ := eX ((av r.kids i).kind);rw [<- aX];have H8 := LH (Bw w4 w8 /\ Bw wr w8 /\ ak (fun b => (fun b => w.heap.size + 1 + 1 + 1 <= b) b /\ some b ≠ some w6.heap.size) w8 (av r.kids i) A8 n8 c8 B8 m8 d8 /\ K8 = (av r.kids i).kind) ⟨ah (below_drewN (Below.refl w4.heap.size w4) 1) aK, ah (below_drewN aA.out.2 1) aK, h8.mono (fun b hb => by
      rcases hb with hb | hb
      ·exact hb.elim
      ·have h1 := fJ.out;have h3 : w4.heap.size <= b := hb;have h2 := aA.out.2.size;exact ⟨by omega, fun e => by simp at e; omega⟩), aX⟩
     clear hp h8 aK aX;refine hK.out _ _ ⟨(HI.out.2.2.1.below H8.out.2.1 HI.out.2.2.1.lt).cell rfl, aS (aA.out.1.below H8.out.1 aA.out.1.lt)⟩ (fun hS1 => ?_);clear hK  cO;(try simp only [Act.put, pP]);refine wpAnyH_take (i := 5) (oi := { dst := some 37, op := Op.indexAddr 23 (Operand.tmp 33) (Operand.tmp 34), type := 0, pos := "regex.go:84", after := #[{ on := 1, ground := Ground.data }, { on := 2, ground := Ground.data }, { on := 0, ground := Ground.phase }, { on := 1, ground := Ground.phase }, { on := 2, ground := Ground.phase }, { on := 3, ground := Ground.phase }, { on := 4, ground := Ground.phase }], guard := none }) (v := ?_) rfl (by kernel_rfl) (by kernel_rfl) (by kernel_rfl) (fun _ _ _ h => h) (Or.inl ⟨by rfl, ?_⟩) (by assumption) ?_
     rotate_left
     ·(rintro w' ⟨h1, h2⟩; go_simp; try with_reducible rfl)
     (try simp only [Act.put, pP]);refine wpAnyH_ready (rs := [6]) (by kernel_rfl) (by simp) ?_;refine AllReadyH.cons (o := ⟨none, .store 25 (.tmp 37) (.tmp 36), 0, _, _, none⟩) rfl (fun K hK => ?_) AllReadyH.nil
     refine IR rfl (.tmp 37) (.tmp 36) rfl (HI.out.2.2.2.1.below H8.out.2.1) HI.out.1.symm hlt rfl (av r.kids i) K8 H8.out.2.2.2 A8 B8 n8 c8 m8 d8 rfl H8.out.2.2.1.q ?_;intro w9 iR;have H9 := LH (aD (fun b => w.heap.size + 1 + 1 + 1 <= b) (w.heap.size + 1 + 1 + 1) (.slice (pt w6.heap.size) m m) (cur.set i (av r.kids i)) w9 /\ w8.grownBy w9 (some w6.heap.size)) iR;clear iR;refine hK.out _ _ ⟨(((HI.out.2.2.1.below H8.out.2.1 HI.out.2.2.1.lt).grown H9.out.2 (fun e => by have := fJ.out; simp at e; omega)).cell rfl), aS ((aA.out.1.below H8.out.1 aA.out.1.lt).grown H9.out.2 (fun e => by have := fJ.out; simp at e; omega))⟩ (fun dh => ?_);clear hK hS1;(try simp only [Act.put, pP]);refine wpAnyH_done (by kernel_rfl) ?_ _;go_wp2_with fail
     go_roundg gg
     case rel => exact ⟨i + 1, cur.set i (av r.kids i), by omega, by go_num, Lh ⟨by rw [List.length_set]; exact HI.out.1, fun j hj => by
      by_cases e : j = i
      ·subst e; exact Cq (by rw [HI.out.1]; exact hlt)
      ·rw [zA e]; exact HI.out.2.1 j (by omega), (HI.out.2.2.1.below H8.out.2.1 HI.out.2.2.1.lt).grown H9.out.2 (fun e => by have := fJ.out; simp at e; omega), H9.out.1, eH (ah HI.out.2.2.2.2.1 H8.out.2.1) H9.out.2 (fun g hg => by simp at hg; have := fJ.out; omega), (HI.out.2.2.2.2.2.1.below H8.out.2.1 HI.out.2.2.2.2.2.1.lt).grown H9.out.2 (fun e => by have := fJ.out; simp at e; omega), ((HI.out.2.2.2.2.2.2.1.below H8.out.2.1).other H9.out.2 (fun b hb => hb.2)), Nat.le_trans (Nat.le_trans HI.out.2.2.2.2.2.2.2 H8.out.2.1.size) H9.out.2.size⟩⟩
     case measure => omega
    ·obtain rfl : m = i := by omega
     have bO := aS HI.out.2.2.1
     go_wp2_with (first
      |(refine aG rfl (.tmp 3) rfl (w.heap.size + 1 + 1) (0) rfl K A5 (pt w6.heap.size) n c5 m m bO ?_)
      |(refine wB rfl 25 (.tmp 2) (.tmp 39) rfl (w.heap.size + 1) 0 rfl (zV K A5 n c5 (pt w6.heap.size) m m) rfl HI.out.2.2.2.2.2.1 3 au ?_; intro w9 ag; have aB := LH (ae w9 (w.heap.size + 1) (zV K A5 n c5 (pt w6.heap.size) m m) 25 /\ Bw w w9 /\ aD (fun b => w.heap.size + 1 + 1 + 1 <= b) (w.heap.size + 1 + 1 + 1) (.slice (pt w6.heap.size) m m) cur w9 /\ ak (fun b => w.heap.size + 1 + 1 + 1 <= b) w9 (.mk K r.syms []) A5 n c5 none 0 0) ⟨ag.1, ag.below HI.out.2.2.2.2.1 (by omega), HI.out.2.2.2.1.other (dG ag) (fun b hb => by omega) (by omega), (HI.out.2.2.2.2.2.2.1.other (dG ag) (fun b hb e => by have := hb.1; simp at e; omega)).mono (fun b hb => hb.1)⟩; clear ag))
     exact cK rfl (w.heap.size + 1) rfl (C := (zV K A5 n c5 (pt w6.heap.size) m m)) (T := 25) aB.out.1 _ Tryz.underlying25 rfl au rfl (by
      have e : cur = r.kids := CB (HI.out.1.trans HX.out.1.mlen) fun j hj => HI.out.2.1 j (by rw [HX.out.1.mlen]; exact hj)
      have h1 := CL aB.out.2.2.2 aB.out.2.2.1 (fun b h => h) rfl;rw [e, HX.out.2.1, show Rx.mk r.kind r.syms r.kids = r by cases r; rfl] at h1;refine ⟨A5, n, c5, (pt w6.heap.size), m, m, ?_, h1.mono (fun b hb => .inr (by omega)), aB.out.2.1⟩;rw [HX.out.2.1])
theorem ME : ∀ (z : Nat) (r : Rx), SizeOf.sizeOf r <= z -> aC r = true -> az r <= 1000000000000 -> Ci r
 |0, r, hz, hv, hc => by cases r; simp at hz
 |z + 1, r, hz, hv, hc => UK r hv hc fun x hx => ME z x (by have := jZ hx; omega) (jL hv x hx) (by have h1 := fP r; have h2 := xI hx; omega)
section
open Go.RowKit
open Alp
open Rgx
open Go.Sort
theorem S9 {q0 : Nat -> Prop} (base : Nat) (v : Value) (ks : List Rx) (w : World) (h : aD q0 base v ks w) (hn : ks.length <= 1000000000000) : Calls Tryz.prog 88 #[v] w fun e w' => e = .returned (.tuple #[]) /\ aD q0 base v ks.reverse w' /\ w.grownBy w' v.ownBlock := by
 obtain ⟨xs, hC, hO⟩ := id h;have none : ∀ (A : Option Addr) (c : Nat), v = .slice A 0 c -> ks = [] -> Cz 88 #[v] w fun e w' => e = .returned (.tuple #[]) /\ aD q0 base v ks.reverse w' /\ w.grownBy w' v.ownBlock := fun A c hv hk => by
  have h1 := AnyQ.slices_Reverse_empty (P := Tryz.prog) (ρ := KE) Tryz.reverseRx A c w;rw [hv];refine Calls.mono h1 ?_;rintro e w' ⟨he, rfl⟩;subst hk;rw [hv] at h;exact ⟨he, h, World.grownBy.refl _ _⟩
 rcases hO.2 with ⟨hv, h0⟩ | ⟨g, cap, cur, hv, hbg, hg, jd, hcm, hcs, EF⟩
 ·exact none _ _ hv (List.eq_nil_of_length_eq_zero h0)
 ·have GM : g < w.heap.size := (Array.getElem?_eq_some_iff.1 hg).1;subst hv;have hC1 : aM (fun b => (q0 b /\ some b ≠ some g) /\ b < w.heap.size) w xs ks := hC.lt;obtain ⟨d, kD, wV, hd3⟩ := OI hC1;have nK := FQ d;rw [hd3] at nK;have hH : HoldsK dA 3 w g 0 d := fun j hj => by
   have yE : j < ks.length * 3 := by simpa [kD] using hj
   have h1 := hO.cellAt j yE;rw [Nat.zero_add];refine ⟨?_, hO.frozenAt j⟩;rw [h1, getElem!_pos _ _ (by simpa using hj), <- nK];simp at hj;simp [hj]
  have hs := AnyQ.slices_Reverse (P := Tryz.prog) (ρ := KE) Tryz.reverseRx 3 (fun _ => by kernel_rfl) (fun _ => by kernel_rfl) dA (fun _ => rfl) (fun x u hu => by
   simp only [dA, List.mem_cons, List.not_mem_nil, or_false] at hu;have tX := x.ok.one
   rcases hu with rfl | rfl | rfl
   ·rfl
   ·exact tX.1
   ·exact tX.2) g 0 cap d w hH (by rw [kD]; omega)
  rw [kD] at hs;refine Calls.mono hs ?_;rintro e w' ⟨he, q, hw'⟩;have hw2 : w' = sortWorldK dA 3 w g 0 q d.reverse #[] := by
   rw [hw']; unfold sortWorldK grow; simp
  clear hw';subst hw2;obtain ⟨d', hd'⟩ := eX d.reverse;rw [<- hd'];obtain ⟨os, hos⟩ : ∃ os : Array Obj, os = #[] := ⟨_, rfl⟩;rw [<- hos];have hsz : d'.size = ks.length := by rw [hd']; simpa using kD
  have hrv : d'.toList.map (·.r) = ks.reverse := by rw [hd', <- wV]; simp
  have hC' : aM (fun b => q0 b /\ some b ≠ some g) (sortWorldK dA 3 w g 0 q d' os) (d'.toList.flatMap dA) (d'.toList.map (·.r)) := by
   have H : ∀ l : List (El (fun b => (q0 b /\ some b ≠ some g) /\ b < w.heap.size) w), aM (fun b => q0 b /\ some b ≠ some g) (sortWorldK dA 3 w g 0 q d' os) (l.flatMap dA) (l.map (·.r)) := by
    intro l
    induction l with
    |nil => exact aM.nil _ _
    |cons z l ih =>
     rw [List.flatMap_cons, List.map_cons];have hz := aY.keep (W := sortWorldK dA 3 w g 0 q d' os) (fun b o hp => Ii dA hp.2 (fun e => hp.1.2 (by rw [e]))) _ z.ok;exact (aM.one (aY.mono (fun b hb => hb.1) _ hz)).app ih
   exact H d'.toList
  have hgW : (sortWorldK dA 3 w g 0 q d' os).heap[g]? = some (.cells (putCells id 0 (flatK dA 3 d') cur) 25 (0, 0)) := by
   unfold sortWorldK;show ((putRowK dA 3 (Sort.ahead w q) g 0 d').heap ++ os)[g]? = _;rw [Array.getElem?_append_left (by rw [size_putRowK]; exact GM)];show ((Sort.ahead w q).heap.modify g (onCells (putCells id 0 (flatK dA 3 d'))))[g]? = _;rw [Array.getElem?_modify, if_pos rfl];show Option.map _ w.heap[g]? = _;rw [hg]
   rfl
  refine ⟨he, ⟨_, by rw [show (Value.slice (some ⟨g, 0, Option.none⟩) ks.length cap).ownBlock = some g from rfl]; rw [<- hrv]; exact hC', ?_, .inr ⟨g, cap, _, by simp, hbg, hgW, by simpa using jd, hcm, by simp [putCells, hcs], ?_⟩⟩, ?_⟩
  ·rw [hC'.1, hrv]
  ·have hl : (flatK dA 3 d').toList = d'.toList.flatMap dA := FQ d';rw [<- hl]
   apply List.ext_getElem
   ·simp [putCells, hcs, hsz];rw [Nat.min_eq_left jd]
   ·intro i h1 h2;have h2' : i < d'.size * 3 := by simpa using h2
    simp [putCells, h2']
  ·rw [show (Value.slice (some ⟨g, 0, Option.none⟩) ks.length cap).ownBlock = some g from rfl];refine ⟨rfl, rfl, rfl, by unfold sortWorldK; rw [size_grow, size_putRowK]; exact Nat.le_add_right _ _, fun k hk hne => ?_⟩;unfold sortWorldK;show ((putRowK dA 3 (Sort.ahead w q) g 0 d').heap ++ os)[k]? = _;rw [Array.getElem?_append_left (by rw [size_putRowK]; exact hk)];show ((Sort.ahead w q).heap.modify g (onCells (putCells id 0 (flatK dA 3 d'))))[k]? = _;rw [Array.getElem?_modify, if_neg (fun e => hne (by rw [e]))]
   rfl
end
namespace Rgx
mutual
def bC : Rx -> Rx
 |.mk k s ks => .mk k s (if k = 3 then (zK ks).reverse else zK ks)
def zK : List Rx -> List Rx
 |[] => []
 |r :: rs => bC r :: zK rs
end
theorem NA : ∀ ks : List Rx, zK ks = ks.map bC
 |[] => by rw [zK]; rfl
 |r :: rs => by rw [zK, NA rs]; rfl
theorem uu (r : Rx) : bC r = .mk r.kind r.syms (if r.kind = 3 then (r.kids.map bC).reverse else r.kids.map bC) := by
 cases r with
 |mk k s ks => rw [bC, NA]; rfl
theorem LX {r x : Rx} : x ∈ (bC r).kids ↔ ∃ y ∈ r.kids, bC y = x := by
 rw [uu];show x ∈ (if r.kind = 3 then (r.kids.map bC).reverse else r.kids.map bC) ↔ _
 split <;> simp
theorem QN (r : Rx) : (bC r).kids.length = r.kids.length := by
 rw [uu];show (if r.kind = 3 then (r.kids.map bC).reverse else r.kids.map bC).length = _
 split <;> simp
theorem GH (r : Rx) : (bC r).kind = r.kind := by rw [uu]; rfl
theorem TB (r : Rx) : (bC r).syms = r.syms := by rw [uu]; rfl
theorem Ml : ∀ (z : Nat) (r : Rx), SizeOf.sizeOf r <= z -> aC (bC r) = aC r
 |0, r, h => by cases r; simp at h
 |z + 1, r, h => by
  have ih : ∀ x ∈ r.kids, aC (bC x) = aC x := fun x hx => Ml z x (by have := jZ hx; omega)
  rw [mF (bC r), mF r, GH, TB, QN];have e : (bC r).kids.all aC = r.kids.all aC := by
   rw [Bool.eq_iff_iff, List.all_eq_true, List.all_eq_true];constructor
   ·intro h2 y hy;rw [<- ih y hy];exact h2 _ (LX.2 ⟨y, hy, rfl⟩)
   ·intro h2 x hx;obtain ⟨y, hy, rfl⟩ := LX.1 hx;rw [ih y hy];exact h2 y hy
  rw [e]
theorem MZ (r : Rx) : aC (bC r) = aC r := Ml _ r (Nat.le_refl _)
theorem Ld : ∀ l : List Rx, aj l.reverse = aj l
 |[] => rfl
 |x :: t => by rw [List.reverse_cons, lJ, Ld t]; simp only [aj]; omega
theorem I9 {f : Rx -> Rx} : ∀ {l : List Rx}, (∀ x ∈ l, az (f x) = az x) -> aj (l.map f) = aj l
 |[], _ => rfl
 |x :: t, h => by
  rw [List.map_cons];simp only [aj];rw [h x (by simp), I9 fun y hy => h y (by simp [hy])]
theorem OJ : ∀ (z : Nat) (r : Rx), SizeOf.sizeOf r <= z -> az (bC r) = az r
 |0, r, h => by cases r; simp at h
 |z + 1, r, h => by
  have ih : ∀ x ∈ r.kids, az (bC x) = az x := fun x hx => OJ z x (by have := jZ hx; omega)
  rw [fP, fP, uu];show 1 + aj (if r.kind = 3 then (r.kids.map bC).reverse else r.kids.map bC) = _
  split
  ·rw [Ld, I9 ih]
  ·rw [I9 ih]
theorem TM (r : Rx) : az (bC r) = az r := OJ _ r (Nat.le_refl _)
theorem We {r : Rx} (hv : aC r = true) : normR false (bC r) = normR true r := by
 induction r using Rx.ind with
 |h r ih0 =>
  have ih : ∀ x ∈ r.kids, normR false (bC x) = normR true x := fun x hx => ih0 x hx (jL hv x hx)
  rw [lH false, lH true, GH]
  by_cases h3 : r.kind = 3
  ·rw [if_pos h3, if_pos h3];have e3 : (bC r).kids.map (normR false) = (r.kids.map (normR true)).reverse := by
    rw [uu];show (if r.kind = 3 then (r.kids.map bC).reverse else r.kids.map bC).map _ = _;rw [if_pos h3, List.map_reverse, List.map_map]
    congr 1
    exact List.map_congr_left fun x hx => ih x hx
   rw [e3]; rfl
  ·have e : (bC r).kids.map (normR false) = r.kids.map (normR true) := by
    rw [uu];show (if r.kind = 3 then (r.kids.map bC).reverse else r.kids.map bC).map _ = _;rw [if_neg h3, List.map_map];exact List.map_congr_left fun x hx => ih x hx
   rw [if_neg h3, if_neg h3, e]
   by_cases h4 : r.kind = 4
   ·rw [if_pos h4, if_pos h4]
   ·rw [if_neg h4, if_neg h4]
    by_cases h5 : r.kind = 5
    ·rw [if_pos h5, if_pos h5]
    ·rw [if_neg h5, if_neg h5]
     rcases kw hv with rfl | rfl | ⟨s, rfl, _⟩ | ⟨ks, rfl, _⟩ | ⟨ks, rfl, _⟩ | ⟨x, rfl, _⟩ <;> first | rfl | exact absurd rfl h3 | exact absurd rfl h4 | exact absurd rfl h5
end Rgx
def zI (x : Rx) : Prop := ∀ (p : Nat -> Prop) (w : World) (A B : Option Addr) (n c m d : Nat), (∀ b, p b -> b < w.heap.size) -> ak p w x A n c B m d -> Calls Tryz.prog 53 #[.agg #[.int .i64 x.kind, .slice A n c, .slice B m d]] w (dB p w (bC x))
theorem LC {p : Nat -> Prop} {w : World} {x : Rx} {K : Int} {A B : Option Addr} {n c m d : Nat} (hK : K = x.kind) (h : zI x) (hp : ∀ b, p b -> b < w.heap.size) (hx : ak p w x A n c B m d) : Calls Tryz.prog 53 #[.agg #[.int .i64 K, .slice A n c, .slice B m d]] w (dB p w (bC x)) := by
 subst hK;exact h p w A B n c m d hp hx
theorem MK {q : Nat -> Prop} {base m g : Nat} {w : World} (hg : g = w.heap.size) (hb : base <= w.heap.size) (hm : m <= maxLen) : aD q base (.slice (pt g) m m) (List.replicate m (.mk 0 [] [])) (w.alloc (.cells (madeCells #[.int .i64 0, .slice none 0 0, .slice none 0 0] (m * 3)) 25)) := by
 subst hg;exact OC q base m w hb hm
theorem MW {p : Nat -> Prop} {w : World} {r : Rx} {A B : Option Addr} {n c m d : Nat} (h : ak p w r A n c B m d) : ak p w (.mk r.kind r.syms []) A n c none 0 0 := by
 obtain ⟨⟨g1, g2⟩, ⟨A', n', c', e, g3, g4, g5, g6, g7⟩, _⟩ := (aY.iff _ _ _ _ _).1 h.q;rw [Value.slice.injEq] at e;obtain ⟨rfl, rfl, rfl⟩ := e;exact ak.make g1 g2 g3 g4 g5 g6 g7 rfl (Nat.le_refl _) (Nat.zero_le _) (fun i hi => absurd hi (by simp)) fun h => absurd rfl h
theorem RZ (r : Rx) (hcm : az r <= 1000000000000) (ih : ∀ x ∈ r.kids, zI x) : zI r := by
 intro p w A B n c m d hpb hop;obtain ⟨K, hK⟩ := eX r.kind;have hm : m <= 1000000000000 := by
  have h1 := fP r;have h2 := mW r.kids;rw [hop.o.mlen]; omega
 have HX := LH (ak p w r A n c B m d /\ K = r.kind /\ m <= 1000000000000) ⟨hop, hK, hm⟩;have HP := Lh hpb;have dH := Lh ih;have iA := hop.o.mcap;have fG := hop.o.dmax;have H1 := LH (aD (fun b => p b \/ w.heap.size + 1 + 1 <= b) (w.heap.size + 1 + 1) (.slice (pt (w.heap.size + 1 + 1)) m m) (List.replicate m (.mk 0 [] [])) (((w.alloc (zC K A n c B m d)).alloc zR).alloc (.cells (madeCells #[.int .i64 0, .slice none 0 0, .slice none 0 0] (m * 3)) 25)) /\ Bw w (((w.alloc (zC K A n c B m d)).alloc zR).alloc (.cells (madeCells #[.int .i64 0, .slice none 0 0, .slice none 0 0] (m * 3)) 25)) /\ ae (((w.alloc (zC K A n c B m d)).alloc zR).alloc (.cells (madeCells #[.int .i64 0, .slice none 0 0, .slice none 0 0] (m * 3)) 25)) w.heap.size (zV K A n c B m d) 25 /\ ae (((w.alloc (zC K A n c B m d)).alloc zR).alloc (.cells (madeCells #[.int .i64 0, .slice none 0 0, .slice none 0 0] (m * 3)) 25)) (w.heap.size + 1) zL 25 /\ w.heap.size + 1 + 1 < (((w.alloc (zC K A n c B m d)).alloc zR).alloc (.cells (madeCells #[.int .i64 0, .slice none 0 0, .slice none 0 0] (m * 3)) 25)).heap.size) ⟨MK (by simp) (by simp) (by unfold maxLen; omega), aF (aF (ai _ _) _) _, ((ae.at w (zV K A n c B m d) _ 25 _ rfl rfl).alloc _).alloc _, (ae.at (w.alloc (zC K A n c B m d)) zL _ 25 _ rfl (by simp)).alloc _, by simp⟩
 have wE := Jj m (by omega);rw [<- hK]
 by_cases k3 : K = 3
 ·have ma := LH (r.kind = 3) (hK.symm.trans k3);have ab : (K == 3) = true := bT (by omega);clear hop hK hcm ih hpb k3 hm;go_enter Tryz.func53, Tryz.ntmps53;go_wp2_with fail
  go_loopg [13] m (fun g pX wr => ∃ (i : Nat) (cur : List Rx), i + g = m /\ pX = .int .i64 (i : Int) /\ Hid (cur.length = m /\ (∀ j, j < i -> av cur j = bC (av r.kids j)) /\ (aD (fun b => p b \/ w.heap.size + 1 + 1 <= b) (w.heap.size + 1 + 1) (.slice (pt (w.heap.size + 1 + 1)) m m) cur wr /\ Bw w wr /\ ae wr w.heap.size (zV K A n c B m d) 25 /\ ae wr (w.heap.size + 1) zL 25 /\ w.heap.size + 1 + 1 < wr.heap.size)))
  case atStart => exact ⟨0, List.replicate m (.mk 0 [] []), by omega, rfl, Lh ⟨by simp, fun j hj => by omega, H1.out⟩⟩
  case round =>
   obtain ⟨i, cur, hi, rfl, HI⟩ := hrel
   by_cases hlt : i < m
   ·obtain ⟨gg, rfl⟩ : ∃ g, gk = g + 1 := ⟨gk - 1, by omega⟩;have hlen := HX.out.1.o.mlen;obtain ⟨b, o, rfl⟩ := HX.out.1.kids.1.place (by omega);obtain ⟨A2, n2, c2, B2, m2, d2, hrg, ax⟩ := HX.out.1.kids.1.kid (i := i) (by omega);have hrg2 := iW hrg HI.out.2.2.2.1;obtain ⟨Kk, iQ⟩ := eX ((av r.kids i).kind);rw [<- iQ] at hrg2;have aP := Lh hrg2;have bY := gU (ks := r.kids) (i := i) (by omega);have HK := LH (zI (av r.kids i) /\ Kk = (av r.kids i).kind /\ ak p w (av r.kids i) A2 n2 c2 B2 m2 d2) ⟨dH.out _ bY, iQ, ax⟩;have wJ := LH (w.heap.size + 1 + 1 < wr.heap.size) HI.out.2.2.2.2.2.2;clear hlen hrg ax hrg2 iQ bY
    go_wp2_with (first
     | (refine aG rfl (.tmp 16) rfl b (o + i * 3) rfl Kk A2 B2 n2 c2 m2 d2 aP.out ?_)
     | (refine wB rfl 25 (.tmp 5) (.tmp 17) rfl wr.heap.size 0 rfl (zV Kk A2 n2 c2 B2 m2 d2) rfl (ae.new' wr zL _ 25 rfl) 3 au ?_; intro w4 ag; have aA := LH (ae w4 wr.heap.size (zV Kk A2 n2 c2 B2 m2 d2) 25 /\ Bw wr w4) (dC ag); clear ag; have jb := aS aA.out.1)
     | (refine aG rfl (.tmp 5) rfl wr.heap.size (0) rfl Kk A2 B2 n2 c2 m2 d2 jb ?_)
     | ((with_reducible refine (LC HK.out.2.1 HK.out.1 (fun b hb => by have h1 := HP.out b hb; have h2 := wJ.out; have h3 := aA.out.2.size; omega) (HK.out.2.2.below (ah HI.out.2.2.2.1 aA.out.2))).mono ?_); rintro e w8 hp; obtain ⟨A8, n8, c8, B8, m8, d8, rfl, h8, aK⟩ := dV hp; obtain ⟨K8, aX⟩ := eX ((bC (av r.kids i)).kind); rw [<- aX]; have H8 := LH (Bw wr w8 /\ ak (fun b => (fun b => p b \/ w.heap.size + 1 + 1 <= b) b /\ some b ≠ some (w.heap.size + 1 + 1)) w8 (bC (av r.kids i)) A8 n8 c8 B8 m8 d8 /\ K8 = (bC (av r.kids i)).kind) ⟨ah aA.out.2 aK, h8.mono (fun b hb => by
         rcases hb with hb | hb
         ·have h1 := HP.out b hb;exact ⟨.inl hb, fun e => by simp at e; omega⟩
         ·have h1 := wJ.out;have h2 := aA.out.2.size;exact ⟨.inr (by omega), fun e => by simp at e; omega⟩), aX⟩; clear hp h8 aK aX)
     | (refine xx rfl (.tmp 22) (.tmp 21) rfl (HI.out.2.2.1.below H8.out.1) HI.out.1.symm hlt rfl (bC (av r.kids i)) K8 H8.out.2.2 A8 B8 n8 c8 m8 d8 rfl H8.out.2.1.q ?_; intro w9 iR; have H9 := LH (aD (fun b => p b \/ w.heap.size + 1 + 1 <= b) (w.heap.size + 1 + 1) (.slice (pt (w.heap.size + 1 + 1)) m m) (cur.set i (bC (av r.kids i))) w9 /\ w8.grownBy w9 (some (w.heap.size + 1 + 1))) iR; clear iR))
    go_roundg gg
    case rel => exact ⟨i + 1, cur.set i (bC (av r.kids i)), by omega, by go_num, Lh ⟨by rw [List.length_set]; exact HI.out.1, fun j hj => by
     by_cases e : j = i
     · subst e; exact Cq (by rw [HI.out.1]; exact hlt)
     · rw [zA e]; exact HI.out.2.1 j (by omega), H9.out.1, eH (ah HI.out.2.2.2.1 H8.out.1) H9.out.2 (fun g hg => by simp at hg; omega), (HI.out.2.2.2.2.1.below H8.out.1 HI.out.2.2.2.2.1.lt).grown H9.out.2 (fun e => by simp at e; omega), (HI.out.2.2.2.2.2.1.below H8.out.1 HI.out.2.2.2.2.2.1.lt).grown H9.out.2 (fun e => by simp at e), Nat.lt_of_lt_of_le (Nat.lt_of_lt_of_le HI.out.2.2.2.2.2.2 H8.out.1.size) H9.out.2.size⟩⟩
    case measure => omega
   ·obtain rfl : m = i := by omega
    have HE := Lh HI.out.2.2;have wK := LH (cur.length = m /\ cur = r.kids.map bC) ⟨HI.out.1, CB (by rw [List.length_map]; exact HI.out.1.trans HX.out.1.o.mlen) fun j hj => by
     rw [List.length_map] at hj;rw [HI.out.2.1 j (by rw [HX.out.1.o.mlen]; exact hj), gI hj, gI (by simpa using hj), List.getElem_map]⟩
    have hb0 := HE.out.2.2.1.cell (j := 0) rfl;have hb1 := HE.out.2.2.1.cell (j := 1) rfl
    go_wp2_with (first
    |((with_reducible refine (S9 (w.heap.size + 1 + 1) _ cur wr HE.out.1 (by have := HX.out.2.2; have := wK.out.1; omega)).mono ?_); rintro e w8 ⟨rfl, kM, hgr⟩; have H8 := LH (aD (fun b => p b \/ w.heap.size + 1 + 1 <= b) (w.heap.size + 1 + 1) (.slice (pt (w.heap.size + 1 + 1)) m m) cur.reverse w8 /\ Bw w w8 /\ ae w8 w.heap.size (zV K A n c B m d) 25 /\ ae w8 (w.heap.size + 1) zL 25 /\ w.heap.size + 1 + 1 < w8.heap.size) ⟨kM, eH HE.out.2.1 hgr (fun g hg => by simp [Value.ownBlock] at hg; omega), HE.out.2.2.1.grown hgr (by simp [Value.ownBlock]; omega), HE.out.2.2.2.1.grown hgr (by simp [Value.ownBlock]), Nat.lt_of_lt_of_le HE.out.2.2.2.2 hgr.size⟩; have hb08 := H8.out.2.2.1.cell (j := 0) rfl; have hb18 := H8.out.2.2.1.cell (j := 1) rfl; clear kM hgr)
    |(refine wB rfl 25 (.tmp 2) (.tmp 34) rfl (w.heap.size + 1) 0 rfl (zV K A n c (pt (w.heap.size + 1 + 1)) m m) rfl H8.out.2.2.2.1 3 au ?_; intro w9 ag; have aB := LH (ae w9 (w.heap.size + 1) (zV K A n c (pt (w.heap.size + 1 + 1)) m m) 25 /\ Bw w w9 /\ aD (fun b => p b \/ w.heap.size + 1 + 1 <= b) (w.heap.size + 1 + 1) (.slice (pt (w.heap.size + 1 + 1)) m m) cur.reverse w9 /\ ak (fun b => p b \/ w.heap.size + 1 + 1 <= b) w9 (.mk r.kind r.syms []) A n c none 0 0) ⟨ag.1, ag.below H8.out.2.1 (by omega), H8.out.1.other (dG ag) (fun b hb => by rcases hb with hb | hb; (have := HP.out b hb; omega); omega) (by omega), (((MW HX.out.1).below H8.out.2.1).other (dG ag) (fun b hb e => by have := HP.out b hb; simp at e; omega)).mono (fun b hb => .inl hb)⟩; clear ag))
    exact cK rfl (w.heap.size + 1) rfl (C := (zV K A n c (pt (w.heap.size + 1 + 1)) m m)) (T := 25) aB.out.1 _ Tryz.underlying25 rfl au rfl (by
     have h1 := CL aB.out.2.2.2 aB.out.2.2.1 (fun b h => .inr h) rfl;have e : Rx.mk r.kind r.syms cur.reverse = bC r := by rw [uu, if_pos (ma.out), wK.out.2]
     rw [e] at h1;refine ⟨A, n, c, _, _, _, ?_, h1.mono (fun b hb => by rcases hb with hb | hb; exact .inl hb; exact .inr (by omega)), aB.out.2.1⟩;rw [GH, <- HX.out.2.1])
 ·have ma := LH (¬ r.kind = 3) (by rw [<- hK]; exact k3);have ab : (K == 3) = false := bF (by omega);clear hop hK hcm ih hpb k3 hm;go_enter Tryz.func53, Tryz.ntmps53;go_wp2_with fail
  go_loopg [13] m (fun g pX wr => ∃ (i : Nat) (cur : List Rx), i + g = m /\ pX = .int .i64 (i : Int) /\ Hid (cur.length = m /\ (∀ j, j < i -> av cur j = bC (av r.kids j)) /\ (aD (fun b => p b \/ w.heap.size + 1 + 1 <= b) (w.heap.size + 1 + 1) (.slice (pt (w.heap.size + 1 + 1)) m m) cur wr /\ Bw w wr /\ ae wr w.heap.size (zV K A n c B m d) 25 /\ ae wr (w.heap.size + 1) zL 25 /\ w.heap.size + 1 + 1 < wr.heap.size)))
  case atStart => exact ⟨0, List.replicate m (.mk 0 [] []), by omega, rfl, Lh ⟨by simp, fun j hj => by omega, H1.out⟩⟩
  case round =>
   obtain ⟨i, cur, hi, rfl, HI⟩ := hrel
   by_cases hlt : i < m
   ·obtain ⟨gg, rfl⟩ : ∃ g, gk = g + 1 := ⟨gk - 1, by omega⟩;have hlen := HX.out.1.o.mlen;obtain ⟨b, o, rfl⟩ := HX.out.1.kids.1.place (by omega);obtain ⟨A2, n2, c2, B2, m2, d2, hrg, ax⟩ := HX.out.1.kids.1.kid (i := i) (by omega);have hrg2 := iW hrg HI.out.2.2.2.1;obtain ⟨Kk, iQ⟩ := eX ((av r.kids i).kind);rw [<- iQ] at hrg2;have aP := Lh hrg2;have bY := gU (ks := r.kids) (i := i) (by omega);have HK := LH (zI (av r.kids i) /\ Kk = (av r.kids i).kind /\ ak p w (av r.kids i) A2 n2 c2 B2 m2 d2) ⟨dH.out _ bY, iQ, ax⟩;have wJ := LH (w.heap.size + 1 + 1 < wr.heap.size) HI.out.2.2.2.2.2.2;clear hlen hrg ax hrg2 iQ bY
    go_wp2_with (first
     | (refine aG rfl (.tmp 16) rfl b (o + i * 3) rfl Kk A2 B2 n2 c2 m2 d2 aP.out ?_)
     | (refine wB rfl 25 (.tmp 5) (.tmp 17) rfl wr.heap.size 0 rfl (zV Kk A2 n2 c2 B2 m2 d2) rfl (ae.new' wr zL _ 25 rfl) 3 au ?_; intro w4 ag; have aA := LH (ae w4 wr.heap.size (zV Kk A2 n2 c2 B2 m2 d2) 25 /\ Bw wr w4) (dC ag); clear ag; have jb := aS aA.out.1)
     | (refine aG rfl (.tmp 5) rfl wr.heap.size (0) rfl Kk A2 B2 n2 c2 m2 d2 jb ?_)
     | ((with_reducible refine (LC HK.out.2.1 HK.out.1 (fun b hb => by have h1 := HP.out b hb; have h2 := wJ.out; have h3 := aA.out.2.size; omega) (HK.out.2.2.below (ah HI.out.2.2.2.1 aA.out.2))).mono ?_); rintro e w8 hp; obtain ⟨A8, n8, c8, B8, m8, d8, rfl, h8, aK⟩ := dV hp; obtain ⟨K8, aX⟩ := eX ((bC (av r.kids i)).kind); rw [<- aX]; have H8 := LH (Bw wr w8 /\ ak (fun b => (fun b => p b \/ w.heap.size + 1 + 1 <= b) b /\ some b ≠ some (w.heap.size + 1 + 1)) w8 (bC (av r.kids i)) A8 n8 c8 B8 m8 d8 /\ K8 = (bC (av r.kids i)).kind) ⟨ah aA.out.2 aK, h8.mono (fun b hb => by
         rcases hb with hb | hb
         ·have h1 := HP.out b hb;exact ⟨.inl hb, fun e => by simp at e; omega⟩
         ·have h1 := wJ.out;have h2 := aA.out.2.size;exact ⟨.inr (by omega), fun e => by simp at e; omega⟩), aX⟩; clear hp h8 aK aX)
     | (refine xx rfl (.tmp 22) (.tmp 21) rfl (HI.out.2.2.1.below H8.out.1) HI.out.1.symm hlt rfl (bC (av r.kids i)) K8 H8.out.2.2 A8 B8 n8 c8 m8 d8 rfl H8.out.2.1.q ?_; intro w9 iR; have H9 := LH (aD (fun b => p b \/ w.heap.size + 1 + 1 <= b) (w.heap.size + 1 + 1) (.slice (pt (w.heap.size + 1 + 1)) m m) (cur.set i (bC (av r.kids i))) w9 /\ w8.grownBy w9 (some (w.heap.size + 1 + 1))) iR; clear iR))
    go_roundg gg
    case rel => exact ⟨i + 1, cur.set i (bC (av r.kids i)), by omega, by go_num, Lh ⟨by rw [List.length_set]; exact HI.out.1, fun j hj => by
     by_cases e : j = i
     · subst e; exact Cq (by rw [HI.out.1]; exact hlt)
     · rw [zA e]; exact HI.out.2.1 j (by omega), H9.out.1, eH (ah HI.out.2.2.2.1 H8.out.1) H9.out.2 (fun g hg => by simp at hg; omega), (HI.out.2.2.2.2.1.below H8.out.1 HI.out.2.2.2.2.1.lt).grown H9.out.2 (fun e => by simp at e; omega), (HI.out.2.2.2.2.2.1.below H8.out.1 HI.out.2.2.2.2.2.1.lt).grown H9.out.2 (fun e => by simp at e), Nat.lt_of_lt_of_le (Nat.lt_of_lt_of_le HI.out.2.2.2.2.2.2 H8.out.1.size) H9.out.2.size⟩⟩
    case measure => omega
   ·obtain rfl : m = i := by omega
    have HE := Lh HI.out.2.2;have wK := LH (cur.length = m /\ cur = r.kids.map bC) ⟨HI.out.1, CB (by rw [List.length_map]; exact HI.out.1.trans HX.out.1.o.mlen) fun j hj => by
     rw [List.length_map] at hj;rw [HI.out.2.1 j (by rw [HX.out.1.o.mlen]; exact hj), gI hj, gI (by simpa using hj), List.getElem_map]⟩
    have hb0 := HE.out.2.2.1.cell (j := 0) rfl;have hb1 := HE.out.2.2.1.cell (j := 1) rfl
    go_wp2_with (refine wB rfl 25 (.tmp 2) (.tmp 34) rfl (w.heap.size + 1) 0 rfl (zV K A n c (pt (w.heap.size + 1 + 1)) m m) rfl HE.out.2.2.2.1 3 au ?_; intro w9 ag; have aB := LH (ae w9 (w.heap.size + 1) (zV K A n c (pt (w.heap.size + 1 + 1)) m m) 25 /\ Bw w w9 /\ aD (fun b => p b \/ w.heap.size + 1 + 1 <= b) (w.heap.size + 1 + 1) (.slice (pt (w.heap.size + 1 + 1)) m m) cur w9 /\ ak (fun b => p b \/ w.heap.size + 1 + 1 <= b) w9 (.mk r.kind r.syms []) A n c none 0 0) ⟨ag.1, ag.below HE.out.2.1 (by omega), HE.out.1.other (dG ag) (fun b hb => by rcases hb with hb | hb; (have := HP.out b hb; omega); omega) (by omega), (((MW HX.out.1).below HE.out.2.1).other (dG ag) (fun b hb e => by have := HP.out b hb; simp at e; omega)).mono (fun b hb => .inl hb)⟩; clear ag)
    exact cK rfl (w.heap.size + 1) rfl (C := (zV K A n c (pt (w.heap.size + 1 + 1)) m m)) (T := 25) aB.out.1 _ Tryz.underlying25 rfl au rfl (by
     have h1 := CL aB.out.2.2.2 aB.out.2.2.1 (fun b h => .inr h) rfl;have e : Rx.mk r.kind r.syms cur = bC r := by rw [uu, if_neg (ma.out), wK.out.2]
     rw [e] at h1;refine ⟨A, n, c, _, _, _, ?_, h1.mono (fun b hb => by rcases hb with hb | hb; exact .inl hb; exact .inr (by omega)), aB.out.2.1⟩;rw [GH, <- HX.out.2.1])
theorem Mv : ∀ (z : Nat) (r : Rx), SizeOf.sizeOf r <= z -> az r <= 1000000000000 -> zI r
 |0, r, hz, hc => by cases r; simp at hz
 |z + 1, r, hz, hc => RZ r hc fun x hx => Mv z x (by have := jZ hx; omega) (by have h1 := fP r; have h2 := xI hx; omega)
end Go.Proofs.YtakcjlimbabbfaaGreatDoor
