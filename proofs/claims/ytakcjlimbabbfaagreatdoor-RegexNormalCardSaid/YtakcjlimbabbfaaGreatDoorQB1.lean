/- Part of the proof. -/
import Derived.Test.YtakcjlimbabbfaaGreatDoorQB0
set_option linter.unusedVariables false
set_option linter.unusedSimpArgs false
set_option maxRecDepth 1000000
set_option maxHeartbeats 8000000
namespace Go.Proofs.YtakcjlimbabbfaaGreatDoor
end Go.Proofs.YtakcjlimbabbfaaGreatDoor
section
namespace Go.Proofs
open Go.Shelf
def G9 : Go.Shelf.Ren := ⟨fun | 99 => 154 | 206 => 171 | n => n, fun | 9 => 9 | 4 => 4 | 3 => 3 | n => n, fun | n => n⟩
theorem Tryz.lays99 : Go.Proofs.Lays.n99 Tryz.prog G9 := {
 mixed := by kernel_rfl
 f99 := Tryz.func154.trans (congrArg some (by kernel_rfl))
 f206 := Tryz.func171.trans (congrArg some (by kernel_rfl))
 t3 := Tryz.underlying3
 a3 := Tryz.isAgg3
 z3 := Tryz.sizeOf3
 v3 := Tryz.zeroValue3
 t4 := Tryz.underlying4
 a4 := Tryz.isAgg4
 z4 := Tryz.sizeOf4
 v4 := Tryz.zeroValue4
 t9 := Tryz.underlying9
 a9 := Tryz.isAgg9
 z9 := Tryz.sizeOf9
 v9 := Tryz.zeroValue9 }
open Go.RowKit Go.Lib in
theorem Tryz.strings_HasPrefix (s p : ByteArray) (w : World) :
 Calls Tryz.prog 154 #[.string s, .string p] w fun e w' => e = .returned (.bool (Lib.hasPrefix s.data.toList p.data.toList)) /\ w' = w := Any.strings_HasPrefix Tryz.lays99 s p w
def Ha : Go.Shelf.Ren := ⟨fun | 107 => 63 | 108 => 94 | n => n, fun | 28 => 22 | 3 => 3 | 4 => 4 | 0 => 0 | n => n, fun | n => n⟩
theorem Tryz.lays107 : Go.Proofs.Lays.n107 Tryz.prog Ha := {
 mixed := by kernel_rfl
 f107 := Tryz.func63.trans (congrArg some (by kernel_rfl))
 f108 := Tryz.func94.trans (congrArg some (by kernel_rfl))
 t0 := Tryz.underlying0
 a0 := Tryz.isAgg0
 z0 := Tryz.sizeOf0
 v0 := Tryz.zeroValue0
 t3 := Tryz.underlying3
 a3 := Tryz.isAgg3
 z3 := Tryz.sizeOf3
 v3 := Tryz.zeroValue3
 t4 := Tryz.underlying4
 a4 := Tryz.isAgg4
 z4 := Tryz.sizeOf4
 v4 := Tryz.zeroValue4
 t28 := Tryz.underlying22
 a28 := Tryz.isAgg22
 z28 := Tryz.sizeOf22
 v28 := Tryz.zeroValue22 }
open Go.Lib in
theorem Tryz.slices_Contains_int (b off n c : Nat) (zs : List Int) (x : Int) (w : World) (hz : n <= zs.length) (hbig : n <= 9223372036854775807) (hc : ∀ j, j < zs.length -> w.cell? ⟨b, off + j, none⟩ = some (.int .i64 (zs.getD j 0))) :
 Calls Tryz.prog 63 #[.slice (some ⟨b, off, none⟩) n c, .int .i64 x] w fun e w' => e = .returned (.bool ((zs.take n).contains x)) /\ w' = w := Any.slices_Contains_int Tryz.lays107 b off n c zs x w hz hbig hc
open Go.Lib in
theorem Tryz.slices_Contains_int_empty (a : Option Addr) (c : Nat) (x : Int) (w : World) :
 Calls Tryz.prog 63 #[.slice a 0 c, .int .i64 x] w fun e w' => e = .returned (.bool false) /\ w' = w := Any.slices_Contains_int_empty Tryz.lays107 a c x w
def tY : Go.Shelf.Ren := ⟨fun | 6 => 119 | 15 => 142 | 14 => 141 | 28 => 167 | 29 => 168 | 20 => 159 | 21 => 160 | 22 => 161 | 23 => 162 | 24 => 163 | 25 => 164 | 26 => 165 | 27 => 166 | 46 => 174 | 47 => 175 | 48 => 176 | 49 => 177 | 50 => 178 | 57 => 180 | n => n, fun | 22 => 23 | 24 => 25 | 25 => 63 | 3 => 3 | 39 => 150 | 0 => 0 | 53 => 175 | 55 => 72 | 4 => 4 | 46 => 169 | 45 => 168 | 50 => 151 | 5 => 5 | 9 => 9 | 66 => 179 | 70 => 183 | 76 => 185 | 77 => 186 | n => n, fun | n => n⟩
theorem Tryz.sortRx : Go.Proofs.SlLaysF0.n6 Tryz.prog tY := {
 mixed := by kernel_rfl
 f6 := ⟨Tryz.f119.name, by decide, Tryz.func119.trans (congrArg some (by kernel_rfl))⟩
 f14 := ⟨Tryz.f141.name, by decide, Tryz.func141.trans (congrArg some (by kernel_rfl))⟩
 f15 := Tryz.func142.trans (congrArg some (by kernel_rfl))
 f20 := ⟨Tryz.f159.name, by decide, Tryz.func159.trans (congrArg some (by kernel_rfl))⟩
 f21 := ⟨Tryz.f160.name, by decide, Tryz.func160.trans (congrArg some (by kernel_rfl))⟩
 f22 := ⟨Tryz.f161.name, by decide, Tryz.func161.trans (congrArg some (by kernel_rfl))⟩
 f23 := ⟨Tryz.f162.name, by decide, Tryz.func162.trans (congrArg some (by kernel_rfl))⟩
 f24 := ⟨Tryz.f163.name, by decide, Tryz.func163.trans (congrArg some (by kernel_rfl))⟩
 f25 := ⟨Tryz.f164.name, by decide, Tryz.func164.trans (congrArg some (by kernel_rfl))⟩
 f26 := ⟨Tryz.f165.name, by decide, Tryz.func165.trans (congrArg some (by kernel_rfl))⟩
 f27 := ⟨Tryz.f166.name, by decide, Tryz.func166.trans (congrArg some (by kernel_rfl))⟩
 f28 := Tryz.func167.trans (congrArg some (by kernel_rfl))
 f29 := Tryz.func168.trans (congrArg some (by kernel_rfl))
 f46 := ⟨Tryz.f174.name, by decide, Tryz.func174.trans (congrArg some (by kernel_rfl))⟩
 f47 := Tryz.func175.trans (congrArg some (by kernel_rfl))
 f48 := Tryz.func176.trans (congrArg some (by kernel_rfl))
 f49 := ⟨Tryz.f177.name, by decide, Tryz.func177.trans (congrArg some (by kernel_rfl))⟩
 f50 := ⟨Tryz.f178.name, by decide, Tryz.func178.trans (congrArg some (by kernel_rfl))⟩
 f57 := ⟨Tryz.f180.name, by decide, Tryz.func180.trans (congrArg some (by kernel_rfl))⟩
 t0 := Tryz.underlying0
 a0 := Tryz.isAgg0
 z0 := Tryz.sizeOf0
 v0 := Tryz.zeroValue0
 t3 := Tryz.underlying3
 a3 := Tryz.isAgg3
 z3 := Tryz.sizeOf3
 v3 := Tryz.zeroValue3
 t4 := Tryz.underlying4
 a4 := Tryz.isAgg4
 z4 := Tryz.sizeOf4
 v4 := Tryz.zeroValue4
 t5 := Tryz.underlying5
 a5 := Tryz.isAgg5
 z5 := Tryz.sizeOf5
 v5 := Tryz.zeroValue5
 t9 := Tryz.underlying9
 a9 := Tryz.isAgg9
 z9 := Tryz.sizeOf9
 v9 := Tryz.zeroValue9
 t22 := Tryz.underlying23
 a22 := Tryz.isAgg23
 z22 := Tryz.sizeOf23
 v22 := Tryz.zeroValue23
 t25 := Tryz.underlying63
 a25 := Tryz.isAgg63
 z25 := Tryz.sizeOf63
 v25 := Tryz.zeroValue63
 t39 := Tryz.underlying150
 a39 := Tryz.isAgg150
 z39 := Tryz.sizeOf150
 v39 := Tryz.zeroValue150
 t45 := Tryz.underlying168
 a45 := Tryz.isAgg168
 z45 := Tryz.sizeOf168
 v45 := Tryz.zeroValue168
 t46 := Tryz.underlying169
 a46 := Tryz.isAgg169
 z46 := Tryz.sizeOf169
 v46 := Tryz.zeroValue169
 t50 := Tryz.underlying151
 a50 := Tryz.isAgg151
 z50 := Tryz.sizeOf151
 v50 := Tryz.zeroValue151
 t53 := Tryz.underlying175
 a53 := Tryz.isAgg175
 z53 := Tryz.sizeOf175
 v53 := Tryz.zeroValue175
 t55 := Tryz.underlying72
 a55 := Tryz.isAgg72
 z55 := Tryz.sizeOf72
 v55 := Tryz.zeroValue72
 t66 := Tryz.underlying179
 a66 := Tryz.isAgg179
 z66 := Tryz.sizeOf179
 v66 := Tryz.zeroValue179
 t70 := Tryz.underlying183
 a70 := Tryz.isAgg183
 z70 := Tryz.sizeOf183
 v70 := Tryz.zeroValue183
 t76 := Tryz.underlying185
 a76 := Tryz.isAgg185
 z76 := Tryz.sizeOf185
 v76 := Tryz.zeroValue185
 t77 := Tryz.underlying186
 a77 := Tryz.isAgg186
 z77 := Tryz.sizeOf186
 v77 := Tryz.zeroValue186 }
def tZ : Go.Shelf.Ren := ⟨fun | 35 => 88 | n => n, fun | 22 => 23 | 23 => 25 | 3 => 3 | 4 => 4 | 0 => 0 | n => n, fun | n => n⟩
theorem Tryz.reverseRx : Go.Proofs.SlLaysE0.n35 Tryz.prog tZ := {
 mixed := by kernel_rfl
 f35 := ⟨Tryz.f88.name, by decide, Tryz.func88.trans (congrArg some (by kernel_rfl))⟩
 t0 := Tryz.underlying0
 a0 := Tryz.isAgg0
 z0 := Tryz.sizeOf0
 v0 := Tryz.zeroValue0
 t3 := Tryz.underlying3
 a3 := Tryz.isAgg3
 z3 := Tryz.sizeOf3
 v3 := Tryz.zeroValue3
 t4 := Tryz.underlying4
 a4 := Tryz.isAgg4
 z4 := Tryz.sizeOf4
 v4 := Tryz.zeroValue4
 t22 := Tryz.underlying23
 a22 := Tryz.isAgg23
 z22 := Tryz.sizeOf23
 v22 := Tryz.zeroValue23 }
def tX : Go.Shelf.Ren := ⟨fun | 4 => 150 | n => n, fun | 22 => 23 | 25 => 25 | 3 => 3 | 4 => 4 | 9 => 9 | 20 => 20 | 0 => 0 | n => n, fun | n => n⟩
theorem Tryz.growRx : Go.Proofs.Lays8.n4 Tryz.prog tX := {
 mixed := by kernel_rfl
 f4 := ⟨Tryz.f150.name, by decide, Tryz.func150.trans (congrArg some (by kernel_rfl))⟩
 t0 := Tryz.underlying0
 a0 := Tryz.isAgg0
 z0 := Tryz.sizeOf0
 v0 := Tryz.zeroValue0
 t3 := Tryz.underlying3
 a3 := Tryz.isAgg3
 z3 := Tryz.sizeOf3
 v3 := Tryz.zeroValue3
 t4 := Tryz.underlying4
 a4 := Tryz.isAgg4
 z4 := Tryz.sizeOf4
 v4 := Tryz.zeroValue4
 t9 := Tryz.underlying9
 a9 := Tryz.isAgg9
 z9 := Tryz.sizeOf9
 v9 := Tryz.zeroValue9
 t20 := Tryz.underlying20
 a20 := Tryz.isAgg20
 z20 := Tryz.sizeOf20
 v20 := Tryz.zeroValue20
 t22 := Tryz.underlying23
 a22 := Tryz.isAgg23
 z22 := Tryz.sizeOf23
 v22 := Tryz.zeroValue23 }
end Go.Proofs
end
namespace Go.Proofs.YtakcjlimbabbfaaGreatDoor
section
open Go.RowKit
open Alp
open Rgx
open Go.Sort
theorem EE {W w' : World} (h : bQ W w') : ∃ q os', w' = grow (W.drewN q) os' := by
 refine ⟨0, w'.heap.extract W.heap.size w'.heap.size, ?_⟩;obtain ⟨hb, hd⟩ := h;have hh : w'.heap = W.heap ++ w'.heap.extract W.heap.size w'.heap.size := by
  apply Array.ext_getElem?
  intro k;rw [Array.getElem?_append]
  split
  ·rename_i hk
   exact hb.block k hk
  ·rename_i hk
   by_cases h2 : k < w'.heap.size
   ·rw [Array.getElem?_extract, if_pos (by omega)]
    congr 1
    omega
   ·rw [Array.getElem?_eq_none (by omega), Array.getElem?_eq_none (by simp; omega)]
 cases w' with
 |mk heap tape drawn os output =>
  cases W with
  |mk heap0 tape0 drawn0 os0 output0 =>
   have e1 := hb.os;have e2 := hb.tape;have e3 := hb.output;simp only at e1 e2 e3 hd hh;subst e1 e2 e3 hd;simp only [grow, World.drewN, Nat.add_zero];rw [<- hh]
structure El (p : Nat -> Prop) (w : World) where
 r : Rx
 v1 : Value
 v2 : Value
 ok : aP p w r v1 v2
instance (p : Nat -> Prop) (w : World) : Inhabited (El p w) := ⟨⟨.mk 0 [] [], _, _, (ai.flat p w (by constructor <;> decide)).q⟩⟩
def bq {p : Nat -> Prop} {w : World} (x : El p w) : List Value := [.int .i64 x.r.kind, x.v1, x.v2]
theorem FW {p : Nat -> Prop} {w : World} : SWO (ltOf fun x y : El p w => aW x.r y.r) where
 irrefl x := by
  show decide (aW x.r x.r < 0) = false;rw [qM]; rfl
 trans x y z h1 h2 := by
  have h1' : aW x.r y.r < 0 := of_decide_eq_true h1;have h2' : aW y.r z.r < 0 := of_decide_eq_true h2;exact dT (o6 h1' h2')
 ntrans x y z h1 h2 := by
  have h1' : ¬ aW x.r y.r < 0 := of_decide_eq_false h1;have h2' : ¬ aW y.r z.r < 0 := of_decide_eq_false h2;refine dF ?_;show ¬ aW x.r z.r < 0;intro h3
  by_cases e1 : x.r = y.r
  ·rw [e1] at h3; exact h2' h3
  ·exact h2' (o6 (qx h1' e1) h3)
theorem vW {p : Nat -> Prop} {w : World} {xs : List Value} {ks : List Rx} (h : aG p w xs ks) : ∃ d : Array (El p w), d.size = ks.length /\ d.toList.map (·.r) = ks /\ d.toList.flatMap bq = xs := by
 have H : ∀ n, n <= ks.length -> ∃ l : List (El p w), l.map (·.r) = ks.take n /\ l.flatMap bq = xs.take (n * 3) := by
  intro n
  induction n with
  |zero => intro _; exact ⟨[], rfl, by simp⟩
  |succ n ih =>
   intro hn;obtain ⟨l, h1, h2⟩ := ih (by omega);obtain ⟨v1, v2, e1, e2, e3, e4⟩ := h.2 n (by omega);refine ⟨l ++ [⟨ks[n], v1, v2, e4⟩], ?_, ?_⟩
   ·rw [List.map_append, h1, List.take_succ_eq_append_getElem (by omega)]; rfl
   ·rw [List.flatMap_append, h2, show (n + 1) * 3 = n * 3 + 1 + 1 + 1 by omega];have hx := h.1;have g1 := (List.getElem?_eq_some_iff.1 e1);have g2 := (List.getElem?_eq_some_iff.1 e2);have g3 := (List.getElem?_eq_some_iff.1 e3);rw [List.take_succ_eq_append_getElem (by omega : n * 3 + 1 + 1 < xs.length), List.take_succ_eq_append_getElem (by omega : n * 3 + 1 < xs.length), List.take_succ_eq_append_getElem (by omega : n * 3 < xs.length), g1.2, g2.2];have g3' : xs[n * 3 + 1 + 1]'(by omega) = v2 := g3.2;rw [g3'];simp [bq]
 obtain ⟨l, h1, h2⟩ := H ks.length (Nat.le_refl _);refine ⟨l.toArray, ?_, ?_, ?_⟩
 ·have := congrArg List.length h1; simpa using this
 ·simpa using h1
 ·simpa [<- h.1] using h2
theorem oP {p : Nat -> Prop} {w : World} (d : Array (El p w)) : (flatK bq 3 d).toList = d.toList.flatMap bq := by
 have H : ∀ n, n <= d.size -> (flatK bq 3 d).toList.take (n * 3) = (d.toList.take n).flatMap bq := by
  intro n
  induction n with
  |zero => intro _; simp
  |succ n ih =>
   intro hn;have hs : (flatK bq 3 d).toList.length = d.size * 3 := by simp
   have hg : ∀ c, c < 3 -> ∀ h : n * 3 + c < (flatK bq 3 d).toList.length, (flatK bq 3 d).toList[n * 3 + c] = (bq d[n]!)[c]! := fun c hc h => by
    have h1 := get_flatK bq 3 d (n * 3 + c) (by omega);rw [show (n * 3 + c) / 3 = n by omega, show (n * 3 + c) % 3 = c by omega] at h1;rw [<- h1, getElem!_pos _ _ (by simpa using h)];simp
   have e0 : (flatK bq 3 d).toList[n * 3]'(by omega) = (bq d[n]!)[0]! := hg 0 (by omega) (by omega);have e1 : (flatK bq 3 d).toList[n * 3 + 1]'(by omega) = (bq d[n]!)[1]! := hg 1 (by omega) (by omega);have e2 : (flatK bq 3 d).toList[n * 3 + 1 + 1]'(by omega) = (bq d[n]!)[2]! := hg 2 (by omega) (by omega);rw [show (n + 1) * 3 = n * 3 + 1 + 1 + 1 by omega, List.take_succ_eq_append_getElem (by omega : n * 3 + 1 + 1 < _), List.take_succ_eq_append_getElem (by omega : n * 3 + 1 < _), List.take_succ_eq_append_getElem (by omega : n * 3 < _)];rw [e0, e1, e2, ih (by omega), List.take_succ_eq_append_getElem (by simp; omega), List.flatMap_append, getElem!_pos d n (by omega)];simp [bq]
 have := H d.size (Nat.le_refl _);rw [List.take_of_length_le (by simp), List.take_of_length_le (by simp)] at this;exact this
theorem sQ {w : World} {α : Type} [Inhabited α] (enc : α -> List Value) {g m : Nat} {dk : Array α} {os : Array Obj} {b o : Nat} (hb : b < w.heap.size) (hg : b ≠ g) : (sortWorldK enc 3 w g 0 m dk os).cell? ⟨b, o, none⟩ = w.cell? ⟨b, o, none⟩ := by
 unfold sortWorldK;rw [cell?_grow _ _ _ (by rw [size_putRowK]; exact hb)];exact (cell?_putRowK_other (enc := enc) (k := 3) (Sort.ahead w m) g 0 dk ⟨b, o, none⟩ hg).trans rfl
theorem wy {q0 : Nat -> Prop} (base : Nat) (v : Value) (ks : List Rx) (w : World) (h : az q0 base v ks w) (hn : ks.length <= 1000000000000) : Calls Tryz.prog 119 #[v, .func (.func 120) #[] #[]] w fun e w' => e = .returned (.tuple #[]) /\ ∃ ts : List Rx, ts.Perm ks /\ ts.Pairwise (fun a b => ¬ eD b a) /\ az q0 base v ts w' /\ w.grownBy w' v.ownBlock := by
 obtain ⟨xs, hC, hO⟩ := id h;have none : ∀ (A : Option Addr) (c : Nat), v = .slice A 0 c -> ks = [] -> Calls Tryz.prog 119 #[v, .func (.func 120) #[] #[]] w fun e w' => e = .returned (.tuple #[]) /\ ∃ ts : List Rx, ts.Perm ks /\ ts.Pairwise (fun a b => ¬ eD b a) /\ az q0 base v ts w' /\ w.grownBy w' v.ownBlock := fun A c hv hk => by
  have h1 := AnyF.slices_SortFunc_none (P := Tryz.prog) (ρ := tY) { Tryz.sortRx with } A c (.func (.func 120) #[] #[]) w;rw [hv];refine Calls.mono h1 ?_;rintro e w' ⟨he, rfl⟩;subst hk;rw [hv] at h;exact ⟨he, [], List.Perm.refl _, List.Pairwise.nil, h, World.grownBy.refl _ _⟩
 rcases hO.2 with ⟨hv, h0⟩ | ⟨g, cap, cur, hv, hbg, hg, hnc, hcm, hcs, htk⟩
 ·exact none _ _ hv (List.eq_nil_of_length_eq_zero h0)
 ·have hglt : g < w.heap.size := (Array.getElem?_eq_some_iff.1 hg).1;subst hv;have hC1 : aG (fun b => (q0 b /\ some b ≠ some g) /\ b < w.heap.size) w xs ks := hC.lt;obtain ⟨d, hd1, hd2, hd3⟩ := vW hC1;have hfl := oP d;rw [hd3] at hfl;have hH : HoldsK bq 3 w g 0 d := fun j hj => by
   have hj2 : j < ks.length * 3 := by simpa [hd1] using hj
   have h1 := hO.cellAt j hj2;rw [Nat.zero_add];refine ⟨?_, hO.frozenAt j⟩;rw [h1, getElem!_pos _ _ (by simpa using hj), <- hfl];simp at hj;simp [hj]
  have hcmp : CmpLays Tryz.prog 120 #[] (bq (p := fun b => (q0 b /\ some b ≠ some g) /\ b < w.heap.size) (w := w)) 3 (fun x y => aW x.r y.r) g 0 d.size w := fun m os dk hs x y => by
   have keep : ∀ z : El (fun b => (q0 b /\ some b ≠ some g) /\ b < w.heap.size) w, aP (fun b => (q0 b /\ some b ≠ some g) /\ b < w.heap.size) (sortWorldK bq 3 w g 0 m dk os) z.r z.v1 z.v2 := fun z => aP.keep (fun b o hp => sQ bq hp.2 (fun e => hp.1.2 (by rw [e]))) _ z.ok
   obtain ⟨A, n, c, B, m1, d1, e1, e2, hx⟩ := (keep x).op;obtain ⟨A2, n2, c2, B2, m2, d2, e3, e4, hy⟩ := (keep y).op;have hc := yu hx.o hy.o;show Calls Tryz.prog 120 #[.agg #[.int .i64 x.r.kind, x.v1, x.v2], .agg #[.int .i64 y.r.kind, y.v1, y.v2]] _ _;rw [e1, e2, e3, e4];exact hc.mono fun e w' hp => ⟨hp.1, EE hp.2⟩
  have hs := AnyQ.slices_SortFunc (P := Tryz.prog) (ρ := tY) Tryz.sortRx 3 (fun _ => by kernel_rfl) (fun _ => by kernel_rfl) bq (fun _ => rfl) (fun x u hu => by
   simp only [bq, List.mem_cons, List.not_mem_nil, or_false] at hu;have h12 := x.ok.one
   rcases hu with rfl | rfl | rfl
   ·rfl
   ·exact h12.1
   ·exact h12.2) (fun x y => aW x.r y.r) FW 120 #[] g 0 cap d w uA hcmp hH hglt (by rw [hd1]; omega)
  rw [hd1] at hs;refine Calls.mono hs ?_;rintro e w' ⟨he, d', q, os, hp, hso, rfl⟩;have hsz : d'.size = ks.length := hp.1.trans hd1;have hC' : aG (fun b => q0 b /\ some b ≠ some g) (sortWorldK bq 3 w g 0 q d' os) (d'.toList.flatMap bq) (d'.toList.map (·.r)) := by
   have H : ∀ l : List (El (fun b => (q0 b /\ some b ≠ some g) /\ b < w.heap.size) w), aG (fun b => q0 b /\ some b ≠ some g) (sortWorldK bq 3 w g 0 q d' os) (l.flatMap bq) (l.map (·.r)) := by
    intro l
    induction l with
    |nil => exact aG.nil _ _
    |cons z l ih =>
     rw [List.flatMap_cons, List.map_cons];have hz := aP.keep (W := sortWorldK bq 3 w g 0 q d' os) (fun b o hp => sQ bq hp.2 (fun e => hp.1.2 (by rw [e]))) _ z.ok;exact (aG.one (aP.mono (fun b hb => hb.1) _ hz)).app ih
   exact H d'.toList
  have hgW : (sortWorldK bq 3 w g 0 q d' os).heap[g]? = some (.cells (putCells id 0 (flatK bq 3 d') cur) 25 (0, 0)) := by
   unfold sortWorldK;show ((putRowK bq 3 (Sort.ahead w q) g 0 d').heap ++ os)[g]? = _;rw [Array.getElem?_append_left (by rw [size_putRowK]; exact hglt)];show ((Sort.ahead w q).heap.modify g (onCells (putCells id 0 (flatK bq 3 d'))))[g]? = _;rw [Array.getElem?_modify, if_pos rfl];show Option.map _ w.heap[g]? = _;rw [hg]
   rfl
  refine ⟨he, d'.toList.map (·.r), ?_, ?_, ⟨_, by rw [show (Value.slice (some ⟨g, 0, Option.none⟩) ks.length cap).ownBlock = some g from rfl]; exact hC', ?_, .inr ⟨g, cap, _, by simp [hsz], hbg, hgW, by simpa [hsz] using hnc, hcm, by simp [putCells, hcs], ?_⟩⟩, ?_⟩
  ·have h2 := hp.2.2;rw [Array.extract_eq_self_of_le (by rw [hsz]; exact Nat.le_refl _), Array.extract_eq_self_of_le (by rw [hd1]; exact Nat.le_refl _)] at h2;have := h2.map (fun z : El _ _ => z.r);rw [hd2] at this;exact this
  ·rw [List.pairwise_map, List.pairwise_iff_getElem];intro i j hi hj hij;have h2 := hso i j (Nat.zero_le _) hij (by simpa [hsz] using hj);rw [getElem!_pos d' i (by simpa using hi), getElem!_pos d' j (by simpa using hj)] at h2;unfold ltOf at h2;rw [decide_eq_false_iff_not] at h2;show ¬ aW _ _ < 0
   simpa using h2
  ·rw [hC'.1]
  ·have hl : (flatK bq 3 d').toList = d'.toList.flatMap bq := oP d';rw [<- hl]
   apply List.ext_getElem
   ·simp [putCells, hcs, hsz];rw [Nat.min_eq_left hnc]
   ·intro i h1 h2;have h2' : i < d'.size * 3 := by simpa using h2
    simp [putCells, h2']
  ·rw [show (Value.slice (some ⟨g, 0, Option.none⟩) ks.length cap).ownBlock = some g from rfl];refine ⟨rfl, rfl, rfl, by unfold sortWorldK; rw [size_grow, size_putRowK]; exact Nat.le_add_right _ _, fun k hk hne => ?_⟩;unfold sortWorldK;show ((putRowK bq 3 (Sort.ahead w q) g 0 d').heap ++ os)[k]? = _;rw [Array.getElem?_append_left (by rw [size_putRowK]; exact hk)];show ((Sort.ahead w q).heap.modify g (onCells (putCells id 0 (flatK bq 3 d'))))[k]? = _;rw [Array.getElem?_modify, if_neg (fun e => hne (by rw [e]))]
   rfl
end
open Go.RowKit
open Alp
open Rgx
namespace Rgx
def l9 (K N : Int) : List Rx -> Rx
 |[] => .mk N [] []
 |[x] => x
 |ks => .mk K [] ks
theorem GQ (ks : List Rx) : l9 3 1 ks = seqEnd ks := by
 match ks with
 |[] => rfl
 |[x] => rfl
 |x :: y :: t => rfl
theorem qQ (ks : List Rx) : l9 4 0 ks = altEnd ks := by
 match ks with
 |[] => rfl
 |[x] => rfl
 |x :: y :: t => rfl
end Rgx
theorem jF {p : Nat -> Prop} {w W : World} {r : Rx} {A B : Option Addr} {n c m d : Nat} (h : ai p W r A n c B m d) (hp : ∀ b, p b -> p b \/ w.heap.size <= b) (hb : Below w.heap.size w W) : dn p w r (.returned (.agg #[.int .i64 r.kind, .slice A n c, .slice B m d])) W := ⟨A, n, c, B, m, d, rfl, h.mono hp, hb⟩
theorem pK {p : Nat -> Prop} (K N : Int) (hK : bI K) (hN : bI N) (ks : List Rx) (B : Option Addr) (m d : Nat) (hm : m = ks.length) (hmd : m <= d) (hdm : d <= maxLen) (w : World) (hk : aU p w ks B) (hB : ks ≠ [] -> ∀ b o, B = some ⟨b, o, none⟩ -> p b) (r : Rx) (hr : r = l9 K N ks) : Calls Tryz.prog 116 #[.int .i64 K, .int .i64 N, .slice B m d] w (dn p w r) := by
 have HK : Hid (aU p w ks B /\ (ks ≠ [] -> ∀ b o, B = some ⟨b, o, none⟩ -> p b) /\ m = ks.length /\ r = l9 K N ks /\ (bI K /\ bI N) /\ d <= maxLen) := Lh ⟨hk, hB, hm, hr, ⟨hK, hN⟩, hdm⟩;clear hk hB hm hr hK hN hdm
 by_cases h0 : m = 0
 ·have hks : ks = [] := List.eq_nil_of_length_eq_zero (by rw [<- HK.out.2.2.1]; exact h0);have xb : ((m : Int) == 0) = true := bT (by omega);have HR : Hid (r = .mk N [] []) := Lh (by rw [HK.out.2.2.2.1, hks]; rfl);clear h0 hks;go_enter Tryz.func116, Tryz.ntmps116
  go_wp2_with (refine wB rfl 25 (.tmp 6) (.tmp 12) rfl w.heap.size 0 rfl (zV N none 0 0 none 0 0) rfl (aa.new' w zL _ 25 rfl) 3 au ?_; intro w4 hst9; have Hw4 : Hid (aa w4 w.heap.size (zV N none 0 0 none 0 0) 25 /\ Below w.heap.size w w4) := Lh (aZ hst9); clear hst9)
  exact bM rfl w.heap.size rfl (C := (zV N none 0 0 none 0 0)) (T := 25) Hw4.out.1 _ Tryz.underlying25 rfl au rfl (by rw [HR.out]; exact jF (ai.flat p w4 HK.out.2.2.2.2.1.2) (fun b hb => .inl hb) Hw4.out.2)
 ·by_cases h1 : m = 1
  ·obtain ⟨b, o, rfl⟩ := HK.out.1.place (by rw [<- HK.out.2.2.1]; omega);obtain ⟨A2, n2, c2, B2, m2, d2, hrg, hok⟩ := HK.out.1.kid (i := 0) (by rw [<- HK.out.2.2.1]; omega);have HX : Hid (r = ak ks 0) := Lh (by
    rw [HK.out.2.2.2.1];obtain ⟨x, hx⟩ := List.length_eq_one_iff.1 (HK.out.2.2.1.symm.trans h1);rw [hx]; rfl)
   obtain ⟨K2, hK2⟩ : ∃ K, K = (ak ks 0).kind := ⟨_, rfl⟩;rw [<- hK2] at hrg;have HOK : Hid (ai p w r A2 n2 c2 B2 m2 d2 /\ K2 = r.kind) := Lh ⟨by rw [HX.out]; exact hok, by rw [HX.out]; exact hK2⟩;have HRG : Hid (∀ W, Below w.heap.size w W -> W.rangeAt b o (zV K2 A2 n2 c2 B2 m2 d2)) := Lh fun W hb => by have := fK hrg hb; simpa using this
   have xb : ((m : Int) == 0) = false := bF (by omega);have yb : ((m : Int) == 1) = true := bT (by omega);have p2 : 0 < m := by omega
   clear h0 h1 hrg hok hK2;go_enter Tryz.func116, Tryz.ntmps116
   go_wp2_with (first
    |(refine aA rfl (.tmp 16) rfl b (o) rfl K2 A2 B2 n2 c2 m2 d2 (HRG.out _ (ag _ _)) ?_)
    |(refine wB rfl 25 (.tmp 6) (.tmp 17) rfl w.heap.size 0 rfl (zV K2 A2 n2 c2 B2 m2 d2) rfl (aa.new' w zL _ 25 rfl) 3 au ?_; intro w4 hst9; have Hw4 : Hid (aa w4 w.heap.size (zV K2 A2 n2 c2 B2 m2 d2) 25 /\ Below w.heap.size w w4) := Lh (aZ hst9); clear hst9))
   exact bM rfl w.heap.size rfl (C := (zV K2 A2 n2 c2 B2 m2 d2)) (T := 25) Hw4.out.1 _ Tryz.underlying25 rfl au rfl (by rw [HOK.out.2]; exact jF (HOK.out.1.below Hw4.out.2) (fun b hb => .inl hb) Hw4.out.2)
  ·have HR : Hid (r = .mk K [] ks) := Lh (by
    rw [HK.out.2.2.2.1]
    match ks, HK.out.2.2.1 with
    |[], e => exact absurd e h0
    |[x], e => exact absurd e h1
    |x :: y :: t, _ => rfl)
   have xb : ((m : Int) == 0) = false := bF (by omega);have yb : ((m : Int) == 1) = false := bF (by omega);have hmd2 := hmd;go_enter Tryz.func116, Tryz.ntmps116
   go_wp2_with (refine wB rfl 25 (.tmp 6) (.tmp 20) rfl w.heap.size 0 rfl (zV K none 0 0 B m d) rfl (aa.new' w zL _ 25 rfl) 3 au ?_; intro w4 hst9; have Hw4 : Hid (aa w4 w.heap.size (zV K none 0 0 B m d) 25 /\ Below w.heap.size w w4) := Lh (aZ hst9); clear hst9)
   exact bM rfl w.heap.size rfl (C := (zV K none 0 0 B m d)) (T := 25) Hw4.out.1 _ Tryz.underlying25 rfl au rfl (by rw [HR.out]; exact jF (ai.make HK.out.2.2.2.2.1.1 (fun x hx => by cases hx) rfl (Nat.le_refl _) (Nat.zero_le _) (.inl rfl) (fun h => absurd rfl h) HK.out.2.2.1 hmd2 HK.out.2.2.2.2.2 (HK.out.1.below Hw4.out.2) HK.out.2.1) (fun b hb => .inl hb) Hw4.out.2)
namespace Rgx
def iW : List Rx -> Bool
 |[] => false
 |x :: _ => decide (x.kind = 1)
end Rgx
theorem vK {p : Nat -> Prop} (ks : List Rx) (B : Option Addr) (m d : Nat) (hm : m = ks.length) (hmd : m <= d) (hdm : d <= 9223372036854775807) (w : World) (hk : aU p w ks B) (V : Bool) (hV : V = iW ks) : Calls Tryz.prog 123 #[.slice B m d] w (aI w V) := by
 by_cases h0 : m = 0
 ·have HE : Hid (V = false) := Lh (by rw [hV, List.eq_nil_of_length_eq_zero (hm.symm.trans h0)]; rfl);have e2 : decide (0 < m) = false := dF (by omega);clear hV hk hm h0;go_enter Tryz.func123, Tryz.ntmps123;go_wp2_with fail;go_ret;exact ⟨HE.out.symm ▸ rfl, Below.refl _ _⟩
 ·obtain ⟨b, o, rfl⟩ := hk.place (by omega);obtain ⟨A2, n2, c2, B2, m2, d2, hrg, hok⟩ := hk.kid (i := 0) (by omega);obtain ⟨K2, hK2⟩ : ∃ K, K = (ak ks 0).kind := ⟨_, rfl⟩;have hc : w.cell? ⟨b, o, none⟩ = some (.int .i64 K2) := by have := hrg 0 _ rfl; rw [<- hK2] at this; simpa using this
  have e2 : decide (0 < m) = true := dT (by omega);have p1 : (0 : Int) < (m : Int) := by omega
  have hVK : V = decide (K2 = 1) := by
   rw [hV, hK2]
   match ks, hm with
   |[], e => exact absurd e h0
   |x :: t, _ => rfl
  by_cases h1 : K2 = 1
  ·have HE : Hid (V = true) := Lh (by rw [hVK]; exact dT h1);have f2 : (K2 == 1) = true := bT h1;clear hV hk hm h0 hrg hok hK2 hVK;go_enter Tryz.func123, Tryz.ntmps123;go_wp2_with fail;go_ret;exact ⟨HE.out.symm ▸ rfl, Below.refl _ _⟩
  ·have HE : Hid (V = false) := Lh (by rw [hVK]; exact dF h1);have f2 : (K2 == 1) = false := bF h1;clear hV hk hm h0 hrg hok hK2 hVK;go_enter Tryz.func123, Tryz.ntmps123;go_wp2_with fail;go_ret;exact ⟨HE.out.symm ▸ rfl, Below.refl _ _⟩
namespace Rgx
def bu : Rx -> Rx
 |.mk k s ks => match ks with
  |[x] => if k = 5 then .mk k s [x] else bu x
  |_ => .mk k s ks
theorem qF {r x : Rx} (h : r.kids = [x]) (h5 : r.kind ≠ 5) : bu r = bu x := by
 cases r with
 |mk k s ks =>
  rw [Rx.kids] at h;subst h;rw [bu, if_neg (show ¬ k = 5 from h5)]
theorem oz {r : Rx} (h : r.kids.length ≠ 1 \/ r.kind = 5) : bu r = r := by
 cases r with
 |mk k s ks =>
  rw [Rx.kids] at h
  match ks, h with
  |[], _ => simp [bu]
  |[x], h =>
   rcases h with h | h
   ·exact absurd rfl h
   ·rw [bu, if_pos (show k = 5 from h)]
  |x :: y :: t, _ => simp [bu]
theorem wO (r : Rx) : SizeOf.sizeOf (bu r) <= SizeOf.sizeOf r /\ av (bu r) <= av r := by
 induction r using Rx.ind with
 |h r ih =>
  by_cases h : r.kids.length ≠ 1 \/ r.kind = 5
  ·rw [oz h]; exact ⟨Nat.le_refl _, Int.le_refl _⟩
  ·obtain ⟨x, hx⟩ := List.length_eq_one_iff.1 (by omega : r.kids.length = 1);rw [qF hx (by omega)];have h1 : x ∈ r.kids := by rw [hx]; simp
   have h2 := ih x h1;have h3 := gB h1;have h4 := Gm h1;omega
theorem mH {r : Rx} (h : ay r = true) : ay (bu r) = true /\ normR false (bu r) = normR false r /\ ((bu r).kids.length ≠ 1 \/ (bu r).kind = 5) := by
 induction r using Rx.ind with
 |h r ih =>
  by_cases hs : r.kids.length ≠ 1 \/ r.kind = 5
  ·rw [oz hs]; exact ⟨h, rfl, hs⟩
  ·obtain ⟨x, hx⟩ := List.length_eq_one_iff.1 (by omega : r.kids.length = 1);rw [qF hx (by omega)];have h1 : x ∈ r.kids := by rw [hx]; simp
   have hv := eF h x h1;have h2 := ih x h1 hv;refine ⟨h2.1, h2.2.1.trans ?_, h2.2.2⟩;have hn := NF.normR false hv
   rcases eT h with rfl | rfl | ⟨s, rfl, _⟩ | ⟨ks, rfl, _⟩ | ⟨ks, rfl, _⟩ | ⟨y, rfl, _⟩
   ·cases hx
   ·cases hx
   ·cases hx
   ·rw [Rx.kids] at hx;subst hx;rw [bX false (.mk 3 [] [x]), if_pos (show (Rx.mk 3 [] [x]).kind = 3 from rfl)];exact (Aw hn).symm
   ·rw [Rx.kids] at hx;subst hx;rw [bX false (.mk 4 [] [x]), if_neg (show ¬ (Rx.mk 4 [] [x]).kind = 3 by simp [Rx.kind]), if_pos (show (Rx.mk 4 [] [x]).kind = 4 from rfl)];exact (yI hn).symm
   ·exact absurd (Or.inr rfl) hs
end Rgx
theorem ze {p : Nat -> Prop} (r : Rx) (A B : Option Addr) (n c m d : Nat) (w : World) (h : ai p w r A n c B m d) : Calls Tryz.prog 117 #[.agg #[.int .i64 r.kind, .slice A n c, .slice B m d]] w fun e w' => ∃ A n c B m d, e = .returned (.agg #[.int .i64 (bu r).kind, .slice A n c, .slice B m d]) /\ ai p w' (bu r) A n c B m d /\ Below w.heap.size w w' := by
 obtain ⟨K, hK⟩ : ∃ K, K = r.kind := ⟨_, rfl⟩;have HX : Hid (ai p w r A n c B m d /\ K = r.kind) := Lh ⟨h, hK⟩;rw [<- hK];clear h hK;go_enter Tryz.func117, Tryz.ntmps117;go_wp2_with fail
 go_loopg [] (SizeOf.sizeOf r) (fun g wr => ∃ (x : Rx) (A1 B1 : Option Addr) (n1 c1 m1 d1 : Nat) (K1 : Int), Hid (SizeOf.sizeOf x <= g /\ bu x = bu r /\ ai p w x A1 n1 c1 B1 m1 d1 /\ K1 = x.kind /\ aa wr w.heap.size (zV K1 A1 n1 c1 B1 m1 d1) 25 /\ aa wr (w.heap.size + 1) zL 25 /\ Below w.heap.size w wr))
 case atStart => exact ⟨r, A, B, n, c, m, d, K, Lh ⟨Nat.le_refl _, rfl, HX.out.1, HX.out.2, (aa.at w (zV K A n c B m d) _ 25 _ rfl rfl).alloc _, aa.at (w.alloc (zC K A n c B m d)) zL _ 25 _ rfl (by simp), aB (ag _ _) _⟩⟩
 case round =>
  obtain ⟨x, A1, B1, n1, c1, m1, d1, K1, HI⟩ := hrel;have hb0 := HI.out.2.2.2.2.1.cell (j := 0) rfl;have hb2 := HI.out.2.2.2.2.1.cell (j := 2) rfl
  by_cases h1 : m1 = 1
  ·have e1 : decide ((m1 : Int) = 1) = true := dT (by omega);have e2 : ((m1 : Int) == 1) = true := bT (by omega)
   by_cases h5 : K1 = 5
   ·have f1 : decide (K1 = 5) = true := dT h5;have f2 : (K1 == 5) = true := bT h5;have f3 : (K1 != 5) = false := by rw [bne, f2]; rfl
    have HU : Hid (bu r = x) := Lh (by rw [<- HI.out.2.1]; exact oz (.inr (by rw [<- HI.out.2.2.2.1]; exact h5)));have hrx := aM HI.out.2.2.2.2.1;clear h1 h5
    go_wp2_with (first
     | (refine aA rfl (.tmp 1) rfl w.heap.size (0) rfl K1 A1 B1 n1 c1 m1 d1 hrx ?_)
     | (refine wB rfl 25 (.tmp 2) (.tmp 16) rfl (w.heap.size + 1) 0 rfl (zV K1 A1 n1 c1 B1 m1 d1) rfl HI.out.2.2.2.2.2.1 3 au ?_; intro w4 hst9; have Hw4 : Hid (aa w4 (w.heap.size + 1) (zV K1 A1 n1 c1 B1 m1 d1) 25 /\ Below w.heap.size w w4) := Lh ⟨hst9.1, hst9.below HI.out.2.2.2.2.2.2 (by omega)⟩; clear hst9))
    exact bM rfl (w.heap.size + 1) rfl (C := (zV K1 A1 n1 c1 B1 m1 d1)) (T := 25) Hw4.out.1 _ Tryz.underlying25 rfl au rfl (by rw [HU.out, HI.out.2.2.2.1]; exact ⟨_, _, _, _, _, _, rfl, HI.out.2.2.1.below Hw4.out.2, Hw4.out.2⟩)
   ·have f1 : decide (K1 = 5) = false := dF h5;have f2 : (K1 == 5) = false := bF h5;have f3 : (K1 != 5) = true := by rw [bne, f2]; rfl
    obtain ⟨y, hy⟩ := List.length_eq_one_iff.1 (by rw [<- HI.out.2.2.1.o.mlen]; exact h1 : x.kids.length = 1);have hke := HI.out.2.2.1.kids.1;obtain ⟨b, o, rfl⟩ := hke.place (by rw [hy]; simp);obtain ⟨A2, n2, c2, B2, m2, d2, hrg, hok⟩ := hke.kid (i := 0) (by rw [hy]; simp);have hyk : ak x.kids 0 = y := by rw [hy]; rfl
    rw [hyk] at hrg hok;have hyx := gB (show y ∈ x.kids by rw [hy]; simp);obtain ⟨g, rfl⟩ : ∃ g, gk = g + 1 := ⟨gk - 1, by have := HI.out.1; omega⟩;obtain ⟨K2, hK2⟩ : ∃ K, K = y.kind := ⟨_, rfl⟩;rw [<- hK2] at hrg;have HRG : Hid (wr.rangeAt b o (zV K2 A2 n2 c2 B2 m2 d2)) := Lh (by have := fK hrg HI.out.2.2.2.2.2.2; simpa using this);have HY : Hid (SizeOf.sizeOf y <= g /\ bu y = bu r /\ ai p w y A2 n2 c2 B2 m2 d2 /\ K2 = y.kind) := Lh ⟨by have := HI.out.1; omega, by rw [<- qF hy (by rw [<- HI.out.2.2.2.1]; exact h5)]; exact HI.out.2.1, hok, hK2⟩;have p2 : 0 < m1 := by omega
    clear h1 h5 hy hke hrg hok hyk hyx hK2
    go_wp2_with (first
     | (refine aA rfl (.tmp 14) rfl b (o) rfl K2 A2 B2 n2 c2 m2 d2 HRG.out ?_)
     | (refine wB rfl 25 (.tmp 1) (.tmp 15) rfl w.heap.size 0 rfl (zV K2 A2 n2 c2 B2 m2 d2) rfl HI.out.2.2.2.2.1 3 au ?_; intro w4 hst9; have Hw4 : Hid (aa w4 w.heap.size (zV K2 A2 n2 c2 B2 m2 d2) 25 /\ aa w4 (w.heap.size + 1) zL 25 /\ Below w.heap.size w w4) := Lh ⟨hst9.1, hst9.other HI.out.2.2.2.2.2.1 (by omega), hst9.below HI.out.2.2.2.2.2.2 (Nat.le_refl _)⟩; clear hst9))
    go_roundg g
    case rel => exact ⟨y, A2, B2, n2, c2, m2, d2, K2, Lh ⟨HY.out.1, HY.out.2.1, HY.out.2.2.1, HY.out.2.2.2, Hw4.out⟩⟩
    case measure => omega
  ·have e1 : decide ((m1 : Int) = 1) = false := dF (by omega);have e2 : ((m1 : Int) == 1) = false := bF (by omega);have HU : Hid (bu r = x) := Lh (by rw [<- HI.out.2.1]; exact oz (.inl (by rw [<- HI.out.2.2.1.o.mlen]; exact h1)));have hrx := aM HI.out.2.2.2.2.1
   go_wp2_with (first
    |(refine aA rfl (.tmp 1) rfl w.heap.size (0) rfl K1 A1 B1 n1 c1 m1 d1 hrx ?_)
    |(refine wB rfl 25 (.tmp 2) (.tmp 16) rfl (w.heap.size + 1) 0 rfl (zV K1 A1 n1 c1 B1 m1 d1) rfl HI.out.2.2.2.2.2.1 3 au ?_; intro w4 hst9; have Hw4 : Hid (aa w4 (w.heap.size + 1) (zV K1 A1 n1 c1 B1 m1 d1) 25 /\ Below w.heap.size w w4) := Lh ⟨hst9.1, hst9.below HI.out.2.2.2.2.2.2 (by omega)⟩; clear hst9))
   exact bM rfl (w.heap.size + 1) rfl (C := (zV K1 A1 n1 c1 B1 m1 d1)) (T := 25) Hw4.out.1 _ Tryz.underlying25 rfl au rfl (by rw [HU.out, HI.out.2.2.2.1]; exact ⟨_, _, _, _, _, _, rfl, HI.out.2.2.1.below Hw4.out.2, Hw4.out.2⟩)
theorem fO {p : Nat -> Prop} {w W : World} {r : Rx} {A B : Option Addr} {n c m d g : Nat} {D : List Value} {T : TypeId} (h : ai p w r A n c B m d) (hs : aK w W g D T) (hp : ∀ b, p b -> b ≠ g) : ai p W r A n c B m d := by
 have hq := aP.keep (W := W) (fun b o hb => World.cell?_of_block (hs.2.1 b (hp b hb))) r h.q;obtain ⟨A', n', c', B', m', d', e1, e2, h2⟩ := hq.op;simp only [Value.slice.injEq] at e1 e2;obtain ⟨rfl, rfl, rfl⟩ := e1;obtain ⟨rfl, rfl, rfl⟩ := e2;exact h2
theorem pV {p : Nat -> Prop} (w : World) (hp : ∀ b, p b -> b < w.heap.size) (l : List Rx) (B : Option Addr) (m d : Nat) (hm : m = l.length) (hmd : m <= d) (hdm : d <= 9223372036854775807) (hN : ∀ x ∈ l, NF x) (hc : ah l <= 1000000000000) (hk : aU p w l B) : Calls Tryz.prog 81 #[.slice B m d] w (dn p w (seqP l)) := by
 obtain ⟨i0, hi0, hz0, hz1, hz2⟩ := info_parts iq;obtain ⟨q, hq⟩ : ∃ q : Nat -> Prop, q = fun b => (p b \/ w.heap.size < b) := ⟨_, rfl⟩
 have HL : Hid (m = l.length /\ aU p w l B /\ ∀ x ∈ l, NF x) := Lh ⟨hm, hk, hN⟩;have HCL : Hid (ah l <= 1000000000000 /\ ∀ i, ah (l.take i) <= ah l) := Lh ⟨hc, fun i => nS i⟩;have HQ : Hid ((∀ b, p b -> q b) /\ (∀ b, w.heap.size < b -> q b) /\ (∀ b, q b -> b ≠ w.heap.size) /\ (∀ b, q b -> p b \/ w.heap.size <= b) /\ ∀ b, p b -> b < w.heap.size) := Lh (by subst hq; exact ⟨fun b h => .inl h, fun b h => .inr h, fun b h => by rcases h with h | h; (have := hp b h; omega); omega, fun b h => by rcases h with h | h; exact .inl h; exact .inr (by omega), hp⟩);have HZ : Hid (∀ W, Below (w.alloc zR).heap.size (w.alloc zR) W -> aa W w.heap.size zL 25) := Lh fun W hb => (aa.new' w zL _ 25 rfl).below hb (by simp)
 clear hm hk hN hc hp hq;go_enter Tryz.func81, Tryz.ntmps81;go_wp2_with fail
 go_loopg [3, 8] m (fun g s3 s8 wr => ∃ (i : Nat) (rs : List Rx), i + g = m /\ s8 = .int .i64 (i : Int) /\ Hid (seqGo (l.drop i) rs = seqGo l [] /\ (rs.length : Int) <= ah (l.take i) /\ az q (w.heap.size + 1) s3 rs wr /\ Below (w.alloc zR).heap.size (w.alloc zR) wr))
 case atStart => exact ⟨0, [], by omega, rfl, Lh ⟨rfl, by simp [ah], az.nil _ _ _, Below.refl _ _⟩⟩
 case round =>
  obtain ⟨i, rs, hi, rfl, HI⟩ := hrel;obtain ⟨B5, d5, hv, hmc, hm2, hke⟩ := HI.out.2.2.1.e;subst hv;have HKE := Lh hke;obtain ⟨xs, hC, hO⟩ := HI.out.2.2.1;have HC := Lh hC;have HO := Lh hO;have HBW : Hid (Below w.heap.size w wr) := Lh (ae (ag _ _) HI.out.2.2.2);have HO_base : Hid (w.heap.size + 1 <= wr.heap.size) := Lh (by have := HI.out.2.2.2.size; simpa using this);have HPQ : Hid (∀ b, p b -> q b /\ some b ≠ (Value.slice B5 rs.length d5).ownBlock) := Lh fun b hb => ⟨HQ.out.1 b hb, fun e => by
   have h1 := (HO.out.lt b e.symm).1;have := HQ.out.2.2.2.2 b hb;omega⟩
  have HNB : Hid (∀ b, (q b \/ wr.heap.size <= b) -> b ≠ w.heap.size) := Lh fun b hb => by
   rcases hb with hb | hb
   ·exact HQ.out.2.2.1 b hb
   ·have := HO_base.out; omega
  have HQW : Hid (∀ b, (q b \/ wr.heap.size <= b) -> p b \/ w.heap.size <= b) := Lh fun b hb => by
   rcases hb with hb | hb
   ·exact HQ.out.2.2.2.1 b hb
   ·exact .inr (by have := HO_base.out; omega)
  clear hke hC hO
  by_cases hlt : i < m
  ·obtain ⟨gg, rfl⟩ : ∃ g, gk = g + 1 := ⟨gk - 1, by omega⟩;have hil : i < l.length := by rw [<- HL.out.1]; exact hlt
   obtain ⟨b, o, rfl⟩ := HL.out.2.1.place (by omega);obtain ⟨A, n, c, B2, m2, d2, hrg, hok⟩ := HL.out.2.1.kid hil;obtain ⟨x, hx⟩ : ∃ x, x = ak l i := ⟨_, rfl⟩;rw [<- hx] at hrg hok;obtain ⟨K, hK⟩ : ∃ K, K = x.kind := ⟨_, rfl⟩;rw [<- hK] at hrg;have HRG := Lh (fK hrg HBW.out);have HXP := Lh hok;have HXK : Hid (K = x.kind /\ x = ak l i) := Lh ⟨hK, hx⟩;have HNX : Hid (NF x) := Lh (HL.out.2.2 x (by rw [hx]; exact dG hil));have HST : Hid (seqGo (l.drop i) rs = if x.kind = 0 then none else if x.kind = 3 then seqGo (l.drop (i + 1)) (rs ++ x.kids) else if x.kind = 1 then seqGo (l.drop (i + 1)) rs else seqGo (l.drop (i + 1)) (rs ++ [x])) := Lh (by rw [GY hil, hx, dO hil]);have HCT : Hid (ah (l.take (i + 1)) = ah (l.take i) + av x /\ 1 <= av x /\ ah (l.take (i + 1)) <= 1000000000000) := Lh ⟨by rw [sj hil, hx, dO hil], cO x, by have := HCL.out.1; have := HCL.out.2 (i + 1); omega⟩;clear hrg hok hx hK hil
   by_cases k0 : K = 0
   ·skip
    have HE : Hid (seqP l = x) := Lh (by
     have h1 := HI.out.1;rw [HST.out, if_pos (by rw [<- HXK.out.1]; exact k0)] at h1;unfold seqP;rw [<- h1];exact ((HNX.out).k0 (by rw [<- HXK.out.1]; exact k0)).symm)
    have ab : (K == 0) = true := bT (by omega);clear k0
    go_wp2_with (first
     | (refine aA rfl (.tmp 10) rfl b (o + i * 3) rfl K A B2 n c m2 d2 HRG.out ?_)
     | (refine wB rfl 25 (.tmp 5) (.tmp 11) rfl wr.heap.size 0 rfl (zV K A n c B2 m2 d2) rfl (aa.new' wr zL _ 25 rfl) 3 au ?_; intro w4 hst9; have Hw4 : Hid (aa w4 wr.heap.size (zV K A n c B2 m2 d2) 25 /\ Below wr.heap.size wr w4) := Lh (aZ hst9); clear hst9; have HB4 : Hid (Below (w.alloc zR).heap.size (w.alloc zR) w4) := Lh (ae HI.out.2.2.2 Hw4.out.2); have hc0 := Hw4.out.1.cell (j := 0) rfl; have hc2 := Hw4.out.1.cell (j := 2) rfl; have hrx := aM Hw4.out.1)
     | (refine aA rfl (.tmp 5) rfl wr.heap.size (0) rfl K A B2 n c m2 d2 hrx ?_)
     | (refine wB rfl 25 (.tmp 2) (.tmp 20) rfl w.heap.size 0 rfl (zV K A n c B2 m2 d2) rfl (HZ.out _ HB4.out) 3 au ?_; intro w5 hst9; have Hw5 : Hid (aa w5 w.heap.size (zV K A n c B2 m2 d2) 25 /\ Below w.heap.size w w5) := Lh ⟨hst9.1, hst9.below (ae (ag _ _) HB4.out) (Nat.le_refl _)⟩; clear hst9))
    exact bM rfl w.heap.size rfl (C := (zV K A n c B2 m2 d2)) (T := 25) Hw5.out.1 _ Tryz.underlying25 rfl au rfl (by rw [HE.out, HXK.out.1]; exact jF (HXP.out.below Hw5.out.2) (fun b hb => .inl hb) Hw5.out.2)
   ·by_cases k1 : K = 1
    ·skip
     have HN : Hid (seqGo (l.drop (i + 1)) rs = seqGo l [] /\ (rs.length : Int) <= ah (l.take (i + 1))) := Lh ⟨by
       have h1 := HI.out.1;rw [HST.out, if_neg (by rw [<- HXK.out.1]; omega), if_neg (by rw [<- HXK.out.1]; omega), if_pos (by rw [<- HXK.out.1]; exact k1)] at h1;exact h1, by have := HI.out.2.1; have := HCT.out; omega⟩
     have ab : (K == 0) = false := bF (by omega);have bb : (K == 1) = true := bT (by omega);clear k1
     go_wp2_with (first
       | (refine aA rfl (.tmp 10) rfl b (o + i * 3) rfl K A B2 n c m2 d2 HRG.out ?_)
       | (refine wB rfl 25 (.tmp 5) (.tmp 11) rfl wr.heap.size 0 rfl (zV K A n c B2 m2 d2) rfl (aa.new' wr zL _ 25 rfl) 3 au ?_; intro w4 hst9; have Hw4 : Hid (aa w4 wr.heap.size (zV K A n c B2 m2 d2) 25 /\ Below wr.heap.size wr w4) := Lh (aZ hst9); clear hst9; have HB4 : Hid (Below (w.alloc zR).heap.size (w.alloc zR) w4) := Lh (ae HI.out.2.2.2 Hw4.out.2); have hc0 := Hw4.out.1.cell (j := 0) rfl; have hc2 := Hw4.out.1.cell (j := 2) rfl; have hrx := aM Hw4.out.1))
     go_roundg gg
     case rel => exact ⟨i + 1, rs, by omega, by go_num, Lh ⟨HN.out.1, HN.out.2, HI.out.2.2.1.below Hw4.out.2, HB4.out⟩⟩
     case measure => omega
    ·by_cases k3 : K = 3
     · skip
       have HN : Hid (seqGo (l.drop (i + 1)) (rs ++ x.kids) = seqGo l [] /\ ((rs ++ x.kids).length : Int) <= ah (l.take (i + 1))) := Lh ⟨by
         have h1 := HI.out.1;rw [HST.out, if_neg (by rw [<- HXK.out.1]; omega), if_pos (by rw [<- HXK.out.1]; exact k3)] at h1;exact h1, by rw [List.length_append]; have := HI.out.2.1; have := HCT.out; have := ru x; omega⟩
       have hs1 : rs.length + m2 <= maxLen := by have h1 := HN.out.2; rw [List.length_append, <- HXP.out.o.mlen] at h1; have := HCT.out.2.2; unfold maxLen; omega
       have hs2 : (rs.length + m2) * 56 <= 140737488355328 := by have h1 := HN.out.2; rw [List.length_append, <- HXP.out.o.mlen] at h1; have := HCT.out.2.2; omega
       have ab : (K == 0) = false := bF (by omega);have bb : (K == 1) = false := bF (by omega);have cb : (K == 3) = true := bT (by omega);clear k3
       go_wp2_with (first
         | (refine aA rfl (.tmp 10) rfl b (o + i * 3) rfl K A B2 n c m2 d2 HRG.out ?_)
         | (refine wB rfl 25 (.tmp 5) (.tmp 11) rfl wr.heap.size 0 rfl (zV K A n c B2 m2 d2) rfl (aa.new' wr zL _ 25 rfl) 3 au ?_; intro w4 hst9; have Hw4 : Hid (aa w4 wr.heap.size (zV K A n c B2 m2 d2) 25 /\ Below wr.heap.size wr w4) := Lh (aZ hst9); clear hst9; have HB4 : Hid (Below (w.alloc zR).heap.size (w.alloc zR) w4) := Lh (ae HI.out.2.2.2 Hw4.out.2); have hc0 := Hw4.out.1.cell (j := 0) rfl; have hc2 := Hw4.out.1.cell (j := 2) rfl; obtain ⟨ys, hys, hsrc⟩ := vD (w := w4) (size := i0.size) hz1 HXP.out.o.mlen (HXP.out.kids.1.below (ae HBW.out Hw4.out.2)) (d := d2); have HYS := Lh (hys.mono HPQ.out); have HSRC := Lh hsrc; clear hys hsrc)
         | (at_builtin; refine eu rfl (.tmp 25) (.tmp 27) 23 23 rfl (w.heap.size + 1) 25 i0 _ 3 56 Tryz.underlying23 hi0 hz0 hz1 hz2 rfl _ _ _ rfl (dW HO.out Hw4.out.2) _ m2 ys rfl (HSRC.out) hs1 hs2 (Nat.le_trans (HO_base.out) (Hw4.out.2).size) ?_; intro v5 w5 hown5 hg5 hat5; have HX5 : Hid (az q (w.heap.size + 1) v5 (rs ++ x.kids) w5 /\ Below (w.alloc zR).heap.size (w.alloc zR) w5) := Lh ⟨az.app HC.out Hw4.out.2 HYS.out HXP.out.o.mlen hg5 hat5 hown5, dJ (HB4.out) hg5 (fun g hg => by have h9 := (HO.out.lt _ hg).1; first | exact h9 | (simpa using h9))⟩; clear hown5 hg5 hat5))
       go_roundg gg
       case rel => exact ⟨i + 1, rs ++ x.kids, by omega, by go_num, Lh ⟨HN.out.1, HN.out.2, HX5.out.1, HX5.out.2⟩⟩
       case measure => omega
     · skip
       have HN : Hid (seqGo (l.drop (i + 1)) (rs ++ [x]) = seqGo l [] /\ ((rs ++ [x]).length : Int) <= ah (l.take (i + 1))) := Lh ⟨by
         have h1 := HI.out.1;rw [HST.out, if_neg (by rw [<- HXK.out.1]; omega), if_neg (by rw [<- HXK.out.1]; omega), if_neg (by rw [<- HXK.out.1]; omega)] at h1;exact h1, by rw [List.length_append]; have := HI.out.2.1; have := HCT.out; have := cO x; simp; omega⟩
       have hs1 : rs.length + 1 <= maxLen := by have h1 := HN.out.2; rw [List.length_append] at h1; have := HCT.out.2.2; unfold maxLen; simp at h1; omega
       have hs2 : (rs.length + 1) * 56 <= 140737488355328 := by have h1 := HN.out.2; rw [List.length_append] at h1; have := HCT.out.2.2; simp at h1; omega
       have ab : (K == 0) = false := bF (by omega);have bb : (K == 1) = false := bF (by omega);have cb : (K == 3) = false := bF (by omega)
       go_wp2_with (first
         | (refine aA rfl (.tmp 10) rfl b (o + i * 3) rfl K A B2 n c m2 d2 HRG.out ?_)
         | (refine wB rfl 25 (.tmp 5) (.tmp 11) rfl wr.heap.size 0 rfl (zV K A n c B2 m2 d2) rfl (aa.new' wr zL _ 25 rfl) 3 au ?_; intro w4 hst9; have Hw4 : Hid (aa w4 wr.heap.size (zV K A n c B2 m2 d2) 25 /\ Below wr.heap.size wr w4) := Lh (aZ hst9); clear hst9; have HB4 : Hid (Below (w.alloc zR).heap.size (w.alloc zR) w4) := Lh (ae HI.out.2.2.2 Hw4.out.2); have hc0 := Hw4.out.1.cell (j := 0) rfl; have hc2 := Hw4.out.1.cell (j := 2) rfl; have hrx := aM Hw4.out.1)
         | (refine aA rfl (.tmp 5) rfl wr.heap.size (0) rfl K A B2 n c m2 d2 hrx ?_)
         | (at_builtin; refine eu rfl (.tmp 14) (.tmp 16) 23 23 rfl (w.heap.size + 1) 25 i0 _ 3 56 Tryz.underlying23 hi0 hz0 hz1 hz2 rfl _ _ _ rfl (dW HO.out (aB Hw4.out.2 _)) _ 1 (zV K A n c B2 m2 d2) rfl (gP hz1 _ _ _ _ _ _ _ _) hs1 hs2 (Nat.le_trans (HO_base.out) ((aB Hw4.out.2 _)).size) ?_; intro v5 w5 hown5 hg5 hat5; have HX5 : Hid (az q (w.heap.size + 1) v5 (rs ++ [x]) w5 /\ Below (w.alloc zR).heap.size (w.alloc zR) w5) := Lh ⟨az.app HC.out (aB Hw4.out.2 _) (by rw [HXK.out.1]; exact aG.one (aP.mono HPQ.out _ ((HXP.out.below (aB (ae HBW.out Hw4.out.2) _)).q))) rfl hg5 hat5 hown5, dJ (aB HB4.out _) hg5 (fun g hg => by have h9 := (HO.out.lt _ hg).1; first | exact h9 | (simpa using h9))⟩; clear hown5 hg5 hat5))
       go_roundg gg
       case rel => exact ⟨i + 1, rs ++ [x], by omega, by go_num, Lh ⟨HN.out.1, HN.out.2, HX5.out.1, HX5.out.2⟩⟩
       case measure => omega
  ·obtain rfl : i = m := by omega
   have HE : Hid (seqP l = seqEnd rs) := Lh (by
    have h1 := HI.out.1;rw [HL.out.1, List.drop_length, seqGo] at h1;unfold seqP;rw [<- h1])
   have HJ : Hid (Calls Tryz.prog 116 #[.int .i64 3, .int .i64 1, .slice B5 rs.length d5] wr (dn q wr (seqEnd rs))) := Lh (pK (p := q) 3 1 (by constructor <;> decide) (by constructor <;> decide) rs B5 rs.length d5 rfl hmc hm2 wr (HKE.out.1.mono fun b hb => hb.1) (fun hne b o hB => by
    obtain ⟨g, e, h1, _⟩ := HKE.out.2 hne;rw [hB] at e;have e2 : b = g := by simp only [Option.some.injEq, Addr.mk.injEq] at e; exact e.1
    exact HQ.out.2.1 b (by omega)) _ (GQ rs).symm)
   obtain ⟨R, hR⟩ : ∃ R, R = (seqEnd rs) := ⟨_, rfl⟩;rw [<- hR] at HE HJ;clear hR
   go_wp2_with (first
    |((with_reducible refine HJ.out.mono ?_); rintro e w6 hp; obtain ⟨A9, n9, c9, B9, m9, d9, rfl, h9, hb9⟩ := bV hp; have H9 : Hid (ai (fun b => q b \/ wr.heap.size <= b) w6 R A9 n9 c9 B9 m9 d9 /\ Below (w.alloc zR).heap.size (w.alloc zR) w6) := Lh ⟨h9, ae HI.out.2.2.2 hb9⟩; clear hp h9 hb9)
    |(refine wB rfl 25 (.tmp 2) (.tmp 31) rfl w.heap.size 0 rfl (zV R.kind A9 n9 c9 B9 m9 d9) rfl (HZ.out _ H9.out.2) 3 au ?_; intro w7 hst9; have Hw7 : Hid (aa w7 w.heap.size (zV R.kind A9 n9 c9 B9 m9 d9) 25 /\ Below w.heap.size w w7 /\ ai (fun b => q b \/ wr.heap.size <= b) w7 R A9 n9 c9 B9 m9 d9) := Lh ⟨hst9.1, hst9.below (ae (ag _ _) H9.out.2) (Nat.le_refl _), fO H9.out.1 hst9 HNB.out⟩; clear hst9))
   exact bM rfl w.heap.size rfl (C := (zV R.kind A9 n9 c9 B9 m9 d9)) (T := 25) Hw7.out.1 _ Tryz.underlying25 rfl au rfl (by rw [HE.out]; exact ⟨_, _, _, _, _, _, rfl, Hw7.out.2.2.mono HQW.out, Hw7.out.2.1⟩)
theorem mV {P : Program} {t e : TypeId} {i : TypeInfo} (h : P.underlying t = some (.slice e)) (hi : P.info? e = some i) (b o m d k : Nat) (hk : k <= m) (hm : m <= d) : ∃ o', (k < d -> o' = o + k * i.size) /\ ∀ w, (Instr.slice t (.slice (some ⟨b, o, none⟩) m d) (some (.int .i64 (k : Int))) none none).run P w = .ok (.slice (some ⟨b, o', none⟩) (m - k) (d - k)) w := by
 have h2 : (k : Int) <= (m : Int) := by omega
 by_cases hd : d = k
 ·refine ⟨o, fun h => by omega, fun w => ?_⟩;simp [Instr.slice, Instr.sliceBounds, Instr.sliceBound, asIntOf, run_underlying h, sizeOf, typeInfo, hi, h2, hd, go_sem];intro h3;omega
 ·refine ⟨o + k * i.size, fun _ => rfl, fun w => ?_⟩;simp [Instr.slice, Instr.sliceBounds, Instr.sliceBound, asIntOf, run_underlying h, sizeOf, typeInfo, hi, h2, hd, go_sem];intro h3;omega
namespace Rgx
theorem aU.tail {p : Nat -> Prop} {w : World} {x : Rx} {t : List Rx} {b o o' : Nat} (h : aU p w (x :: t) (some ⟨b, o, none⟩)) (ho : t ≠ [] -> o' = o + 3) : aU p w t (some ⟨b, o', none⟩) := fun i hi => by
 obtain ⟨b', o2, v1, v2, e, h1, h2, h3, h4⟩ := h (i + 1) (by simpa using hi);obtain ⟨rfl, rfl⟩ : b = b' /\ o = o2 := by simpa using e
 have e2 := ho (List.ne_nil_of_length_pos (by omega));subst e2;exact ⟨b, o + 3, v1, v2, rfl, by rw [show o + 3 + i * 3 = o + (i + 1) * 3 by omega]; exact h1, by rw [show o + 3 + i * 3 + 1 = o + (i + 1) * 3 + 1 by omega]; exact h2, by rw [show o + 3 + i * 3 + 2 = o + (i + 1) * 3 + 2 by omega]; exact h3, h4⟩
theorem Am {x : Rx} (h : NF x) (h4 : x.kind = 4) : starP x = .mk 5 [] [if iW x.kids then l9 4 0 x.kids.tail else x] := by
 obtain ⟨e, hl, hk⟩ := h.k4 h4;have hn := h.kids;unfold starP;rw [if_neg (by omega), if_neg (by omega), if_pos h4]
 match hq : x.kids, hl, hk, hn with
 |a :: t, hl, hk, hn =>
  obtain ⟨h1, h2⟩ := List.pairwise_cons.1 hk.srt;have ht : ∀ z ∈ t, z.kind ≠ 1 := fun z hz e1 => by
   have h3 := h1 z hz;have ha := hk.kin a (by simp);have hra := (hn a (by simp)).rng;rw [(hn z (by simp [hz])).k1 e1] at h3
   by_cases e2 : a.kind = 1
   ·rw [(hn a (by simp)).k1 e2] at h3; exact h3.irr
   ·exact h3.asym (uY (by omega))
  by_cases ha : a.kind = 1
  ·rw [List.filter_cons_of_neg (by simp [ha]), List.filter_eq_self.2 fun z hz => by simpa using ht z hz];have hb : iW (a :: t) = true := by simp [iW, ha]
   rw [if_pos hb, List.tail_cons, qQ];have hkt : kV t := ⟨fun z hz => hk.kin z (by simp [hz]), h2, fun y hy z hz => hk.one y (by simp [hy]) z (by simp [hz]), fun ⟨y, hy, e1⟩ => absurd e1 (ht y hy)⟩;unfold altP;rw [iV fun z hz => (hkt.kin z hz).2, nO (fun z hz => hn z (by simp [hz])) hkt]
  ·have hb : iW (a :: t) = false := by simp [iW, ha]
   rw [hb];rw [List.filter_eq_self.2 fun z hz => by
    rcases List.mem_cons.1 hz with rfl | hz
    ·simpa using ha
    ·simpa using ht z hz, <- hq, oC h h4]
   rfl
end Rgx
theorem rE {p : Nat -> Prop} {w0 W w9 : World} {y : Rx} {A B : Option Addr} {n c m d g : Nat} {D : List Value} {T : TypeId} (h : ai p W y A n c B m d) (hs : aK (W.alloc (zC y.kind A n c B m d)) w9 g D T) (hp : ∀ b, p b -> b ≠ g) (hg : g < W.heap.size) (hW : p W.heap.size) {G : Nat} (hG : G = W.heap.size) : ai p w9 (.mk 5 [] [y]) none 0 0 (some ⟨G, 0, none⟩) 1 1 := by
 subst hG;have h1 := fO (h.below (ag W _)) hs hp;have hB : aa w9 W.heap.size (zV y.kind A n c B m d) 25 := hs.other (aa.at W _ _ 25 _ rfl rfl) (by omega);refine ai.make (by constructor <;> decide) (fun x hx => by cases hx) rfl (Nat.le_refl _) (Nat.zero_le _) (.inl rfl) (fun h => absurd rfl h) rfl (Nat.le_refl _) (by unfold maxLen; omega) (aG.e (aG.one h1.q) fun j v hv => by rw [Nat.zero_add]; exact hB.cell hv) fun _ b o e => by
  have e2 : W.heap.size = b := by simp only [Option.some.injEq, Addr.mk.injEq] at e; exact e.1
  rw [<- e2]; exact hW
theorem AA {p : Nat -> Prop} (w : World) (hp : ∀ b, p b -> b < w.heap.size) (r : Rx) (hn : NF r) (A B : Option Addr) (n c m d : Nat) (h : ai p w r A n c B m d) : Calls Tryz.prog 84 #[.agg #[.int .i64 r.kind, .slice A n c, .slice B m d]] w (dn p w (starP r)) := by
 obtain ⟨i0, hi0, hz0, hz1, hz2⟩ := info_parts iq;obtain ⟨K, hK⟩ : ∃ K, K = r.kind := ⟨_, rfl⟩;obtain ⟨q, hq⟩ : ∃ q : Nat -> Prop, q = fun b => (p b \/ w.heap.size + 1 < b) := ⟨_, rfl⟩
 have HX : Hid (ai p w r A n c B m d /\ K = r.kind /\ NF r) := Lh ⟨h, hK, hn⟩;have HPQ : Hid (∀ b, p b -> q b) := Lh (by subst hq; exact fun b h => .inl h);have HNG : Hid (∀ b, q b -> b ≠ w.heap.size + 1) := Lh (by subst hq; exact fun b h => by rcases h with h | h; (have := hp b h; omega); omega);have HQN : Hid (∀ g, w.heap.size + 1 < g -> q g) := Lh (by subst hq; exact fun b h => .inr h);have HQP : Hid (∀ b, q b -> p b \/ w.heap.size <= b) := Lh (by subst hq; exact fun b h => by rcases h with h | h; exact .inl h; exact .inr (by omega));have HNG0 : Hid (∀ b, q b -> b ≠ w.heap.size) := Lh (by subst hq; exact fun b h => by rcases h with h | h; (have := hp b h; omega); omega);have HB1 : Hid (aa ((w.alloc (zC K A n c B m d)).alloc zR) w.heap.size (zV K A n c B m d) 25) := Lh ((aa.at w (zV K A n c B m d) _ 25 _ rfl rfl).alloc _);have HZ : Hid (aa ((w.alloc (zC K A n c B m d)).alloc zR) (w.heap.size + 1) zL 25) := Lh (aa.at (w.alloc (zC K A n c B m d)) zL _ 25 _ rfl (by simp));have HQ1 : Hid (∀ b, (p b \/ w.heap.size + 1 < b) -> q b) := Lh (by subst hq; exact fun b h => h);rw [<- hK];clear h hK hn hp hq
 by_cases k0 : K = 0
 ·skip
  have ab : (K == 0) = true := bT (by omega);have HR : Hid (starP r = .mk 1 [] []) := Lh (by unfold starP; rw [if_pos (.inl (by rw [<- HX.out.2.1]; exact k0))]);clear k0;go_enter Tryz.func84, Tryz.ntmps84
  go_wp2_with (refine wB rfl 25 (.tmp 2) (.tmp 7) rfl (w.heap.size + 1) 0 rfl (zV 1 none 0 0 none 0 0) rfl HZ.out 3 au ?_; intro w9 hst9; have Hw9 : Hid (aa w9 (w.heap.size + 1) (zV 1 none 0 0 none 0 0) 25 /\ Below w.heap.size w w9) := Lh ⟨hst9.1, hst9.below (aB (ag _ _) _) (by omega)⟩; clear hst9)
  exact bM rfl (w.heap.size + 1) rfl (C := (zV 1 none 0 0 none 0 0)) (T := 25) Hw9.out.1 _ Tryz.underlying25 rfl au rfl (by rw [HR.out]; exact jF (ai.flat p w9 (by constructor <;> decide)) (fun b hb => .inl hb) Hw9.out.2)
 ·by_cases k15 : K = 1 \/ K = 5
  ·have HR : Hid (starP r = r) := Lh (by
    unfold starP
    rcases k15 with e | e
    ·rw [if_pos (.inr (by rw [<- HX.out.2.1]; exact e)), (HX.out.2.2.k1 (by rw [<- HX.out.2.1]; exact e))]
    ·rw [if_neg (by rw [<- HX.out.2.1]; omega), if_pos (by rw [<- HX.out.2.1]; exact e)])
   have hrx := aM HB1.out
   rcases k15 with k1 | k5
   ·skip
    have ab : (K == 0) = false := bF (by omega);have bb : (K == 1) = true := bT (by omega);clear k0 k1;go_enter Tryz.func84, Tryz.ntmps84
    go_wp2_with (first
     |(refine aA rfl (.tmp 1) rfl w.heap.size (0) rfl K A B n c m d hrx ?_)
     |(refine wB rfl 25 (.tmp 2) (.tmp 17) rfl (w.heap.size + 1) 0 rfl (zV K A n c B m d) rfl HZ.out 3 au ?_; intro w9 hst9; have Hw9 : Hid (aa w9 (w.heap.size + 1) (zV K A n c B m d) 25 /\ Below w.heap.size w w9) := Lh ⟨hst9.1, hst9.below (aB (ag _ _) _) (by omega)⟩; clear hst9))
    exact bM rfl (w.heap.size + 1) rfl (C := (zV K A n c B m d)) (T := 25) Hw9.out.1 _ Tryz.underlying25 rfl au rfl (by rw [HR.out, HX.out.2.1]; exact jF (HX.out.1.below Hw9.out.2) (fun b hb => .inl hb) Hw9.out.2)
   ·skip
    have ab : (K == 0) = false := bF (by omega);have bb : (K == 1) = false := bF (by omega);have cb : (K == 5) = true := bT (by omega);clear k0 k5;go_enter Tryz.func84, Tryz.ntmps84
    go_wp2_with (first
     |(refine aA rfl (.tmp 1) rfl w.heap.size (0) rfl K A B n c m d hrx ?_)
     |(refine wB rfl 25 (.tmp 2) (.tmp 17) rfl (w.heap.size + 1) 0 rfl (zV K A n c B m d) rfl HZ.out 3 au ?_; intro w9 hst9; have Hw9 : Hid (aa w9 (w.heap.size + 1) (zV K A n c B m d) 25 /\ Below w.heap.size w w9) := Lh ⟨hst9.1, hst9.below (aB (ag _ _) _) (by omega)⟩; clear hst9))
    exact bM rfl (w.heap.size + 1) rfl (C := (zV K A n c B m d)) (T := 25) Hw9.out.1 _ Tryz.underlying25 rfl au rfl (by rw [HR.out, HX.out.2.1]; exact jF (HX.out.1.below Hw9.out.2) (fun b hb => .inl hb) Hw9.out.2)
  ·have hnk : K ≠ 1 /\ K ≠ 5 := ⟨fun e => k15 (.inl e), fun e => k15 (.inr e)⟩;have ab : (K == 0) = false := bF (by omega);have bb : (K == 1) = false := bF (by omega);have cb : (K == 5) = false := bF (by omega)
   by_cases k4 : K = 4
   ·skip
    have db : (K == 4) = true := bT (by omega);have HT := Lh (Am HX.out.2.2 (by rw [<- HX.out.2.1]; exact k4));have hl := (HX.out.2.2.k4 (by rw [<- HX.out.2.1]; exact k4)).2.1;have hml := HX.out.1.o.mlen;obtain ⟨X, hX⟩ : ∃ X, X = iW r.kids := ⟨_, rfl⟩;rw [<- hX] at HT;have HBE : Hid (∀ W, Below w.heap.size w W -> Calls Tryz.prog 123 #[.slice B m d] W (aI W X)) := Lh fun W hb => vK r.kids B m d HX.out.1.o.mlen HX.out.1.o.mcap HX.out.1.o.dmax W (HX.out.1.kids.1.below hb) X hX
    clear k0 k15 k4 hX
    cases X
    ·have HR : Hid (starP r = .mk 5 [] [r]) := Lh (by rw [HT.out]; rfl);have HYK : Hid (K = r.kind) := Lh HX.out.2.1;clear hl hml;go_enter Tryz.func84, Tryz.ntmps84
     go_wp2_with (first
      | ((with_reducible refine (HBE.out _ (aB (ag _ _) _)).mono ?_); rintro e w1 hp; obtain ⟨rfl, hb⟩ := aN hp; have H1 : Hid (Below ((w.alloc (zC K A n c B m d)).alloc zR).heap.size ((w.alloc (zC K A n c B m d)).alloc zR) w1) := Lh hb; have hrx := aM (HB1.out.below hb (by simp <;> omega)); have hb2 := (HB1.out.below hb (by simp <;> omega)).cell (j := 2) rfl; have HZ1 := Lh (HZ.out.below hb (by simp <;> omega)); have HW1 : Hid (Below w.heap.size w w1 /\ w.heap.size + 1 < w1.heap.size) := Lh ⟨ae (aB (ag _ _) _) hb, by have := hb.size; simp at this; omega⟩; clear hp hb)
      | (refine aA rfl (.tmp 1) rfl w.heap.size (0) rfl K A B n c m d hrx ?_)
      | (refine wB rfl 25 (.tmp 2) (.tmp 33) rfl (w.heap.size + 1) 0 rfl (zV 5 none 0 0 (some ⟨w1.heap.size, 0, none⟩) 1 1) rfl ((HZ1.out).alloc _) 3 au ?_; intro w9 hst9; have Hw9 : Hid (aa w9 (w.heap.size + 1) (zV 5 none 0 0 (some ⟨w1.heap.size, 0, none⟩) 1 1) 25 /\ Below w.heap.size w w9 /\ ai q w9 (.mk 5 [] [r]) none 0 0 (some ⟨w1.heap.size, 0, none⟩) 1 1) := Lh ⟨hst9.1, hst9.below (aB (HW1.out.1) _) (by omega), rE (w0 := w) ((HX.out.1.below HW1.out.1).mono HPQ.out) (by rw [<- HYK.out]; exact hst9) HNG.out HW1.out.2 (HQN.out _ (HW1.out.2)) (by first | rfl | simp)⟩; clear hst9))
     exact bM rfl (w.heap.size + 1) rfl (C := (zV 5 none 0 0 (some ⟨w1.heap.size, 0, none⟩) 1 1)) (T := 25) Hw9.out.1 _ Tryz.underlying25 rfl au rfl (by rw [HR.out]; exact ⟨_, _, _, _, _, _, rfl, Hw9.out.2.2.mono HQP.out, Hw9.out.2.1⟩)
    ·obtain ⟨y, hy⟩ : ∃ y, y = l9 4 0 r.kids.tail := ⟨_, rfl⟩;have HR : Hid (starP r = .mk 5 [] [y]) := Lh (by rw [HT.out, hy]; rfl);obtain ⟨b, o, rfl⟩ := HX.out.1.kids.1.place (by omega);obtain ⟨o', ho', hcut⟩ := mV (P := Tryz.prog) Tryz.underlying23 hi0 b o m d 1 (by omega) HX.out.1.o.mcap;obtain ⟨m', hm'⟩ : ∃ m', m = m' + 1 := ⟨m - 1, by omega⟩;obtain ⟨d', hd'⟩ : ∃ d', d = d' + 1 := ⟨d - 1, by have := HX.out.1.o.mcap; omega⟩;have HTL : Hid (∀ W, Below w.heap.size w W -> aU p W r.kids.tail (some ⟨b, o', none⟩)) := Lh fun W hb => by
      have h1 := HX.out.1.kids.1.below hb
      match hq : r.kids, hl with
      | z :: t, _ =>
        rw [hq] at h1;exact h1.tail fun _ => by rw [ho' (by have := HX.out.1.o.mcap; omega), hz1]
     have HJN : Hid (∀ W, Below w.heap.size w W -> Calls Tryz.prog 116 #[.int .i64 4, .int .i64 0, .slice (some ⟨b, o', none⟩) m' d'] W (dn p W y)) := Lh fun W hb => pK (p := p) 4 0 (by constructor <;> decide) (by constructor <;> decide) r.kids.tail (some ⟨b, o', none⟩) m' d' (by rw [List.length_tail]; omega) (by have := HX.out.1.o.mcap; omega) (by have := HX.out.1.o.dmax; unfold maxLen; omega) W (HTL.out W hb) (fun hne b2 o2 e => by
        have e2 : b = b2 := by simp only [Option.some.injEq, Addr.mk.injEq] at e; exact e.1
        rw [<- e2];exact HX.out.1.kids.2 (by intro e3; rw [e3] at hl; simp at hl) b o rfl) _ hy
     have hcut2 : ∀ W, (Instr.slice 23 (.slice (some ⟨b, o, none⟩) m d) (some (.int .i64 1)) none none).run Tryz.prog W = .ok (.slice (some ⟨b, o', none⟩) m' d') W := fun W => by have := hcut W; rwa [show m - 1 = m' by omega, show d - 1 = d' by omega] at this
     clear hl hml hcut ho' hy hm' hd';go_enter Tryz.func84, Tryz.ntmps84
     go_wp2_with (first
      | ((with_reducible refine (HBE.out _ (aB (ag _ _) _)).mono ?_); rintro e w1 hp; obtain ⟨rfl, hb⟩ := aN hp; have H1 : Hid (Below ((w.alloc (zC K A n c (some ⟨b, o, none⟩) m d)).alloc zR).heap.size ((w.alloc (zC K A n c (some ⟨b, o, none⟩) m d)).alloc zR) w1) := Lh hb; have hrx := aM (HB1.out.below hb (by simp <;> omega)); have hb2 := (HB1.out.below hb (by simp <;> omega)).cell (j := 2) rfl; have HZ1 := Lh (HZ.out.below hb (by simp <;> omega)); have HW1 : Hid (Below w.heap.size w w1 /\ w.heap.size + 1 < w1.heap.size) := Lh ⟨ae (aB (ag _ _) _) hb, by have := hb.size; simp at this; omega⟩; clear hp hb)
      | ((with_reducible refine (HJN.out _ HW1.out.1).mono ?_); rintro e w5 hp; obtain ⟨A8, n8, c8, B8, m8, d8, rfl, h8, hb8⟩ := bV hp; obtain ⟨K8, hK8⟩ : ∃ K, K = y.kind := ⟨_, rfl⟩; rw [<- hK8]; have H8 : Hid (ai (fun b => p b \/ w1.heap.size <= b) w5 y A8 n8 c8 B8 m8 d8 /\ Below w1.heap.size w1 w5) := Lh ⟨h8, hb8⟩; have HYK : Hid (K8 = y.kind) := Lh hK8; clear hp h8 hb8 hK8)
      | (refine wB rfl 25 (.tmp 1) (.tmp 30) rfl w.heap.size 0 rfl (zV K8 A8 n8 c8 B8 m8 d8) rfl ((HB1.out.below H1.out (by simp <;> omega)).below H8.out.2 (by have := HW1.out.2; omega)) 3 au ?_; intro w6 hst9; have Hw6 : Hid (aa w6 w.heap.size (zV K8 A8 n8 c8 B8 m8 d8) 25 /\ Below w.heap.size w w6 /\ ai q w6 y A8 n8 c8 B8 m8 d8 /\ aa w6 (w.heap.size + 1) zL 25 /\ w.heap.size + 1 < w6.heap.size) := Lh ⟨hst9.1, hst9.below (ae HW1.out.1 H8.out.2) (Nat.le_refl _), fO (H8.out.1.mono fun b hb => HQ1.out b (by rcases hb with hb | hb; exact .inl hb; exact .inr (by have := HW1.out.2; omega))) hst9 HNG0.out, hst9.other (HZ1.out.below H8.out.2 HW1.out.2) (by omega), by have := H8.out.2.size; have := HW1.out.2; rw [hst9.2.2.1]; omega⟩; have hrx := aM Hw6.out.1; clear hst9)
      | (refine aA rfl (.tmp 1) rfl w.heap.size (0) rfl K8 A8 B8 n8 c8 m8 d8 hrx ?_)
      | (refine wB rfl 25 (.tmp 2) (.tmp 33) rfl (w.heap.size + 1) 0 rfl (zV 5 none 0 0 (some ⟨w6.heap.size, 0, none⟩) 1 1) rfl ((Hw6.out.2.2.2.1).alloc _) 3 au ?_; intro w9 hst9; have Hw9 : Hid (aa w9 (w.heap.size + 1) (zV 5 none 0 0 (some ⟨w6.heap.size, 0, none⟩) 1 1) 25 /\ Below w.heap.size w w9 /\ ai q w9 (.mk 5 [] [y]) none 0 0 (some ⟨w6.heap.size, 0, none⟩) 1 1) := Lh ⟨hst9.1, hst9.below (aB (Hw6.out.2.1) _) (by omega), rE (w0 := w) Hw6.out.2.2.1 (by rw [<- HYK.out]; exact hst9) HNG.out Hw6.out.2.2.2.2 (HQN.out _ (Hw6.out.2.2.2.2)) (by first | rfl | simp)⟩; clear hst9))
     exact bM rfl (w.heap.size + 1) rfl (C := (zV 5 none 0 0 (some ⟨w6.heap.size, 0, none⟩) 1 1)) (T := 25) Hw9.out.1 _ Tryz.underlying25 rfl au rfl (by rw [HR.out]; exact ⟨_, _, _, _, _, _, rfl, Hw9.out.2.2.mono HQP.out, Hw9.out.2.1⟩)
   ·skip
    have db : (K == 4) = false := bF (by omega);have HR : Hid (starP r = .mk 5 [] [r]) := Lh (by
     unfold starP;rw [if_neg (by rw [<- HX.out.2.1]; omega), if_neg (by rw [<- HX.out.2.1]; omega), if_neg (by rw [<- HX.out.2.1]; exact k4)])
    have HYK : Hid (K = r.kind) := Lh HX.out.2.1;have hrx := aM HB1.out;go_enter Tryz.func84, Tryz.ntmps84
    go_wp2_with (first
     |(refine aA rfl (.tmp 1) rfl w.heap.size (0) rfl K A B n c m d hrx ?_)
     |(refine wB rfl 25 (.tmp 2) (.tmp 33) rfl (w.heap.size + 1) 0 rfl [.int .i64 5, .slice none 0 0, .slice (some ⟨(w.heap.size + 1 + 1), 0, none⟩) 1 1] rfl ((HZ.out).alloc _) 3 au ?_; intro w9 hst9; have Hw9 : Hid (aa w9 (w.heap.size + 1) [.int .i64 5, .slice none 0 0, .slice (some ⟨(w.heap.size + 1 + 1), 0, none⟩) 1 1] 25 /\ Below w.heap.size w w9 /\ ai q w9 (.mk 5 [] [r]) none 0 0 (some ⟨(w.heap.size + 1 + 1), 0, none⟩) 1 1) := Lh ⟨hst9.1, hst9.below (aB (aB (ag _ _) _) _) (by omega), rE (w0 := w) ((HX.out.1.below (aB (ag _ _) _)).mono HPQ.out) (by rw [<- HYK.out]; exact hst9) HNG.out (by simp) (HQN.out _ ((by simp))) (by first | rfl | simp)⟩; clear hst9))
    exact bM rfl (w.heap.size + 1) rfl (C := [.int .i64 5, .slice none 0 0, .slice (some ⟨(w.heap.size + 1 + 1), 0, none⟩) 1 1]) (T := 25) Hw9.out.1 _ Tryz.underlying25 rfl au rfl (by rw [HR.out]; exact ⟨_, _, _, _, _, _, rfl, Hw9.out.2.2.mono HQP.out, Hw9.out.2.1⟩)
theorem EQ (args : Array Value) (W : World) : (callFunc 122 args).run Tryz.prog W = .ok (.enter 122 args) W := by kernel_rfl
theorem uB (r t : Rx) (V : Bool) (hV : V = decide (aW r t = 0)) (A B A2 B2 : Option Addr) (n c m d n2 c2 m2 d2 : Nat) (w : World) (h1 : aC w r A n c B m d) (h2 : aC w t A2 n2 c2 B2 m2 d2) : Calls Tryz.prog 122 #[.agg #[.int .i64 r.kind, .slice A n c, .slice B m d], .agg #[.int .i64 t.kind, .slice A2 n2 c2, .slice B2 m2 d2]] w (aI w V) := by
 obtain ⟨K, hK⟩ : ∃ K, K = r.kind := ⟨_, rfl⟩;obtain ⟨K2, hK2⟩ : ∃ K, K = t.kind := ⟨_, rfl⟩;obtain ⟨R, hR⟩ : ∃ R, R = aW r t := ⟨_, rfl⟩;have HC : Hid (∀ W, Below w.heap.size w W -> Calls Tryz.prog 120 #[.agg #[.int .i64 K, .slice A n c, .slice B m d], .agg #[.int .i64 K2, .slice A2 n2 c2, .slice B2 m2 d2]] W (jO W R)) := Lh fun W hb => by rw [hK, hK2, hR]; exact BN (h1.below hb) (h2.below hb)
 have q1 : (R == 0) = V := by rw [hV, hR]; rfl
 have hr1 : (((w.alloc (zC K A n c B m d)).alloc (zC K2 A2 n2 c2 B2 m2 d2))).rangeAt w.heap.size 0 (zV K A n c B m d) := fun j v hv => by rw [Nat.zero_add]; exact gL (Below.refl _ _) j v hv
 have hr2 : (((w.alloc (zC K A n c B m d)).alloc (zC K2 A2 n2 c2 B2 m2 d2))).rangeAt (w.heap.size + 1) 0 (zV K2 A2 n2 c2 B2 m2 d2) := fun j v hv => by rw [Nat.zero_add]; exact gI (Below.refl _ _) j v hv
 rw [<- hK, <- hK2];clear h1 h2 hK hK2 hV hR;go_enter Tryz.func122, Tryz.ntmps122
 go_wp2_with (first
  |(refine aA rfl (.tmp 2) rfl w.heap.size (0) rfl _ A B n c m d hr1 ?_)
  |(refine aA rfl (.tmp 3) rfl (w.heap.size + 1) (0) rfl _ A2 B2 n2 c2 m2 d2 hr2 ?_)
  |((with_reducible refine (HC.out _ (aB (ag _ _) _)).mono ?_); rintro e w1 hp; obtain ⟨rfl, hb⟩ := kG hp; have H1 : Hid (Below w.heap.size w w1) := Lh (ae (aB (ag _ _) _) hb); clear hp hb))
 go_ret;exact ⟨rfl, H1.out⟩
namespace Rgx
section
variable {q : Nat -> Prop} {base g n cap : Nat} {cur : List Rx} {w : World}
theorem tL : ∀ (vs : List Value) {w : World} {xs : List Value} (j : Nat), w.ownsRow base 25 3 (.slice (some ⟨g, 0, none⟩) n cap) n xs -> ∃ xs', xs' = (xs.take j ++ vs ++ xs.drop (j + vs.length)).take xs.length /\ (j + vs.length <= xs.length -> (w.setCells g j vs).ownsRow base 25 3 (.slice (some ⟨g, 0, none⟩) n cap) n xs')  /\ w.grownBy (w.setCells g j vs) (some g)
 |[], w, xs, j, h => ⟨_, rfl, fun hj => by simpa [World.setCells] using h, by rw [World.setCells]; exact World.grownBy.refl _ _⟩
 |v :: vs, w, xs, j, h => by
  obtain ⟨h1, g1⟩ := h.stored j v;obtain ⟨xs2, e2, h2, g2⟩ := tL vs (j + 1) h1;refine ⟨_, rfl, fun hj => ?_, by rw [World.setCells]; exact g1.trans g2⟩;rw [World.setCells];have h3 := h2 (by simp at hj ⊢; omega);have hj' : j < xs.length := by simp at hj; omega
  have e : (xs.set j v).take (j + 1) ++ vs ++ (xs.set j v).drop (j + 1 + vs.length) = xs.take j ++ (v :: vs) ++ xs.drop (j + (v :: vs).length) := by
   rw [List.take_succ_eq_append_getElem (by simpa using hj'), List.take_set, List.set_eq_of_length_le (by simp; omega)];rw [List.drop_set_of_lt (by omega)];simp;omega
  have e3 : xs2 = (xs.take j ++ (v :: vs) ++ xs.drop (j + (v :: vs).length)).take xs.length := by
   rw [e2, List.length_set, e]
  rw [<- e3]; exact h3
theorem aG.set {xs : List Value} {p : Nat -> Prop} {r : Rx} {v1 v2 : Value} {k : Nat} (h : aG p w xs cur) (hr : aP p w r v1 v2) (hk : k < cur.length) : aG p w (xs.take (k * 3) ++ [.int .i64 r.kind, v1, v2] ++ xs.drop (k * 3 + 3)) (cur.set k r) := by
 have hl := h.1;have e1 : cur.set k r = cur.take k ++ [r] ++ cur.drop (k + 1) := by
  rw [List.set_eq_take_append_cons_drop, if_pos hk]; simp
 have ht : aG p w (xs.take (k * 3)) (cur.take k) := ⟨by rw [List.length_take, List.length_take]; omega, fun i hi => by
  rw [List.length_take] at hi;obtain ⟨v1, v2, a1, a2, a3, a4⟩ := h.2 i (by omega);refine ⟨v1, v2, ?_, ?_, ?_, ?_⟩
  ·rw [List.getElem?_take, if_pos (by omega), List.getElem_take]; exact a1
  ·rw [List.getElem?_take, if_pos (by omega)]; exact a2
  ·rw [List.getElem?_take, if_pos (by omega)]; exact a3
  ·rw [List.getElem_take]; exact a4⟩
 have hd : aG p w (xs.drop (k * 3 + 3)) (cur.drop (k + 1)) := ⟨by rw [List.length_drop, List.length_drop]; omega, fun i hi => by
  rw [List.length_drop] at hi;obtain ⟨v1, v2, a1, a2, a3, a4⟩ := h.2 (k + 1 + i) (by omega);refine ⟨v1, v2, ?_, ?_, ?_, ?_⟩
  ·rw [List.getElem?_drop, List.getElem_drop, show k * 3 + 3 + i * 3 = (k + 1 + i) * 3 by omega]; exact a1
  ·rw [List.getElem?_drop, show k * 3 + 3 + (i * 3 + 1) = (k + 1 + i) * 3 + 1 by omega]; exact a2
  ·rw [List.getElem?_drop, show k * 3 + 3 + (i * 3 + 2) = (k + 1 + i) * 3 + 2 by omega]; exact a3
  ·rw [List.getElem_drop]; exact a4⟩
 rw [e1];exact (ht.app (aG.one hr)).app hd
theorem az.store {r : Rx} {v1 v2 : Value} {k : Nat} (h : az q base (.slice (some ⟨g, 0, none⟩) n cap) cur w) (hn : n = cur.length) (hr : aP (fun b => q b /\ some b ≠ some g) w r v1 v2) (hk : k < n) : az q base (.slice (some ⟨g, 0, none⟩) n cap) (cur.set k r) (w.setCells g (k * 3) [.int .i64 r.kind, v1, v2]) /\ w.grownBy (w.setCells g (k * 3) [.int .i64 r.kind, v1, v2]) (some g) := by
 subst hn;obtain ⟨xs, h1, h2⟩ := h;obtain ⟨xs', e, h3, h4⟩ := tL (g := g) [.int .i64 r.kind, v1, v2] (k * 3) h2;have hl := h1.1;have h5 := (h1.set hr hk).lt;have h6 := h5.keep (W := w.setCells g (k * 3) [.int .i64 r.kind, v1, v2]) fun b o hp => World.cell?_of_block (h4.block b hp.2 hp.1.2)
 have e2 : xs' = xs.take (k * 3) ++ [.int .i64 r.kind, v1, v2] ++ xs.drop (k * 3 + 3) := by
  rw [e];simp only [List.length_cons, List.length_nil];rw [List.take_of_length_le];simp;omega
 refine ⟨⟨xs', ?_, by rw [List.length_set]; exact h3 (by simp; omega)⟩, h4⟩;rw [e2];exact h6.mono fun b hp => hp.1
theorem az.cut {k : Nat} (h : az q base (.slice (some ⟨g, 0, none⟩) n cap) cur w) (hn : n = cur.length) (hk : k <= n) : az q base (.slice (some ⟨g, 0, none⟩) k cap) (cur.take k) w := by
 subst hn;obtain ⟨xs, h1, h2⟩ := h;have hl := h1.1;have hlt : (cur.take k).length = k := by rw [List.length_take]; omega
 refine ⟨xs.take (k * 3), ⟨by rw [List.length_take, hlt]; omega, fun i hi => ?_⟩, ?_⟩
 ·rw [hlt] at hi;obtain ⟨v1, v2, a1, a2, a3, a4⟩ := h1.2 i (by omega);refine ⟨v1, v2, ?_, ?_, ?_, ?_⟩
  ·rw [List.getElem?_take, if_pos (by omega), List.getElem_take]; exact a1
  ·rw [List.getElem?_take, if_pos (by omega)]; exact a2
  ·rw [List.getElem?_take, if_pos (by omega)]; exact a3
  ·rw [List.getElem_take]; exact a4
 ·rw [hlt]
  rcases h2.2 with ⟨e, _⟩ | ⟨g', cap', curx, e, hb, hg, hnc, hcm, hcs, htk⟩
  ·cases e
  ·simp only [Value.slice.injEq, Option.some.injEq, Addr.mk.injEq, and_true, true_and] at e;obtain ⟨rfl, rfl⟩ := e;refine ⟨by rw [List.length_take]; omega, .inr ⟨g, cap, curx, rfl, hb, hg, by omega, hcm, hcs, ?_⟩⟩;rw [<- htk, List.take_take, Nat.min_eq_left (by omega)]
end
end Rgx
theorem za (w : World) : (zeroValue 25).run Tryz.prog w = .ok (.agg #[.int .i64 0, .slice none 0 0, .slice none 0 0]) w := by kernel_rfl
theorem Ah (n : Nat) : (Builtin.zeroCells (Value.agg #[.int .i64 0, .slice none 0 0, .slice none 0 0]).cells n).size = n * 3 := by simp [Builtin.zeroCells, Value.cells]
theorem Gu {q : Nat -> Prop} {base g n cap k o : Nat} {cur : List Rx} {w : World} (h : az q base (.slice (some ⟨g, 0, none⟩) n cap) cur w) (hn : n = cur.length) (hk : k <= n) (m d : Nat) (hm : m = n - k) (ho : 0 < m -> o = k * 3) : ∃ w', (∀ ty, (Builtin.clear_ #[23] ty #[.slice (some ⟨g, o, none⟩) m d]).run Tryz.prog w = .ok (.tuple #[]) w') /\ az q base (.slice (some ⟨g, 0, none⟩) k cap) (cur.take k) w' /\ w.grownBy w' (some g) := by
 by_cases h0 : m = 0
 ·subst h0;refine ⟨w, fun ty => ?_, h.cut hn hk, World.grownBy.refl _ _⟩;simp [Builtin.clear_, run_underlying Tryz.underlying23]
 ·have ho2 := ho (by omega);subst ho2;obtain ⟨m', rfl⟩ : ∃ m', m = m' + 1 := ⟨m - 1, by omega⟩;obtain ⟨zs, hzs⟩ : ∃ zs, zs = (Builtin.zeroCells (Value.agg #[.int .i64 0, .slice none 0 0, .slice none 0 0]).cells (m' + 1)).toList := ⟨_, rfl⟩;have hzl : zs.length = (m' + 1) * 3 := by rw [hzs, Array.length_toList, Ah]
  have hz1 : ∀ v ∈ zs, v.oneCell' = true := by
   intro v hv;rw [hzs] at hv;simp only [Builtin.zeroCells, Value.cells, Array.mem_toList_iff, Array.mem_map, Array.mem_range] at hv;obtain ⟨i, hi, rfl⟩ := hv
   rcases (by omega : i % 3 = 0 \/ i % 3 = 1 \/ i % 3 = 2) with e | e | e <;> simp [e] <;> rfl
  obtain ⟨xs, h1, h2⟩ := id h;have hl := h1.1;have h2' := h2;rw [<- hn] at h2';obtain ⟨xs', e, h3, h4⟩ := tL (g := g) zs (k * 3) h2';have hst := run_storeCells_cells (P := Tryz.prog) g (k * 3) zs 0 w (fun i hi => by
   rw [Nat.add_zero, h2'.cellAt (k * 3 + i) (by omega), List.getElem?_eq_getElem (by omega)]; rfl) (fun i hi => h2'.frozenAt _) hz1
  simp only [Nat.add_zero] at hst;refine ⟨w.setCells g (k * 3) zs, fun ty => ?_, ?_, h4⟩
  ·simp [Builtin.clear_, run_underlying Tryz.underlying23, za, <- hzs, hst]
  ·have h5 := h.cut hn hk;obtain ⟨ys, g1, g2⟩ := h5;have g3 := g1.lt.keep (W := w.setCells g (k * 3) zs) fun b o hp => World.cell?_of_block (h4.block b hp.2 hp.1.2)
   have hlt : (cur.take k).length = k := by rw [List.length_take]; omega
   refine ⟨ys, g3.mono fun b hp => hp.1, ?_⟩;rw [hlt] at g2 ⊢;have h6 := h3 (by omega)
   rcases h6.2 with ⟨e6, _⟩ | ⟨g', cap', curx, e6, hb, hg, hnc, hcm, hcs, htk⟩
   ·cases e6
   ·simp only [Value.slice.injEq, Option.some.injEq, Addr.mk.injEq, and_true, true_and] at e6;obtain ⟨rfl, rfl⟩ := e6;refine ⟨g2.1, .inr ⟨g, cap, curx, rfl, hb, hg, by omega, hcm, hcs, ?_⟩⟩;have e7 : curx.toList.take (k * 3) = xs.take (k * 3) := by
     have h7 := congrArg (List.take (k * 3)) htk;rw [List.take_take, Nat.min_eq_left (by omega), e, List.take_take, Nat.min_eq_left (by omega), List.append_assoc, List.take_append_of_le_length (by simp; omega), List.take_take, Nat.min_self] at h7;exact h7
    rw [e7]
    rcases g2.2 with ⟨e8, _⟩ | ⟨g', cap', cur0, e8, _, hg0, _, _, _, htk0⟩
    ·cases e8
    ·simp only [Value.slice.injEq, Option.some.injEq, Addr.mk.injEq, and_true, true_and] at e8;obtain ⟨rfl, rfl⟩ := e8
     rcases h2'.2 with ⟨e9, _⟩ | ⟨g', cap', cur1, e9, _, hg1, _, _, _, htk1⟩
     ·cases e9
     ·simp only [Value.slice.injEq, Option.some.injEq, Addr.mk.injEq, and_true, true_and] at e9;obtain ⟨rfl, rfl⟩ := e9;rw [hg0] at hg1;simp only [Option.some.injEq, Obj.cells.injEq, and_true] at hg1;rw [<- htk0, hg1, <- htk1, List.take_take, Nat.min_eq_left (by omega)]
theorem o8 {P : Program} {t e : TypeId} {i : TypeInfo} (h : P.underlying t = some (.slice e)) (hi : P.info? e = some i) (A : Option Addr) (n k c : Nat) (hk : k <= c) (w : World) :
  (Instr.slice t (.slice A n c) none (some (.int .i64 (k : Int))) none).run P w = .ok (.slice A k c) w := by
 have h2 : (k : Int) <= (c : Int) := by omega
 have h3 : ((k : Int)).toNat = k := by omega
 cases A <;> simp [Instr.slice, Instr.sliceBounds, Instr.sliceBound, asIntOf, run_underlying h, sizeOf, typeInfo, hi, h2, go_sem] <;> (intro h; omega)
namespace Rgx
section
variable {q : Nat -> Prop} {base g n cap : Nat} {cur : List Rx} {w : World}
theorem az.there {k : Nat} (h : az q base (.slice (some ⟨g, 0, none⟩) n cap) cur w) (hn : n = cur.length) (hk : k < n) : w.there g (k * 3) 3 := fun j hj => by
 subst hn;obtain ⟨xs, h1, h2⟩ := h;have hl := h1.1;refine ⟨?_, h2.frozenAt _⟩;rw [h2.cellAt (k * 3 + j) (by omega), List.getElem?_eq_getElem (by omega)]; rfl
theorem az.kid {k : Nat} (h : az q base (.slice (some ⟨g, 0, none⟩) n cap) cur w) (hk : k < cur.length) : ∃ A' n' c' B' m' d', w.rangeAt g (k * 3) [.int .i64 (ak cur k).kind, .slice A' n' c', .slice B' m' d'] /\ ai (fun b => q b /\ some b ≠ some g) w (ak cur k) A' n' c' B' m' d' := by
 obtain ⟨B, d, hv, _, _, hke, _⟩ := h.e;simp only [Value.slice.injEq] at hv;obtain ⟨rfl, _, rfl⟩ := hv;obtain ⟨A', n', c', B', m', d', h1, h2⟩ := hke.kid hk;rw [Nat.zero_add] at h1;exact ⟨A', n', c', B', m', d', h1, h2⟩
end
theorem mr {cur : List Rx} {k i : Nat} {x : Rx} (hi : i ≠ k) : ak (cur.set k x) i = ak cur i := by
 unfold ak;rw [List.getD_eq_getElem?_getD, List.getD_eq_getElem?_getD, List.getElem?_set_ne (Ne.symm hi)]
theorem yl {ks : List Rx} {j : Nat} (h1 : 1 <= j) (h2 : j < ks.length) : bn (ks.take (j + 1)) = if aW (ak ks j) (ak ks (j - 1)) = 0 then bn (ks.take j) else bn (ks.take j) ++ [ak ks j] := by
 obtain ⟨i, rfl⟩ : ∃ i, j = i + 1 := ⟨j - 1, by omega⟩;rw [Nat.add_sub_cancel, List.take_succ_eq_append_getElem h2, List.take_succ_eq_append_getElem (by omega : i < ks.length), List.append_assoc];rw [show [ks[i]] ++ [ks[i + 1]] = [ks[i], ks[i + 1]] from rfl, xx, dO h2, dO (by omega : i < ks.length), ry ks[i] ks[i + 1]]
 by_cases e : aW ks[i] ks[i + 1] = 0
 ·rw [if_pos e, if_pos (by omega)]
 ·rw [if_neg e, if_neg (by omega)]
end Rgx
theorem kT {q : Nat -> Prop} {base g n cap k : Nat} {cur : List Rx} {w : World} {ops : Array Oper} {rest : List Oper} {o : Oper} {a : Act} {Q : Exit -> Act -> World -> Prop} (hgd : o.guard = none) (x y : Operand) (ho : o.op = .store 25 x y)
  (h : az q base (.slice (some ⟨g, 0, none⟩) n cap) cur w) (hn : n = cur.length) (hk : k < n) (hx : a.eval x = .pointer (some ⟨g, k * 3, none⟩)) (r : Rx) (K : Int) (hK : K = r.kind) (A B : Option Addr) (n1 c1 m1 d1 : Nat) (hy : a.eval y = .agg #[.int .i64 K, .slice A n1 c1, .slice B m1 d1]) (hr : aP (fun b => q b /\ some b ≠ some g) w r (.slice A n1 c1) (.slice B m1 d1))
  (hw : ∀ w1, az q base (.slice (some ⟨g, 0, none⟩) n cap) (cur.set k r) w1 /\ w.grownBy w1 (some g) -> wpList Tryz.prog ops Q rest (a.put o.dst undef) w1) : wpList Tryz.prog ops Q (o :: rest) a w := by
 subst hK;refine wpList_store_mid hgd 25 x y ho g (k * 3) #[.int .i64 r.kind, .slice A n1 c1, .slice B m1 d1] hx hy (h.there hn hk) au (by simp [Value.oneCell']) ?_;exact hw _ (h.store hn hr hk)
theorem mo {w w' : World} {row : Option Nat} (h : Below w.heap.size w w') : w.grownBy w' row := ⟨h.os, h.tape, h.output, h.size, fun k hk _ => h.block k hk⟩
theorem yo {q : Nat -> Prop} (base : Nat) (v : Value) (ks : List Rx) (w : World) (h : az q base v ks w) (hnc : ks.length <= 1000000000000) : Calls Tryz.prog 121 #[v, .func (.func 122) #[] #[]] w fun e w' => ∃ v', e = .returned v' /\ az q base v' (bn ks) w' /\ w.grownBy w' v.ownBlock := by
 obtain ⟨i0, hi0, hz0, hz1, hz2⟩ := info_parts iq;obtain ⟨B, cap, hv, hcap, hcapm, _, hpl⟩ := h.e;subst hv;obtain ⟨n, hn⟩ : ∃ n, n = ks.length := ⟨_, rfl⟩;rw [<- hn] at h hcap ⊢
 by_cases h2 : n < 2
 ·have HE : Hid (bn ks = ks) := Lh (by
   match ks, hn with
   |[], _ => rw [bn]
   |[x], _ => rw [bn]
   |x :: y :: t, e => exact absurd h2 (by rw [e]; simp))
  have HH := Lh h;have e1 : decide ((n : Int) < 2) = true := dT (by omega);have e2 : decide (n < 2) = true := dT h2;clear h hpl hn hnc;go_enter Tryz.func121, Tryz.ntmps121;go_wp2_with fail;go_ret;exact ⟨_, rfl, by rw [HE.out]; exact HH.out, World.grownBy.refl _ _⟩
 ·obtain ⟨g, rfl, hbg, hgl⟩ := hpl (List.ne_nil_of_length_pos (by omega));have hen := EQ;have HH := Lh h;have HN : Hid (ks.length = n) := Lh hn.symm;have e1 : decide ((n : Int) < 2) = false := dF (by omega);have e2 : decide (n < 2) = false := dF h2;have hn12 : n <= 1000000000000 := by omega
  clear h hpl hn hnc;go_enter Tryz.func121, Tryz.ntmps121;go_wp2_with fail
  go_loopg [5] (n - 1) (fun gm s5 wr => ∃ (k : Nat), k + gm = n /\ 1 <= k /\ s5 = .int .i64 (k : Int) /\ Hid (az q base (.slice (some ⟨g, 0, none⟩) n cap) ks wr /\ bn (ks.take k) = ks.take k /\ w.grownBy wr (some g)))
  case atStart => exact ⟨1, by omega, by omega, rfl, Lh ⟨HH.out, by
   match ks, HN.out with
   |[], e => simp at e; omega
   |x :: t, _ => simp [bn], World.grownBy.refl _ _⟩⟩
  case round =>
   obtain ⟨k, hk, hk1, rfl, HI⟩ := hrel
   by_cases hlt : k < n
   ·obtain ⟨gm, rfl⟩ : ∃ g, gk = g + 1 := ⟨gk - 1, by omega⟩;obtain ⟨jp, hjp⟩ : ∃ jp, jp + 1 = k := ⟨k - 1, by omega⟩;obtain ⟨A1, n1, c1, B1, m1, d1, hrg1, hok1⟩ := HI.out.1.kid (k := k) (by rw [HN.out]; exact hlt);obtain ⟨A2, n2, c2, B2, m2, d2, hrg2, hok2⟩ := HI.out.1.kid (k := jp) (by rw [HN.out]; omega);obtain ⟨x, hx⟩ : ∃ u, u = ak ks k := ⟨_, rfl⟩;obtain ⟨y, hy⟩ : ∃ u, u = ak ks jp := ⟨_, rfl⟩;rw [<- hx] at hrg1 hok1;rw [<- hy] at hrg2 hok2;obtain ⟨X, hX⟩ : ∃ X, X = decide (aW x y = 0) := ⟨_, rfl⟩;obtain ⟨Kx, hKx⟩ : ∃ K, K = x.kind := ⟨_, rfl⟩;obtain ⟨Ky, hKy⟩ : ∃ K, K = y.kind := ⟨_, rfl⟩;have HOX : Hid (∀ W, Below wr.heap.size wr W -> Calls Tryz.prog 122 #[.agg #[.int .i64 Kx, .slice A1 n1 c1, .slice B1 m1 d1], .agg #[.int .i64 Ky, .slice A2 n2 c2, .slice B2 m2 d2]] W fun e w' => e = .returned (.bool X) /\ Below wr.heap.size wr w') := Lh fun W hb => (by rw [hKx, hKy]; exact (uB x y X hX A1 B1 A2 B2 n1 c1 m1 d1 n2 c2 m2 d2 W (hok1.o.below hb) (hok2.o.below hb)).mono fun e w' hp => ⟨hp.1, ae hb hp.2⟩)
    rw [<- hKx] at hrg1;rw [<- hKy] at hrg2;have HRG1 : Hid (∀ p : Wo (Below wr.heap.size wr), p.wo.rangeAt g (k * 3) (zV Kx A1 n1 c1 B1 m1 d1)) := Lh fun p => fK hrg1 p.ok
    have HRG2 : Hid (∀ p : Wo (Below wr.heap.size wr), p.wo.rangeAt g (jp * 3) (zV Ky A2 n2 c2 B2 m2 d2)) := Lh fun p => fK hrg2 p.ok
    have HBS : Hid (Below wr.heap.size wr wr) := Lh (Below.refl _ _);have HS1 : Hid (bn (ks.take (k + 1)) = if X then bn (ks.take k) else bn (ks.take k) ++ [x]) := Lh (by
     rw [yl hk1 (by rw [HN.out]; exact hlt), <- hx, show k - 1 = jp by omega, <- hy, hX]
     by_cases e : aW x y = 0
     ·rw [if_pos e, if_pos (dT e)]
     ·rw [if_neg e, if_neg (by simpa using e)])
    have HXK : Hid (x = ak ks k) := Lh hx;have z1 : (k : Int) - 1 = (jp : Int) := by omega
    have z2 : IntKind.i64.wrap (jp : Int) = (jp : Int) := by rw [IntKind.wrap_i64]; omega
    have p1 : (k : Int) < (n : Int) := by omega
    have p2 : (jp : Int) < (n : Int) := by omega
    clear hrg1 hrg2 hok1 hok2 hx hy hX hKx hKy
    cases X
    ·go_wp2_with fail;haveI : Nonempty (Wo (Below wr.heap.size wr)) := ⟨⟨wr, HBS.out⟩⟩;refine iR (Below wr.heap.size wr) jc (by kernel_rfl) (below_drewN HBS.out 1) ?_
     iterate 4 (go_big_quiet_step (fail))
     refine je rfl (.tmp 21) rfl g (k * 3) rfl Kx A1 B1 n1 c1 m1 d1 HRG1.out ?_;try simp only [Act.put, pP]
     iterate 4 (go_big_quiet_step (fail))
     refine je rfl (.tmp 26) rfl g (jp * 3) rfl Ky A2 B2 n2 c2 m2 d2 HRG2.out ?_;try simp only [Act.put, pP]
     repeat (go_big_quiet_step ((go_at_call 122; exact lh HOX.out _)))
     refine wpQuiet_nil ?_;intro x1 hw2;obtain ⟨⟨x1x, hok⟩, hw3⟩ := hw2;have hw4 : x1 = x1x := hw3;subst hw4;have Hx1 := Lh hok;clear hw3 hok;go_wp2_with fail
     go_roundg gm
     case rel => exact ⟨k + 1, by omega, by omega, by go_num, Lh ⟨HI.out.1.below Hx1.out, by rw [HS1.out, if_neg (by simp), HI.out.2.1, List.take_succ_eq_append_getElem (by rw [HN.out]; exact hlt), HXK.out, dO (by rw [HN.out]; exact hlt)], HI.out.2.2.trans (mo Hx1.out)⟩⟩
     case measure => omega
    ·have HCE : Hid (bn (ks.take (k + 1)) = ks.take k) := Lh (by rw [HS1.out, if_pos rfl]; exact HI.out.2.1);obtain ⟨o2, ho2, hcut⟩ := mV (P := Tryz.prog) Tryz.underlying23 hi0 g 0 n cap k (by omega) hcap;obtain rfl : o2 = k * 3 := by rw [ho2 (by omega), hz1]; omega
     clear ho2;go_wp2_with fail;haveI : Nonempty (Wo (Below wr.heap.size wr)) := ⟨⟨wr, HBS.out⟩⟩;refine iR (Below wr.heap.size wr) jc (by kernel_rfl) (below_drewN HBS.out 1) ?_
     iterate 4 (go_big_quiet_step (fail))
     refine je rfl (.tmp 21) rfl g (k * 3) rfl Kx A1 B1 n1 c1 m1 d1 HRG1.out ?_;try simp only [Act.put, pP]
     iterate 4 (go_big_quiet_step (fail))
     refine je rfl (.tmp 26) rfl g (jp * 3) rfl Ky A2 B2 n2 c2 m2 d2 HRG2.out ?_;try simp only [Act.put, pP]
     repeat (go_big_quiet_step ((go_at_call 122; exact lh HOX.out _)))
     refine wpQuiet_nil ?_;intro x1 hw2;obtain ⟨⟨x1x, hok⟩, hw3⟩ := hw2;have hw4 : x1 = x1x := hw3;subst hw4;have Hx1 := Lh hok;clear hw3 hok;go_wp2_with fail
     go_loopg [5, 7] (n - k - 1) (fun g2 s5 s7 wr => ∃ (kk j : Nat) (cur : List Rx), j + g2 = n - k /\ (1 <= j /\ 1 <= kk /\ kk < k + j) /\ s5 = .int .i64 (kk : Int) /\ s7 = .int .i64 (j : Int) /\ Hid (az q base (.slice (some ⟨g, 0, none⟩) n cap) cur wr /\ cur.length = n /\ cur.take kk = bn (ks.take (k + j)) /\ (∀ i, k + j <= i + 1 -> i < n -> ak cur i = ak ks i) /\ w.grownBy wr (some g)))
     case atStart => exact ⟨k, 1, ks, by omega, by omega, rfl, rfl, Lh ⟨HI.out.1.below Hx1.out, HN.out, HCE.out.symm, fun i h1 h2 => rfl, HI.out.2.2.trans (mo Hx1.out)⟩⟩
     case round =>
      obtain ⟨kk, j, cur, hj, ⟨hj1, hkk1, hkkj⟩, rfl, rfl, HJ⟩ := hrel
      by_cases hlt2 : j < n - k
      ·obtain ⟨g2, rfl⟩ : ∃ g, gk = g + 1 := ⟨gk - 1, by omega⟩;have hkj : k + j < n := by omega
       obtain ⟨ip, hip⟩ : ∃ ip, ip + 1 = j := ⟨j - 1, by omega⟩;obtain ⟨A3, n3, c3, B3, m3, d3, hrg3, hok3⟩ := HJ.out.1.kid (k := k + j) (by rw [HJ.out.2.1]; exact hkj);obtain ⟨A4, n4, c4, B4, m4, d4, hrg4, hok4⟩ := HJ.out.1.kid (k := k + ip) (by rw [HJ.out.2.1]; omega);rw [show (k + j) * 3 = k * 3 + j * 3 by omega] at hrg3;rw [show (k + ip) * 3 = k * 3 + ip * 3 by omega] at hrg4;obtain ⟨u, hu⟩ : ∃ u, u = ak cur (k + j) := ⟨_, rfl⟩;obtain ⟨v, hv⟩ : ∃ u, u = ak cur (k + ip) := ⟨_, rfl⟩;rw [<- hu] at hrg3 hok3;rw [<- hv] at hrg4 hok4;have HUV : Hid (u = ak ks (k + j) /\ v = ak ks (k + j - 1)) := Lh ⟨by rw [hu]; exact HJ.out.2.2.2.1 _ (by omega) hkj, by rw [hv, show k + j - 1 = k + ip by omega]; exact HJ.out.2.2.2.1 _ (by omega) (by omega)⟩;obtain ⟨Y, hY⟩ : ∃ Y, Y = decide (aW u v = 0) := ⟨_, rfl⟩;obtain ⟨Ku, hKu⟩ : ∃ K, K = u.kind := ⟨_, rfl⟩;obtain ⟨Kv, hKv⟩ : ∃ K, K = v.kind := ⟨_, rfl⟩;have HOY : Hid (∀ W, Below wr.heap.size wr W -> Calls Tryz.prog 122 #[.agg #[.int .i64 Ku, .slice A3 n3 c3, .slice B3 m3 d3], .agg #[.int .i64 Kv, .slice A4 n4 c4, .slice B4 m4 d4]] W fun e w' => e = .returned (.bool Y) /\ Below wr.heap.size wr w') := Lh fun W hb => (by rw [hKu, hKv]; exact (uB u v Y hY A3 B3 A4 B4 n3 c3 m3 d3 n4 c4 m4 d4 W (hok3.o.below hb) (hok4.o.below hb)).mono fun e w' hp => ⟨hp.1, ae hb hp.2⟩)
       rw [<- hKu] at hrg3;rw [<- hKv] at hrg4;have HRG3 : Hid (∀ p : Wo (Below wr.heap.size wr), p.wo.rangeAt g (k * 3 + j * 3) (zV Ku A3 n3 c3 B3 m3 d3)) := Lh fun p => fK hrg3 p.ok
       have HRG4 : Hid (∀ p : Wo (Below wr.heap.size wr), p.wo.rangeAt g (k * 3 + ip * 3) (zV Kv A4 n4 c4 B4 m4 d4)) := Lh fun p => fK hrg4 p.ok
       have HOK3 := Lh hok3;have HKU := Lh hKu;have HBS2 : Hid (Below wr.heap.size wr wr) := Lh (Below.refl _ _);have HS2 : Hid (bn (ks.take (k + (j + 1))) = if Y then bn (ks.take (k + j)) else bn (ks.take (k + j)) ++ [u]) := Lh (by
        rw [show k + (j + 1) = k + j + 1 by omega, yl (by omega) (by rw [HN.out]; exact hkj), <- HUV.out.1, <- HUV.out.2, hY]
        by_cases e : aW u v = 0
        ·rw [if_pos e, if_pos (dT e)]
        ·rw [if_neg e, if_neg (by simpa using e)])
       have z3 : (j : Int) - 1 = (ip : Int) := by omega
       have z4 : IntKind.i64.wrap (ip : Int) = (ip : Int) := by rw [IntKind.wrap_i64]; omega
       have p3 : (j : Int) < ((n - k : Nat) : Int) := by omega
       have p4 : (ip : Int) < ((n - k : Nat) : Int) := by omega
       have p5 : (kk : Int) < (n : Int) := by omega
       have p7 : kk < n := by omega
       clear hrg3 hrg4 hok3 hok4 hu hv hY hKu hKv
       cases Y
       ·go_wp2_with fail;haveI : Nonempty (Wo (Below wr.heap.size wr)) := ⟨⟨wr, HBS2.out⟩⟩;refine iR (Below wr.heap.size wr) jc (by kernel_rfl) (below_drewN HBS2.out 1) ?_
        iterate 4 (go_big_quiet_step (fail))
        refine je rfl (.tmp 41) rfl g (k * 3 + j * 3) rfl Ku A3 B3 n3 c3 m3 d3 HRG3.out ?_;try simp only [Act.put, pP]
        iterate 4 (go_big_quiet_step (fail))
        refine je rfl (.tmp 46) rfl g (k * 3 + ip * 3) rfl Kv A4 B4 n4 c4 m4 d4 HRG4.out ?_;try simp only [Act.put, pP]
        repeat (go_big_quiet_step ((go_at_call 122; exact lh HOY.out _)))
        refine wpQuiet_nil ?_;intro y1 hw2;obtain ⟨⟨y1x, hok⟩, hw3⟩ := hw2;have hw4 : y1 = y1x := hw3;subst hw4;have Hy1 := Lh hok;clear hw3 hok;have HR3 : Hid (y1.rangeAt g (k * 3 + j * 3) (zV Ku A3 n3 c3 B3 m3 d3)) := Lh (HRG3.out ⟨y1, Hy1.out⟩)
        go_wp2_with (first
         |(refine aA rfl (.tmp 54) rfl g (k * 3 + j * 3) rfl Ku A3 B3 n3 c3 m3 d3 HR3.out ?_)
         |(refine kT rfl (.tmp 56) (.tmp 55) rfl (HJ.out.1.below Hy1.out) HJ.out.2.1.symm p7 rfl u Ku HKU.out A3 B3 n3 c3 m3 d3 rfl (HOK3.out.below Hy1.out).q ?_; intro w6 hw6; have H6 : Hid (az q base (.slice (some ⟨g, 0, none⟩) n cap) (cur.set kk u) w6 /\ w.grownBy w6 (some g)) := Lh ⟨hw6.1, (HJ.out.2.2.2.2.trans (mo Hy1.out)).trans hw6.2⟩; clear hw6))
        go_roundg g2
        case rel => exact ⟨kk + 1, j + 1, cur.set kk u, by omega, by omega, by go_num, by go_num, Lh ⟨H6.out.1, by rw [List.length_set]; exact HJ.out.2.1, by
         rw [HS2.out, if_neg (by simp), <- HJ.out.2.2.1, List.take_succ_eq_append_getElem (by rw [List.length_set, HJ.out.2.1]; exact p7), List.take_set, List.set_eq_of_length_le (by simp; omega), List.getElem_set_self], fun i h1 h2 => by
         rw [mr (by omega)]; exact HJ.out.2.2.2.1 i (by omega) h2, H6.out.2⟩⟩
        case measure => omega
       ·go_wp2_with fail;haveI : Nonempty (Wo (Below wr.heap.size wr)) := ⟨⟨wr, HBS2.out⟩⟩;refine iR (Below wr.heap.size wr) jc (by kernel_rfl) (below_drewN HBS2.out 1) ?_
        iterate 4 (go_big_quiet_step (fail))
        refine je rfl (.tmp 41) rfl g (k * 3 + j * 3) rfl Ku A3 B3 n3 c3 m3 d3 HRG3.out ?_;try simp only [Act.put, pP]
        iterate 4 (go_big_quiet_step (fail))
        refine je rfl (.tmp 46) rfl g (k * 3 + ip * 3) rfl Kv A4 B4 n4 c4 m4 d4 HRG4.out ?_;try simp only [Act.put, pP]
        repeat (go_big_quiet_step ((go_at_call 122; exact lh HOY.out _)))
        refine wpQuiet_nil ?_;intro y1 hw2;obtain ⟨⟨y1x, hok⟩, hw3⟩ := hw2;have hw4 : y1 = y1x := hw3;subst hw4;have Hy1 := Lh hok;clear hw3 hok;go_wp2_with fail
        go_roundg g2
        case rel => exact ⟨kk, j + 1, cur, by omega, by omega, by first | rfl | go_num, by go_num, Lh ⟨HJ.out.1.below Hy1.out, HJ.out.2.1, by rw [HS2.out, if_pos (by trivial)]; exact HJ.out.2.2.1, fun i h1 h2 => HJ.out.2.2.2.1 i (by omega) h2, HJ.out.2.2.2.2.trans (mo Hy1.out)⟩⟩
        case measure => omega
      ·have hjn : k + j = n := by omega
       have hkn : kk <= n := by omega
       obtain ⟨o3, ho3, hcut3⟩ := mV (P := Tryz.prog) Tryz.underlying23 hi0 g 0 n cap kk hkn hcap;obtain ⟨w8, hcl, hrw, hgr⟩ := Gu (k := kk) (o := o3) HJ.out.1 HJ.out.2.1.symm hkn (n - kk) (cap - kk) rfl (fun h => by rw [ho3 (by omega), hz1]; omega);have hcut4 := fun W => o8 (P := Tryz.prog) Tryz.underlying23 hi0 (some ⟨g, 0, none⟩) n kk cap (by omega) W
       have HE : Hid (az q base (.slice (some ⟨g, 0, none⟩) kk cap) (bn ks) w8 /\ w.grownBy w8 (some g)) := Lh ⟨by
        have h1 := HJ.out.2.2.1;rw [hjn, List.take_of_length_le (l := ks) (by rw [HN.out]; exact Nat.le_refl _)] at h1;rw [<- h1]; exact hrw, HJ.out.2.2.2.2.trans hgr⟩
       have p3 : ¬ (j : Int) < ((n - k : Nat) : Int) := by omega
       clear hrw hgr ho3;go_wp2_with fail;go_ret;exact ⟨_, rfl, HE.out⟩
   ·obtain rfl : k = n := by omega
    have HE : Hid (bn ks = ks) := Lh (by have := HI.out.2.1; rw [List.take_of_length_le (by rw [HN.out]; exact Nat.le_refl _)] at this; exact this);go_wp2_with fail;go_ret;exact ⟨_, rfl, by rw [HE.out]; exact HI.out.1, HI.out.2.2⟩
namespace Rgx
def eZ (l : List Int) : Nat := l.foldl (fun s x => s ||| 2 ^ x.toNat) 0
def dH (s : Nat) : List Int := ((List.range 64).filter fun i => s.testBit i).map Int.ofNat
theorem yB : ∀ (l : List Int) (s : Nat) (i : Nat), (l.foldl (fun s x => s ||| 2 ^ x.toNat) s).testBit i = (s.testBit i || l.any fun x => decide (x.toNat = i))
 |[], s, i => by simp
 |x :: l, s, i => by
  rw [List.foldl_cons, yB l, Nat.testBit_or, Nat.testBit_two_pow, List.any_cons, Bool.or_assoc]
theorem mK {l : List Int} (h : ∀ x ∈ l, 0 <= x /\ x < 64) (i : Nat) : (eZ l).testBit i = true ↔ (i : Int) ∈ l := by
 unfold eZ;rw [yB];simp only [Nat.zero_testBit, Bool.false_or, List.any_eq_true, decide_eq_true_eq];constructor
 ·rintro ⟨x, hx, e⟩;have := h x hx;rw [show (i : Int) = x by omega]; exact hx
 ·intro hi;exact ⟨_, hi, by omega⟩
theorem Ci {s : Nat} (h : ∀ i, 64 <= i -> s.testBit i = false) : s < 18446744073709551616 := by
 rw [show 18446744073709551616 = 2 ^ 64 from rfl];exact Nat.lt_pow_two_of_testBit s fun i hi => h i hi
theorem oh {l : List Int} (h : ∀ x ∈ l, 0 <= x /\ x < 64) : eZ l < 18446744073709551616 := Ci fun i hi => by
 rw [Bool.eq_false_iff];intro e;have := h _ ((mK h i).1 e);omega
theorem AV (l : List Int) (x : Int) : eZ (l ++ [x]) = eZ l ||| 2 ^ x.toNat := by
 unfold eZ;rw [List.foldl_append]; rfl
theorem DY {l : List Int} {k : Nat} (hk : k < l.length) : eZ (l.take (k + 1)) = eZ (l.take k) ||| 2 ^ (l.getD k 0).toNat := by
 rw [List.take_succ_eq_append_getElem hk, AV];simp [List.getD, hk]
theorem lI {s : Nat} {x : Int} : x ∈ dH s ↔ (0 <= x /\ x < 64) /\ s.testBit x.toNat = true := by
 unfold dH;rw [List.mem_map];constructor
 ·rintro ⟨i, hi, rfl⟩;obtain ⟨h1, h2⟩ := List.mem_filter.1 hi;have := List.mem_range.1 h1;refine ⟨⟨?_, ?_⟩, by simpa using h2⟩
  ·show 0 <= (i : Int); omega
  ·show (i : Int) < 64; omega
 ·rintro ⟨h1, h2⟩;exact ⟨x.toNat, List.mem_filter.2 ⟨List.mem_range.2 (by omega), h2⟩, by show ((x.toNat : Nat) : Int) = x; omega⟩
theorem sS (s : Nat) : (dH s).Pairwise (· < ·) := by
 unfold dH;rw [List.pairwise_map];exact (List.pairwise_lt_range.filter _).imp fun h => by show ((_ : Nat) : Int) < ((_ : Nat) : Int); omega
theorem Ca (s : Nat) (h0 : s ≠ 0) (h : s < 18446744073709551616) : Lib.ctz 64 s < 64 /\ ∀ i, (s &&& (s - 1)).testBit i = (s.testBit i && decide (i ≠ Lib.ctz 64 s)) /\ (s.testBit i = true -> Lib.ctz 64 s <= i) /\ (i = Lib.ctz 64 s -> s.testBit i = true) := by
 obtain ⟨m, hm, hk⟩ := Lib.ctzFrom_spec 64 s (by omega) (by simpa using h);have e : Lib.ctz 64 s = Lib.ctzFrom 64 s := by unfold Lib.ctz; rw [if_neg h0]
 rw [e];obtain ⟨k, hkk⟩ : ∃ k, k = Lib.ctzFrom 64 s := ⟨_, rfl⟩;rw [<- hkk] at hm hk ⊢;refine ⟨hk, fun i => ?_⟩;have hp : 0 < 2 ^ k := Nat.two_pow_pos k;have e1 : s - 1 = 2 ^ k * (2 * m) + (2 ^ k - 1) := by rw [hm, Nat.mul_add]; omega
 have hs : s.testBit i = (decide (k <= i) && (2 * m + 1).testBit (i - k)) := by
  rw [hm, Nat.testBit_two_pow_mul]
 have hs1 : (s - 1).testBit i = if i < k then (2 ^ k - 1).testBit i else (2 * m).testBit (i - k) := by
  rw [e1];exact Nat.testBit_two_pow_mul_add _ (by omega) _
 have b1 : ∀ j, (2 * m + 1).testBit j = if j = 0 then true else m.testBit (j - 1) := fun j => by
  cases j with
  |zero => simp [Nat.testBit_zero]
  |succ j => rw [Nat.testBit_succ]; simp; congr 1; omega
 have b2 : ∀ j, (2 * m).testBit j = if j = 0 then false else m.testBit (j - 1) := fun j => by
  cases j with
  |zero => simp [Nat.testBit_zero]
  |succ j => rw [Nat.testBit_succ]; simp
 refine ⟨?_, fun ht => ?_, fun hi => ?_⟩
 ·rw [Nat.testBit_and, hs, hs1, b1, b2]
  by_cases h1 : i < k
  ·have : ¬ k <= i := by omega
   simp [this]
  ·have h2 : k <= i := by omega
   by_cases h3 : i = k
   ·subst h3; simp
   ·have h4 : i - k ≠ 0 := by omega
    simp [h1, h2, h3, h4]
 ·rw [hs, Bool.and_eq_true, decide_eq_true_eq] at ht;exact ht.1
 ·rw [hs, hi, b1]; simp
theorem yn {s : Nat} (h0 : s ≠ 0) (h : s < 18446744073709551616) : dH s = (Lib.ctz 64 s : Int) :: dH (s &&& (s - 1)) := by
 obtain ⟨hk, hb⟩ := Ca s h0 h;refine mO (sS s) (List.pairwise_cons.2 ⟨fun x hx => ?_, sS _⟩) fun x => ?_
 ·obtain ⟨h1, h2⟩ := lI.1 hx;rw [(hb x.toNat).1, Bool.and_eq_true, decide_eq_true_eq] at h2;have := (hb x.toNat).2.1 h2.1;omega
 ·rw [List.mem_cons, lI, lI];constructor
  ·rintro ⟨h1, h2⟩
   by_cases e : x = (Lib.ctz 64 s : Int)
   ·exact .inl e
   ·refine .inr ⟨h1, ?_⟩;rw [(hb x.toNat).1, h2];have : x.toNat ≠ Lib.ctz 64 s := by omega
    simp [this]
  ·rintro (rfl | ⟨h1, h2⟩)
   ·exact ⟨⟨by omega, by omega⟩, (hb _).2.2 (by omega)⟩
   ·rw [(hb x.toNat).1, Bool.and_eq_true] at h2;exact ⟨h1, h2.1⟩
theorem wP : dH 0 = [] := by
 unfold dH;rw [List.filter_eq_nil_iff.2 (fun x _ => by simp)]; rfl
theorem Bg (s : Nat) : (dH s).length <= 64 := by
 unfold dH;rw [List.length_map];exact Nat.le_trans (List.length_filter_le _ _) (by simp)
theorem En {s : Nat} {f : List Rx} (h : ∀ i : Nat, s.testBit i = true ↔ ∃ x ∈ f, (i : Int) ∈ x.syms) : dH s = bO f :=
 mO (sS s) (nV f) fun x => by
  rw [lI, iE, h];constructor
  ·rintro ⟨h1, h2⟩;rw [show ((x.toNat : Nat) : Int) = x by omega] at h2;exact ⟨h1, h2⟩
  ·rintro ⟨h1, h2⟩;rw [show ((x.toNat : Nat) : Int) = x by omega];exact ⟨h1, h2⟩
theorem EA {s : Nat} (h0 : s ≠ 0) : s &&& (s - 1) < s := by
 have : s &&& (s - 1) <= s - 1 := Nat.and_le_right;omega
end Rgx
def DB (w : World) : Prop := TabAt 0 Lib.deBruijn64tab w
theorem DB.below {w W : World} (h : DB w) (hb : Below w.heap.size w W) : DB W := fun j hj => (hb.cell (p := ⟨_, j, none⟩) (World.block_lt_of_cell? w _ (h j hj))).trans (h j hj)
theorem rR (l : List Int) (A : Option Addr) (n c : Nat) (hn : n = l.length) (hc : n <= c) (hm : c <= 9223372036854775807) (hl : ∀ x ∈ l, 0 <= x /\ x < 64) (w : World) (hr : Rd w A (iv l)) : Calls Tryz.prog 91 #[.slice A n c] w fun e w' => e = .returned (.int .u64 (eZ l : Nat)) /\ Below w.heap.size w w' := by
 have HV : Hid (n = l.length /\ ∀ x ∈ l, 0 <= x /\ x < 64) := Lh ⟨hn, hl⟩;have HR := Lh hr;clear hn hr hl;go_enter Tryz.func91, Tryz.ntmps91;go_wp2_with fail
 go_loopg [3, 8] n (fun g s3 s8 wr => ∃ (k S : Nat), k + g = n /\ s3 = .int .u64 (S : Int) /\ s8 = .int .i64 (k : Int) /\ Hid (S = eZ (l.take k) /\ Below w.heap.size w wr))
 case atStart => exact ⟨0, 0, by omega, rfl, rfl, Lh ⟨rfl, Below.refl _ _⟩⟩
 case round =>
  obtain ⟨k, S, hk, rfl, rfl, HI⟩ := hrel
  by_cases hlt : k < n
  ·obtain ⟨g, rfl⟩ : ∃ g, gk = g + 1 := ⟨gk - 1, by omega⟩;have hkl : k < l.length := by rw [<- HV.out.1]; exact hlt
   obtain ⟨b, o, rfl, hil⟩ := mh HR.out (by intro e; rw [e] at hkl; simp at hkl);obtain ⟨x, hx⟩ : ∃ x, x = l.getD k 0 := ⟨_, rfl⟩;have l1 : wr.cell? ⟨b, o + k, none⟩ = some (.int .i64 x) := hil.at HI.out.2 hkl hx;have hmem : x ∈ l := by rw [hx]; simp only [List.getD, List.getElem?_eq_getElem hkl, Option.getD_some]; exact List.getElem_mem hkl
   have hx0 : 0 <= x := (HV.out.2 x hmem).1;have hx64 : x <= 64 := by have := (HV.out.2 x hmem).2; omega
   have hx63 : x < 64 := (HV.out.2 x hmem).2;obtain ⟨P, hP⟩ : ∃ P, P = 2 ^ x.toNat := ⟨_, rfl⟩;have hPlt : P < 18446744073709551616 := by
    rw [hP, show 18446744073709551616 = 2 ^ 64 from rfl];exact Nat.pow_lt_pow_right (by omega) (by omega)
   have eP : IntKind.u64.wrap (2 ^ x.toNat) = (P : Int) := by
    rw [IntKind.wrap_u64, hP];have h2 : ((2 : Int) ^ x.toNat) = ((2 ^ x.toNat : Nat) : Int) := by norm_cast
    rw [h2, <- hP]; omega
   have hSlt : S < 18446744073709551616 := by rw [HI.out.1]; exact oh fun y hy => HV.out.2 y (List.mem_of_mem_take hy)
   obtain ⟨S2, hS2⟩ : ∃ S2, S2 = S ||| P := ⟨_, rfl⟩;have eO : bits .or .u64 (S : Int) (P : Int) = (S2 : Int) := by rw [bits_or_u64_nat S P hSlt hPlt, hS2]
   have HS : Hid (S2 = eZ (l.take (k + 1))) := Lh (by rw [DY hkl, <- hx, <- hP, <- HI.out.1, hS2]);clear hx hil hmem hP hS2;go_wp2_with fail
   go_roundg g
   case rel => exact ⟨k + 1, S2, by omega, by first | rfl | go_num, by go_num, Lh ⟨HS.out, HI.out.2⟩⟩
   case measure => omega
  ·obtain rfl : k = n := by omega
   have HE : Hid (S = eZ l) := Lh (by rw [HI.out.1, List.take_of_length_le (by rw [<- HV.out.1]; omega)]);go_wp2_with fail;go_ret;exact ⟨by rw [<- HE.out]; rfl, HI.out.2⟩
theorem Fx (z : Int) : bits .and .i64 z 127 = ((z % 128).toNat : Int) := by rw [i64_and127]; omega
theorem Dp (x : Nat) (hx : x < 18446744073709551616) (w : World) : Calls Tryz.prog 139 #[.int .u64 (x : Int)] w fun e w' => ∃ n : Nat, n <= 127 /\ e = .returned (.int .i64 (n : Int)) /\ w' = w := by
 go_enter Tryz.func139, Tryz.ntmps139;go_wp2_with fail;go_ret;refine ⟨_, ?_, congrArg (fun v => Ending.returned (Value.int .i64 v)) (Fx _), rfl⟩;omega
theorem Gy (x : Nat) (hx : x < 18446744073709551616) (hx0 : x ≠ 0) (w : World) (hT : DB w) : Calls Tryz.prog 140 #[.int .u64 (x : Int)] w fun e w' => e = .returned (.int .i64 (Lib.ctz 64 x : Nat)) /\ w' = w := by
 obtain ⟨hlow, hk⟩ := Lib.lowest_bit 64 x hx0 hx;obtain ⟨hi, htab⟩ := Lib.deBruijn64_at _ hk;have hcell := hT _ hi;rw [htab] at hcell;have key := tz64_key x _ hx hx0 hlow;obtain ⟨dP, hidx⟩ : ∃ i, i = 2 ^ Lib.ctz 64 x * 285870213051353865 % 18446744073709551616 / 288230376151711744 := ⟨_, rfl⟩;rw [<- hidx] at hcell key hi;obtain ⟨k, hkk⟩ : ∃ k, k = Lib.ctz 64 x := ⟨_, rfl⟩;rw [<- hkk] at hcell hk ⊢;have e0 : ((x : Int) == 0) = false := by simp; omega
 clear hlow htab hidx hkk hT;go_enter Tryz.func140, Tryz.ntmps140
 go_wp2_with (simp only [key])
 go_ret;exact ⟨rfl, rfl⟩
theorem yH : (Tryz.prog.info? 3).map (fun i => (i.zero, i.size, i.bytes)) = some (some (.int .i64 0), 1, 8) := by kernel_rfl
def kW (w : World) (l : List Int) (e : Ending) (w' : World) : Prop := ∃ A n c, e = .returned (.slice A n c) /\ n = l.length /\ n <= c /\ c <= maxLen /\ Rd w' A (iv l) /\ (∀ b o, A = some ⟨b, o, none⟩ -> w.heap.size <= b /\ b < w'.heap.size) /\ Below w.heap.size w w'
theorem rU {w w' : World} {l : List Int} {e : Ending} (h : kW w l e w') : ∃ A n c, e = .returned (.slice A n c) /\ n = l.length /\ n <= c /\ c <= maxLen /\ Rd w' A (iv l) /\ (∀ b o, A = some ⟨b, o, none⟩ -> w.heap.size <= b /\ b < w'.heap.size) /\ Below w.heap.size w w' := h
theorem zf (n : Nat) (hn : n <= 1000000) (w : World) : (Instr.makeSlice 22 (.int .i64 0) (.int .i64 (n : Int))).run Tryz.prog w = .ok (.slice (some ⟨w.heap.size, 0, none⟩) 0 n) (w.alloc (.cells (iv (List.replicate n 0)).toArray 3)) := by
 obtain ⟨i0, hi0, hz0, hz1, hz2⟩ := info_parts yH;have h := run_make (P := Tryz.prog) w 22 3 i0 _ Tryz.underlying22 hi0 hz0 .i64 .i64 0 (n : Int) (Int.le_refl _) (by omega) (by rw [hz2]; omega) (by omega);have e : madeCells (Value.int .i64 0).cells n = (iv (List.replicate n 0)).toArray := by
  apply Array.ext
  ·simp [rq, madeCells]
  ·intro i h1 h2;simp [madeCells, iv, Value.cells, Nat.mod_one]
 rw [h, Int.toNat_natCast, hz1, Nat.mul_one, e]
 rfl
theorem GX (w : World) (n : Nat) (hn : n <= 1000000) (Z : Array Value) (hZ : Z = (iv (List.replicate n 0)).toArray) : (w.alloc (.cells Z 3)).ownsRow w.heap.size 3 1 (.slice (some ⟨w.heap.size, 0, none⟩) 0 n) 0 (iv []) := by
 subst hZ;exact ⟨rfl, .inr ⟨w.heap.size, n, _, rfl, Nat.le_refl _, heap_alloc_new w _, Nat.zero_le _, by unfold maxLen; omega, by simp [rq], rfl⟩⟩
theorem vE (S0 : Nat) (hS0 : S0 < 18446744073709551616) (w : World) (hT : DB w) : Calls Tryz.prog 118 #[.int .u64 (S0 : Int)] w (kW w (dH S0)) := by
 have HO : Hid (∀ W, Calls Tryz.prog 139 #[.int .u64 (S0 : Int)] W fun e w' => ∃ n : Nat, n <= 127 /\ e = .returned (.int .i64 (n : Int)) /\ w' = W) := Lh (Dp S0 hS0);have HT := Lh hT;have HS0 := Lh hS0;obtain ⟨i0, hi0, hz0, hz1, hz2⟩ := info_parts yH;obtain ⟨N, hN⟩ : ∃ N, N = (dH S0).length := ⟨_, rfl⟩;have HN := Lh hN;clear hT hS0 hN;go_enter Tryz.func118, Tryz.ntmps118
 go_wp2_with ((with_reducible refine (HO.out _).mono ?_); rintro e w1 ⟨n1, hn1, rfl, hw1⟩; have hw2 := hw1.symm; clear hw1; subst hw2; have hmk := fun W => zf n1 (by omega) W; obtain ⟨Z, hZ⟩ : ∃ Z, Z = (iv (List.replicate n1 0)).toArray := ⟨_, rfl⟩; rw [<- hZ] at hmk; have HX4 : Hid ((w.alloc (.cells Z 3)).ownsRow w.heap.size 3 1 (.slice (some ⟨w.heap.size, 0, none⟩) 0 n1) 0 (iv []) /\ Below w.heap.size w (w.alloc (.cells Z 3))) := Lh ⟨GX w n1 (by omega) Z hZ, ag _ _⟩; clear hZ)
 go_loopg [0, 3] N (fun g s0 s3 wr => ∃ (S : Nat) (out : List Int), s0 = .int .u64 (S : Int) /\ Hid (g = (dH S).length /\ S < 18446744073709551616 /\ out ++ dH S = dH S0 /\ wr.ownsRow w.heap.size 3 1 s3 out.length (iv out) /\ Below w.heap.size w wr))
 case atStart => exact ⟨S0, [], rfl, Lh ⟨HN.out, HS0.out, rfl, HX4.out.1, HX4.out.2⟩⟩
 case round =>
  obtain ⟨S, R, rfl, HI⟩ := hrel;obtain ⟨A5, c5, hv, hrd5, hmc, hm2⟩ := Rd.of_own HI.out.2.2.2.1;subst hv;have HR5 := Lh hrd5;have hlen : R.length <= 64 := by have h1 := congrArg List.length HI.out.2.2.1; have := Bg S0; rw [List.length_append] at h1; omega
  obtain ⟨m, hm⟩ : ∃ m, m = R.length := ⟨_, rfl⟩;have HI2 := HI.out;rw [<- hm] at HI2 hlen hmc;have HJ := Lh HI2;have HM := Lh hm;rw [<- hm];clear HI HI2 hm hrd5
  by_cases h0 : S = 0
  ·have e1 : ((S : Int) != 0) = false := by subst h0; rfl
   have HE : Hid (R = dH S0) := Lh (by have := HJ.out.2.2.1; rw [h0, wP, List.append_nil] at this; exact this);clear h0;go_wp2_with fail;go_ret;refine ⟨_, _, _, rfl, by rw [<- HE.out]; exact HM.out, hmc, hm2, by rw [<- HE.out]; exact HR5.out, fun b o hb => ?_, HJ.out.2.2.2.2⟩;subst hb;have := HJ.out.2.2.2.1.lt b rfl;exact this
  ·have e1 : ((S : Int) != 0) = true := by simp; exact h0
   have hst := yn h0 HJ.out.2.1;obtain ⟨g, rfl⟩ : ∃ g, gk = g + 1 := ⟨gk - 1, by have := HJ.out.1; rw [hst] at this; simp at this; omega⟩;obtain ⟨k, hk⟩ : ∃ k, k = Lib.ctz 64 S := ⟨_, rfl⟩;obtain ⟨S2, hS2⟩ : ∃ S2, S2 = S &&& (S - 1) := ⟨_, rfl⟩;have HTZ : Hid (∀ W, Below w.heap.size w W -> Calls Tryz.prog 140 #[.int .u64 (S : Int)] W fun e w' => e = .returned (.int .i64 (k : Int)) /\ w' = W) := Lh fun W hb => by rw [hk]; exact Gy S HJ.out.2.1 h0 W (HT.out.below hb)
   have eS1 : IntKind.u64.wrap ((S : Int) - 1) = ((S - 1 : Nat) : Int) := by rw [IntKind.wrap_u64]; have := HJ.out.2.1; omega
   obtain ⟨Sm, hSm⟩ : ∃ Sm, Sm = S - 1 := ⟨_, rfl⟩;rw [<- hSm] at eS1;have eA : bits .and .u64 (S : Int) (Sm : Int) = (S2 : Int) := by rw [bits_and_u64_nat S Sm HJ.out.2.1 (by have := HJ.out.2.1; omega), hS2, hSm]
   have HS : Hid (dH S = (k : Int) :: dH S2 /\ S2 < 18446744073709551616) := Lh ⟨by rw [hst, hk, hS2], by have := EA h0; have := HJ.out.2.1; omega⟩;have hs1 : m + 1 <= maxLen := by unfold maxLen; omega
   have hs2 : (m + 1) * 8 <= 140737488355328 := by omega
   clear hst hk hS2 hSm h0
   go_wp2_with (first
    |((with_reducible refine (HTZ.out _ HJ.out.2.2.2.2).mono ?_); rintro e w1 ⟨rfl, hw1⟩; have hw2 := hw1.symm; clear hw1; subst hw2)
    |(at_builtin; refine eu rfl (.tmp 13) (.tmp 16) 22 22 rfl w.heap.size 3 i0 _ 1 8 Tryz.underlying22 hi0 hz0 hz1 hz2 rfl _ _ _ rfl (DJ HJ.out.2.2.2.1 _) _ 1 [.int .i64 (k : Int)] rfl (qj Tryz.underlying22 hz1 _ _ _ rfl) hs1 hs2 (aB HJ.out.2.2.2.2 _).size ?_; intro v5 w5 hown5 hg5 hat5; have HX5 : Hid (w5.ownsRow w.heap.size 3 1 v5 (m + 1) (iv R ++ [.int .i64 (k : Int)]) /\ Below w.heap.size w w5) := Lh ⟨hown5, dJ (aB HJ.out.2.2.2.2 _) hg5 (fun g hg => (HJ.out.2.2.2.1.lt _ hg).1)⟩; clear hown5 hg5 hat5))
   go_roundg g
   case rel =>
    refine ⟨S2, R ++ [(k : Int)], by first | rfl | go_num, Lh ⟨by have := HJ.out.1; rw [HS.out.1] at this; simp at this; exact this, HS.out.2, ?_, ?_, HX5.out.2⟩⟩
    ·rw [<- HJ.out.2.2.1, HS.out.1]; simp
    ·rw [List.length_append, <- HM.out, show iv (R ++ [(k : Int)]) = iv R ++ [.int .i64 (k : Int)] by simp [iv]]; exact HX5.out.1
   case measure => omega
theorem CG (p : Rx -> Bool) (F : Nat) (ks : List Rx) (B : Option Addr) (m d : Nat) (hml : m = ks.length) (hmd : m <= d) (hdm : d <= 9223372036854775807) (w : World) (hks : bN w ks B 0) (hen : ∀ args W, (callFunc F args).run Tryz.prog W = .ok (.enter F args) W) (hih : ∀ i, i < ks.length -> ∀ (A B : Option Addr) (n c k d : Nat) (W : World), Below w.heap.size w W -> aC W (ak ks i) A n c B k d -> Calls Tryz.prog F #[.agg #[.int .i64 (ak ks i).kind, .slice A n c, .slice B k d]] W (aI W (p (ak ks i))))
  (V : Bool) (hV : V = ks.any p) : Calls Tryz.prog 115 #[.slice B m d, .func (.func F) #[] #[]] w fun e w' => ∃ x : Int, e = .returned (.int .i64 x) /\ decide (0 <= x) = V /\ Below w.heap.size w w' := by
 have HK : Hid (m = ks.length /\ bN w ks B 0 /\ V = ks.any p) := Lh ⟨hml, hks, hV⟩;have HIH := Lh hih;clear hml hks hV hih;go_enter Tryz.func115, Tryz.ntmps115;go_wp2_with fail
 go_loopg [8] m (fun g s8 wr => ∃ (i : Nat), i + g = m /\ s8 = .int .i64 (i : Int) /\ Hid ((∀ j, j < i -> p (ak ks j) = false) /\ Below w.heap.size w wr))
 case atStart => exact ⟨0, by omega, rfl, Lh ⟨fun j h => by omega, Below.refl _ _⟩⟩
 case round =>
  obtain ⟨i, hi, rfl, HI⟩ := hrel
  by_cases hlt : i < m
  · obtain ⟨g, rfl⟩ : ∃ g, gk = g + 1 := ⟨gk - 1, by omega⟩;have hil : i < ks.length := by rw [<- HK.out.1]; exact hlt
    obtain ⟨b, o, rfl⟩ := HK.out.2.1.place (by omega);obtain ⟨A2, n2, c2, B2, m2, d2, hrg, hok⟩ := HK.out.2.1.kid hil;have HRG := Lh (fK hrg HI.out.2);obtain ⟨X, hX⟩ : ∃ X, X = p (ak ks i) := ⟨_, rfl⟩;have HC : Hid (∀ W, Below w.heap.size w W -> Calls Tryz.prog F #[.agg #[.int .i64 (ak ks i).kind, .slice A2 n2 c2, .slice B2 m2 d2]] W (aI W X)) := Lh fun W hb => by rw [hX]; exact HIH.out i hil A2 B2 n2 c2 m2 d2 W hb (hok.below hb)
    have HX := Lh hX;clear hrg hok hX hil
    cases X
    ·go_wp2_with (first
 |(refine aA rfl (.tmp 14) rfl b (o + i * 3) rfl (ak ks i).kind A2 B2 n2 c2 m2 d2 HRG.out ?_)
 |((refine (HC.out _ HI.out.2).mono ?_); rintro e w1 hp; obtain ⟨rfl, hb⟩ := aN hp; have H1 : Hid (Below w.heap.size w w1) := Lh (ae HI.out.2 hb); clear hp hb))
     go_roundg g
     case rel => exact ⟨i + 1, by omega, by go_num, Lh ⟨fun j hj => by
      by_cases e : j < i
      ·exact HI.out.1 j e
      ·obtain rfl : j = i := by omega
       exact HX.out.symm, H1.out⟩⟩
     case measure => omega
    ·have HBAD : Hid (V = true) := Lh (by
      rw [HK.out.2.2, List.any_eq_true];exact ⟨_, dG (by rw [<- HK.out.1]; exact hlt), HX.out.symm⟩)
     go_wp2_with (first
 |(refine aA rfl (.tmp 14) rfl b (o + i * 3) rfl (ak ks i).kind A2 B2 n2 c2 m2 d2 HRG.out ?_)
 |((refine (HC.out _ HI.out.2).mono ?_); rintro e w1 hp; obtain ⟨rfl, hb⟩ := aN hp; have H1 : Hid (Below w.heap.size w w1) := Lh (ae HI.out.2 hb); clear hp hb))
     go_ret;exact ⟨_, rfl, by rw [HBAD.out]; simp, H1.out⟩
  · obtain rfl : i = m := by omega
    have HE : Hid (V = false) := Lh (by
     rw [HK.out.2.2, List.any_eq_false];intro x hx;obtain ⟨j, hj, e⟩ := List.getElem_of_mem hx;have h1 := HI.out.1 j (by rw [HK.out.1]; exact hj);rw [dO hj] at h1;rw [<- e, h1]; simp)
    go_wp2_with fail;go_ret;exact ⟨_, rfl, by rw [HE.out]; rfl, HI.out.2⟩
theorem sO (p : Rx -> Bool) (F : Nat) (ks : List Rx) (B : Option Addr) (m d : Nat) (hml : m = ks.length) (hmd : m <= d) (hdm : d <= 9223372036854775807) (w : World) (hks : bN w ks B 0) (hen : ∀ args W, (callFunc F args).run Tryz.prog W = .ok (.enter F args) W) (hih : ∀ i, i < ks.length -> ∀ (A B : Option Addr) (n c k d : Nat) (W : World), Below w.heap.size w W -> aC W (ak ks i) A n c B k d -> Calls Tryz.prog F #[.agg #[.int .i64 (ak ks i).kind, .slice A n c, .slice B k d]] W (aI W (p (ak ks i))))
  (V : Bool) (hV : V = ks.any p) : Calls Tryz.prog 78 #[.slice B m d, .func (.func F) #[] #[]] w (aI w V) := by
 have HC := Lh (CG p F ks B m d hml hmd hdm w hks hen hih V hV);clear hml hmd hdm hks hen hih hV;go_enter Tryz.func78, Tryz.ntmps78
 go_wp2_with ((with_reducible refine HC.out.mono ?_); rintro e w1 ⟨x, rfl, hd, hb⟩; have H1 : Hid (Below w.heap.size w w1) := Lh hb; clear hb)
 go_ret;exact ⟨rfl, H1.out⟩
theorem uw (args : Array Value) (W : World) : (callFunc 47 args).run Tryz.prog W = .ok (.enter 47 args) W := by kernel_rfl
theorem Br (args : Array Value) (W : World) : (callFunc 79 args).run Tryz.prog W = .ok (.enter 79 args) W := by kernel_rfl
theorem BX (r : Rx) (X : Bool) (A B : Option Addr) (n c m d : Nat) (w : World) (hc : ∀ W, Below w.heap.size w W -> Calls Tryz.prog 47 #[.agg #[.int .i64 r.kind, .slice A n c, .slice B m d]] W (aI W X)) : Calls Tryz.prog 79 #[.agg #[.int .i64 r.kind, .slice A n c, .slice B m d]] w (aI w (!X)) := by
 obtain ⟨K, hK⟩ : ∃ K, K = r.kind := ⟨_, rfl⟩;rw [<- hK] at hc ⊢;have HC := Lh hc;have hr1 : (w.alloc (zC K A n c B m d)).rangeAt w.heap.size 0 (zV K A n c B m d) := fun j v hv => by rw [Nat.zero_add]; exact iX (Below.refl _ _) j v hv
 clear hc hK;go_enter Tryz.func79, Tryz.ntmps79
 go_wp2_with (first
  |(refine aA rfl (.tmp 1) rfl w.heap.size (0) rfl K A B n c m d hr1 ?_)
  |((with_reducible refine (HC.out _ (ag _ _)).mono ?_); rintro e w1 hp; obtain ⟨rfl, hb⟩ := aN hp; have H1 : Hid (Below w.heap.size w w1) := Lh (ae (ag _ _) hb); clear hp hb))
 go_ret;exact ⟨rfl, H1.out⟩
theorem D7 : ∀ (z : Nat) (r : Rx), SizeOf.sizeOf r <= z -> ∀ (V : Bool), V = aL r -> ∀ (A B : Option Addr) (n c m d : Nat) (w : World), aC w r A n c B m d -> Calls Tryz.prog 47 #[.agg #[.int .i64 r.kind, .slice A n c, .slice B m d]] w (aI w V) := by
 intro z
 induction z with
 |zero => intro r hz; exact absurd hz (by cases r; rw [Rx.mk.sizeOf_spec]; omega)
 |succ z ih =>
  intro r hz V hV A B n c m d w hop;have hk : ∀ i, i < r.kids.length -> ∀ (A B : Option Addr) (n c k d : Nat) (W : World), aC W (ak r.kids i) A n c B k d -> Calls Tryz.prog 47 #[.agg #[.int .i64 (ak r.kids i).kind, .slice A n c, .slice B k d]] W (aI W (aL (ak r.kids i))) := fun i hi A B n c k d W h => ih _ (by have := gB (dG (ks := r.kids) hi); omega) _ rfl A B n c k d W h
  have HAN : Hid (∀ W, Below w.heap.size w W -> Calls Tryz.prog 78 #[.slice B m d, .func (.func 47) #[] #[]] W (aI W (r.kids.any aL))) := Lh fun W hb => sO aL _ r.kids B m d hop.mlen hop.mcap hop.dmax W (bN.below hb _ hop.kids) uw (fun i hi A B n c k d W' _ h => hk i hi A B n c k d W' h) _ rfl
  have HAL : Hid (∀ W, Below w.heap.size w W -> Calls Tryz.prog 78 #[.slice B m d, .func (.func 79) #[] #[]] W (aI W (r.kids.any fun x => !aL x))) := Lh fun W hb => sO (fun x => !aL x) _ r.kids B m d hop.mlen hop.mcap hop.dmax W (bN.below hb _ hop.kids) Br (fun i hi A B n c k d W' _ h => BX _ _ A B n c k d W' fun W2 hb2 => hk i hi A B n c k d W2 (h.below hb2)) _ rfl
  obtain ⟨K, hK⟩ : ∃ K, K = r.kind := ⟨_, rfl⟩;have HVF : Hid (V = if K = 3 then r.kids.all aL else if K = 4 then r.kids.any aL else decide (K = 1 \/ K = 5)) := Lh (by rw [hV, qz, hK]);rw [<- hK];clear hV hop ih hz hK hk
  by_cases k1 : K = 1
  ·skip
   have ab : (K == 1) = true := bT (by omega);have HE : Hid (V = true) := Lh (by rw [HVF.out, if_neg (by omega), if_neg (by omega)]; simp; omega);go_enter Tryz.func47, Tryz.ntmps47;go_wp2_with fail;go_ret;exact ⟨HE.out.symm ▸ rfl, ag _ _⟩
  ·by_cases k5 : K = 5
   ·skip
    have ab : (K == 1) = false := bF (by omega);have bb : (K == 5) = true := bT (by omega);have HE : Hid (V = true) := Lh (by rw [HVF.out, if_neg (by omega), if_neg (by omega)]; simp; omega);go_enter Tryz.func47, Tryz.ntmps47;go_wp2_with fail;go_ret;exact ⟨HE.out.symm ▸ rfl, ag _ _⟩
   ·by_cases k4 : K = 4
    ·skip
     have ab : (K == 1) = false := bF (by omega);have bb : (K == 5) = false := bF (by omega);have cb : (K == 4) = true := bT (by omega);have HE : Hid (V = r.kids.any aL) := Lh (by rw [HVF.out, if_neg (by omega), if_pos k4]);obtain ⟨X, hX⟩ : ∃ X, X = r.kids.any aL := ⟨_, rfl⟩;rw [<- hX] at HAN HE;clear hX;go_enter Tryz.func47, Tryz.ntmps47
     go_wp2_with ((with_reducible refine (HAN.out _ (ag _ _)).mono ?_); rintro e w1 hp; obtain ⟨rfl, hb⟩ := aN hp; have H1 : Hid (Below w.heap.size w w1) := Lh (ae (ag _ _) hb); clear hp hb)
     go_ret;exact ⟨HE.out.symm ▸ rfl, H1.out⟩
    ·by_cases k3 : K = 3
     ·skip
      have ab : (K == 1) = false := bF (by omega);have bb : (K == 5) = false := bF (by omega);have cb : (K == 4) = false := bF (by omega);have db : (K == 3) = true := bT (by omega);have HE : Hid (V = !(r.kids.any fun x => !aL x)) := Lh (by rw [HVF.out, if_pos k3, List.all_eq_not_any_not]);obtain ⟨X, hX⟩ : ∃ X, X = r.kids.any fun x => !aL x := ⟨_, rfl⟩
      rw [<- hX] at HAL HE;clear hX;go_enter Tryz.func47, Tryz.ntmps47
      go_wp2_with ((with_reducible refine (HAL.out _ (ag _ _)).mono ?_); rintro e w1 hp; obtain ⟨rfl, hb⟩ := aN hp; have H1 : Hid (Below w.heap.size w w1) := Lh (ae (ag _ _) hb); clear hp hb)
      go_ret;exact ⟨HE.out.symm ▸ rfl, H1.out⟩
     ·skip
      have ab : (K == 1) = false := bF (by omega);have bb : (K == 5) = false := bF (by omega);have cb : (K == 4) = false := bF (by omega);have db : (K == 3) = false := bF (by omega);have HE : Hid (V = false) := Lh (by rw [HVF.out, if_neg (by omega), if_neg (by omega)]; simp; omega);go_enter Tryz.func47, Tryz.ntmps47;go_wp2_with fail;go_ret;exact ⟨HE.out.symm ▸ rfl, ag _ _⟩
theorem xN {r : Rx} {A B : Option Addr} {n c m d : Nat} {w : World} (h : aC w r A n c B m d) (V : Bool) (hV : V = aL r) : Calls Tryz.prog 47 #[.agg #[.int .i64 r.kind, .slice A n c, .slice B m d]] w (aI w V) := D7 _ r (Nat.le_refl _) V hV A B n c m d w h
namespace Rgx
def bS (x : Rx) : Bool := decide (x.kind ≠ 0 /\ x.kind ≠ 2)
def fC (q : Nat -> Prop) (base : Nat) (f : List Rx) (v : Value) (S : Nat) (w : World) : Prop := az q base v (f.filter bS) w /\ (∀ i : Nat, S.testBit i = true ↔ ∃ x ∈ f, (i : Int) ∈ x.syms) /\ S < 18446744073709551616
section
variable {q : Nat -> Prop} {base : Nat} {f : List Rx} {v v' : Value} {S T : Nat} {w W : World} {y : Rx}
theorem fC.below (h : fC q base f v S w) (hb : Below w.heap.size w W) : fC q base f v S W := ⟨h.1.below hb, h.2⟩
theorem xS {f : List Rx} {y : Rx} (h : bS y = false) : (f ++ [y]).filter bS = f.filter bS := by rw [List.filter_append, List.filter_cons_of_neg (by simp [h])]; simp
theorem CK {f : List Rx} {y : Rx} (h : bS y = true) : (f ++ [y]).filter bS = f.filter bS ++ [y] := by rw [List.filter_append, List.filter_cons_of_pos h]; rfl
theorem vX {S : Nat} (h : ∀ i : Nat, S.testBit i = true ↔ ∃ x ∈ f, (i : Int) ∈ x.syms) (hy : y.syms = []) : ∀ i : Nat, S.testBit i = true ↔ ∃ x ∈ f ++ [y], (i : Int) ∈ x.syms := fun i => by
 rw [h];constructor
 ·rintro ⟨x, hx, hi⟩; exact ⟨x, by simp [hx], hi⟩
 ·rintro ⟨x, hx, hi⟩
  rcases List.mem_append.1 hx with hx | hx
  ·exact ⟨x, hx, hi⟩
  ·rw [show x = y by simpa using hx, hy] at hi; cases hi
theorem fC.none (h : fC q base f v S w) (h0 : bS y = false) (hy : y.syms = []) : fC q base (f ++ [y]) v S w := ⟨by rw [xS h0]; exact h.1, vX h.2.1 hy, h.2.2⟩
theorem fC.set (h : fC q base f v S w) (h0 : bS y = false) (hy : ∀ x ∈ y.syms, 0 <= x /\ x < 64) : fC q base (f ++ [y]) v (S ||| eZ y.syms) w := ⟨by rw [xS h0]; exact h.1, fun i => by
 rw [Nat.testBit_or, Bool.or_eq_true, h.2.1, mK hy];constructor
 ·rintro (⟨x, hx, hi⟩ | hi)
  ·exact ⟨x, by simp [hx], hi⟩
  ·exact ⟨y, by simp, hi⟩
 ·rintro ⟨x, hx, hi⟩
  rcases List.mem_append.1 hx with hx | hx
  ·exact .inl ⟨x, hx, hi⟩
  ·rw [show x = y by simpa using hx] at hi; exact .inr hi, by
 rw [show 18446744073709551616 = 2 ^ 64 from rfl];exact Nat.or_lt_two_pow h.2.2 (oh hy)⟩
theorem fC.other (h : fC q base f v S w) (h0 : bS y = true) (hy : y.syms = []) (hr : az q base v' (f.filter bS ++ [y]) W) : fC q base (f ++ [y]) v' S W := ⟨by rw [CK h0]; exact hr, vX h.2.1 hy, h.2.2⟩
end
theorem oZ {l : List Rx} {i : Nat} (h : i < l.length) : flatR (l.take (i + 1)) = flatR (l.take i) ++ flt (ak l i) := by
 rw [List.take_succ_eq_append_getElem h, kK, dO h];show _ ++ (flt l[i] ++ []) = _;rw [List.append_nil]
theorem lD {l : List Rx} {i : Nat} (h : i < l.length) : l.take (i + 1) = l.take i ++ [ak l i] := by rw [List.take_succ_eq_append_getElem h, dO h]
theorem wD {f : List Rx} {S : Nat} (h : ∀ i : Nat, S.testBit i = true ↔ ∃ x ∈ f, (i : Int) ∈ x.syms) (hS : S < 18446744073709551616) : jX f = f.filter bS ++ if S = 0 then [] else [.mk 2 (dH S) []] := by
 unfold jX;have e := En h
 by_cases h0 : S = 0
 ·rw [if_pos h0, if_pos (by rw [<- e, h0, wP])]; rfl
 ·rw [if_neg h0, if_neg (by rw [<- e, yn h0 hS]; simp), e]; rfl
theorem uM {l ts : List Rx} (hN : ∀ x ∈ l, NF x) (hp : ts.Perm (jX (flatR l))) (hs : ts.Pairwise (fun a b => ¬ eD b a)) : altEnd (lF (bn ts)) = altP l := by
 unfold altP;rw [E5 (NF.flatR hN) (qG hs) fun z => by rw [pG, hp.mem_iff]]
theorem Et {s : List Rx} : lF s = if iW s = true /\ s.tail.any aL = true then s.tail else s := by
 cases s with
 |nil => rfl
 |cons x t =>
  rw [wh];simp [iW]
theorem CS (l : List Rx) : (((flatR l).filter bS).length : Int) <= ah l := by
 have h1 := List.length_filter_le bS (flatR l);have h2 := iF (flatR l);have h3 := og l;omega
end Rgx
namespace Rgx
theorem xw {l I : List Rx} {i : Nat} (hc : ah l <= 1000000000000) (hi : i < l.length) (hI : flt (ak l i) = I) : ∀ j, j <= I.length -> ((flatR (l.take i) ++ I.take j).filter bS).length <= 1000000000000 := fun j hj => by
 have h1 := List.length_filter_le bS (flatR (l.take i) ++ I.take j);have h2 := iF (flatR (l.take (i + 1)));have h3 := og (l.take (i + 1));have h4 := nS (rs := l) (i + 1);rw [oZ hi, hI, List.length_append] at h2;rw [List.length_append, List.length_take] at h1;rw [oZ hi, hI] at h3;omega
end Rgx
theorem wR {p : Nat -> Prop} {W W' w' : World} {I : List Rx} {B : Option Addr} {v v' : Value} (h : aU p W I B) (hb : Below W.heap.size W W') (hp : ∀ b, p b -> b < W.heap.size /\ some b ≠ v.ownBlock) (hn : I ≠ [] -> ∀ b o, B = some ⟨b, o, none⟩ -> some b ≠ v.ownBlock) (hg : W'.grownBy w' v.ownBlock) (ha : v'.ownBlock = v.ownBlock \/ v'.ownBlock = some W'.heap.size) : aU p w' I B /\ (I ≠ [] -> ∀ b o, B = some ⟨b, o, none⟩ -> some b ≠ v'.ownBlock) := by
 have keep : ∀ b o, b < W.heap.size -> some b ≠ v.ownBlock -> w'.cell? ⟨b, o, none⟩ = W.cell? ⟨b, o, none⟩ := fun b o hl hne => (World.cell?_of_block (hg.block b (Nat.lt_of_lt_of_le hl hb.size) hne)).trans (hb.cell (p := ⟨b, o, none⟩) hl)
 refine ⟨fun i hi => ?_, fun hne b o e => ?_⟩
 ·obtain ⟨b, o, v1, v2, e, h1, h2, h3, h4⟩ := h i hi;have hne := hn (List.ne_nil_of_length_pos (by omega)) b o e;have hl := World.block_lt_of_cell? W _ h1;exact ⟨b, o, v1, v2, e, (keep b _ hl hne).trans h1, (keep b _ hl hne).trans h2, (keep b _ hl hne).trans h3, aP.keep (fun b o hb => keep b o (hp b hb).1 (hp b hb).2) _ h4⟩
 ·have hne2 := hn hne b o e
  rcases ha with h1 | h1
  ·rw [h1]; exact hne2
  ·rw [h1];intro e2;have e3 : b = W'.heap.size := by simpa using e2
   obtain ⟨b', o', v1, v2, e4, h5, _⟩ := h 0 (List.length_pos_iff.2 hne);have e5 : b = b' := by rw [e] at e4; simp only [Option.some.injEq, Addr.mk.injEq] at e4; exact e4.1
   have hl := World.block_lt_of_cell? W _ h5;have := hb.size;simp only at hl;omega
theorem qm {q : Nat -> Prop} {base : Nat} {v : Value} {rs : List Rx} {w0 w W : World} (h : az q base v rs w) (hb : Below w0.heap.size w0 w) (hg : w.grownBy W v.ownBlock) (hbase : w0.heap.size <= base := by simp) : Below w0.heap.size w0 W := dJ hb hg fun g hg => by
 obtain ⟨xs, _, hO⟩ := h;have := (hO.lt g hg).1;omega
namespace Rgx
theorem oO {p : Nat -> Prop} {w : World} {S : Nat} {L : List Int} {A : Option Addr} {n c : Nat} (hL : L = dH S) (hn : n = L.length) (hnc : n <= c) (hcm : c <= maxLen) (hr : Rd w A (iv L)) (hA : ∀ b o, A = some ⟨b, o, none⟩ -> p b) : ai p w (.mk 2 L []) A n c none 0 0 :=
 ai.make (by constructor <;> decide) (fun x hx => by rw [hL] at hx; have := (lI.1 hx).1; constructor <;> omega) hn hnc hcm hr (fun _ b o e => hA b o e) rfl (Nat.le_refl _) (Nat.zero_le _) (fun i hi => absurd hi (by simp)) fun h => absurd rfl h
theorem Gg {l : List Rx} (hN : ∀ x ∈ l, NF x) (hc : ah l <= 1000000000000) : (jX (flatR l)).length <= 1000000000000 := by
 have h1 := iF (flatR l);have h2 := og l;unfold jX
 by_cases h : bO (flatR l) = []
 ·rw [if_pos h, List.append_nil];have h3 := List.length_filter_le (fun x : Rx => decide (x.kind ≠ 0 /\ x.kind ≠ 2)) (flatR l);omega
 ·rw [if_neg h, List.length_append];obtain ⟨s, hs⟩ := List.exists_mem_of_ne_nil _ h;obtain ⟨_, y, hy, hys⟩ := iE.1 hs;have hy2 : y.kind = 2 := by
   by_cases e : y.kind = 2
   ·exact e
   ·rw [(NF.flatR hN y hy).1.syms e] at hys; cases hys
  have h3 : ((flatR l).filter (fun x : Rx => decide (x.kind ≠ 0 /\ x.kind ≠ 2))).length < (flatR l).length := by
   rw [List.length_filter_lt_length_iff_exists];exact ⟨y, hy, by simp [hy2]⟩
  simp only [List.length_cons, List.length_nil];omega
end Rgx
theorem yS {q : Nat -> Prop} {s : List Rx} {R : Rx} {B6 : Option Addr} {N6 d6 : Nat} {w : World} {ow : Option Nat} {V1 X2 : Bool} (hse : altEnd (lF s) = R) (hke : aU (fun b => q b /\ some b ≠ ow) w s B6) (hmc : N6 <= d6) (hm : d6 <= maxLen) (hN : N6 = s.length) (hpl : s ≠ [] -> ∃ g, B6 = some ⟨g, 0, none⟩ /\ q g) (hV : V1 = iW s) (hX : X2 = s.tail.any aL) :
  ∃ B7, (V1 = true -> ∀ W, (Instr.slice 23 (.slice B6 N6 d6) (some (.int .i64 1)) none none).run Tryz.prog W = .ok (.slice B7 (N6 - 1) (d6 - 1)) W) /\
   (∀ W, Below w.heap.size w W -> Calls Tryz.prog 123 #[.slice B6 N6 d6] W (aI W V1)) /\
   (V1 = true -> ∀ W, Below w.heap.size w W -> Calls Tryz.prog 78 #[.slice B7 (N6 - 1) (d6 - 1), .func (.func 47) #[] #[]] W (aI W X2)) /\
   ((V1 && X2) = false -> ∀ W, Below w.heap.size w W -> Calls Tryz.prog 116 #[.int .i64 4, .int .i64 0, .slice B6 N6 d6] W (dn q W R)) /\
   ((V1 && X2) = true -> ∀ W, Below w.heap.size w W -> Calls Tryz.prog 116 #[.int .i64 4, .int .i64 0, .slice B7 (N6 - 1) (d6 - 1)] W (dn q W R)) := by
 have hm2 : d6 <= 9223372036854775807 := by unfold maxLen at hm; exact hm
 have hcs := Et (s := s);rw [hcs] at hse;have hbe : ∀ W, Below w.heap.size w W -> Calls Tryz.prog 123 #[.slice B6 N6 d6] W (aI W V1) := fun W hb => vK s B6 N6 d6 hN hmc hm2 W (hke.below hb) V1 hV
 have hjw : (V1 && X2) = false -> ∀ W, Below w.heap.size w W -> Calls Tryz.prog 116 #[.int .i64 4, .int .i64 0, .slice B6 N6 d6] W (dn q W R) := fun hf W hb => by
  refine pK (p := q) 4 0 (by constructor <;> decide) (by constructor <;> decide) s B6 N6 d6 hN hmc hm W ((hke.below hb).mono fun b hb => hb.1) (fun hne b o e => ?_) R ?_
  ·obtain ⟨g, e2, hq⟩ := hpl hne;rw [e] at e2;have e3 : b = g := by simp only [Option.some.injEq, Addr.mk.injEq] at e2; exact e2.1
   rw [e3]; exact hq
  ·rw [qQ, <- hse, if_neg];rw [<- hV, <- hX];intro h;rw [h.1, h.2] at hf
   cases hf
 by_cases h1 : V1 = true
 ·have hne : s ≠ [] := by
   rintro rfl;rw [hV] at h1
   cases h1
  obtain ⟨g, rfl, hq⟩ := hpl hne;obtain ⟨i0, hi0, hz0, hz1, hz2⟩ := info_parts iq;have hl := List.length_pos_iff.2 hne;obtain ⟨o', ho', hcut⟩ := mV (P := Tryz.prog) Tryz.underlying23 hi0 g 0 N6 d6 1 (by omega) hmc;have htl : aU (fun b => q b /\ some b ≠ ow) w s.tail (some ⟨g, o', none⟩) := by
   match s, hke, hN with
   | x :: t, hke, hN =>
     refine hke.tail fun ht => ?_
     have := List.length_pos_iff.2 ht;rw [ho' (by simp at hN; omega), hz1]
  refine ⟨some ⟨g, o', none⟩, fun _ => hcut, hbe, fun _ W hb => ?_, hjw, fun ht W hb => ?_⟩
  ·refine sO aL _ s.tail _ (N6 - 1) (d6 - 1) (by rw [List.length_tail]; omega) (by omega) (by omega) W (htl.below hb).ok uw (fun i hi A B n c k d W2 hb2 h => xN h _ rfl) X2 hX
  ·refine pK (p := q) 4 0 (by constructor <;> decide) (by constructor <;> decide) s.tail _ (N6 - 1) (d6 - 1) (by rw [List.length_tail]; omega) (by omega) (by omega) W ((htl.below hb).mono fun b hb => hb.1) (fun hne b o e => ?_) R ?_
   · have e3 : g = b := by simp only [Option.some.injEq, Addr.mk.injEq] at e; exact e.1
     rw [<- e3]; exact hq
   · rw [qQ, <- hse, if_pos];rw [<- hV, <- hX];rw [Bool.and_eq_true] at ht;exact ht
 ·refine ⟨none, fun h => absurd h h1, hbe, fun h => absurd h h1, hjw, fun h => ?_⟩;rw [Bool.and_eq_true] at h;exact absurd h.1 h1
theorem mP {p : Nat -> Prop} (w : World) (hp : ∀ b, p b -> b < w.heap.size) (hDB : DB w) (l : List Rx) (B : Option Addr) (m d : Nat) (hm : m = l.length) (hmd : m <= d) (hdm : d <= 9223372036854775807) (hN : ∀ x ∈ l, NF x) (hc : ah l <= 1000000000000) (hk : aU p w l B) : Calls Tryz.prog 83 #[.slice B m d] w (dn p w (altP l)) := by
 obtain ⟨R, hR⟩ : ∃ R, R = altP l := ⟨_, rfl⟩;have HR := Lh hR;rw [<- hR];clear hR;obtain ⟨i0, hi0, hz0, hz1, hz2⟩ := info_parts iq;obtain ⟨q, hq⟩ : ∃ q : Nat -> Prop, q = fun b => (p b \/ w.heap.size < b) := ⟨_, rfl⟩
 have HL : Hid (m = l.length /\ aU p w l B /\ ∀ x ∈ l, NF x) := Lh ⟨hm, hk, hN⟩;have HDB := Lh hDB;have HCL : Hid (ah l <= 1000000000000 /\ ∀ i, ah (l.take i) <= ah l) := Lh ⟨hc, fun i => nS i⟩;have HQ : Hid ((∀ b, p b -> q b) /\ (∀ b, w.heap.size < b -> q b) /\ (∀ b, q b -> b ≠ w.heap.size) /\ (∀ b, q b -> p b \/ w.heap.size <= b) /\ ∀ b, p b -> b < w.heap.size) := Lh (by subst hq; exact ⟨fun b h => .inl h, fun b h => .inr h, fun b h => by rcases h with h | h; (have := hp b h; omega); omega, fun b h => by rcases h with h | h; exact .inl h; exact .inr (by omega), hp⟩);have HZ : Hid (∀ W, Below (w.alloc zR).heap.size (w.alloc zR) W -> aa W w.heap.size zL 25) := Lh fun W hb => (aa.new' w zL _ 25 rfl).below hb (by simp)
 clear hm hk hN hc hp hq hDB;go_enter Tryz.func83, Tryz.ntmps83;go_wp2_with fail
 go_loopg [3, 4, 12] m (fun g s3 s4 s12 wr => ∃ (i S : Nat), i + g = m /\ s4 = .int .u64 (S : Int) /\ s12 = .int .i64 (i : Int) /\ Hid (fC q (w.heap.size + 1) (flatR (l.take i)) s3 S wr /\ Below (w.alloc zR).heap.size (w.alloc zR) wr))
 case atStart => exact ⟨0, 0, by omega, rfl, rfl, Lh ⟨⟨az.nil _ _ _, fun i => by simp [flatR], by omega⟩, Below.refl _ _⟩⟩
 case round =>
  obtain ⟨i, S, hi, rfl, rfl, HI⟩ := hrel;obtain ⟨B0, d0, hv, _⟩ := HI.out.1.1.e;obtain ⟨N0, hN0⟩ : ∃ N, N = ((flatR (l.take i)).filter bS).length := ⟨_, rfl⟩;rw [<- hN0] at hv;subst hv;clear hN0;have HBW : Hid (Below w.heap.size w wr) := Lh (ae (ag _ _) HI.out.2)
  by_cases hlt : i < m
  ·obtain ⟨gg, rfl⟩ : ∃ g, gk = g + 1 := ⟨gk - 1, by omega⟩;have HIL : Hid (i < l.length) := Lh (by rw [<- HL.out.1]; exact hlt);obtain ⟨b, o, rfl⟩ := HL.out.2.1.place (by have := HIL.out; omega);obtain ⟨A, n, c, B2, m2, d2, hrg, hok⟩ := HL.out.2.1.kid HIL.out;obtain ⟨x, hx⟩ : ∃ x, x = ak l i := ⟨_, rfl⟩;rw [<- hx] at hrg hok;obtain ⟨K, hK⟩ : ∃ K, K = x.kind := ⟨_, rfl⟩;rw [<- hK] at hrg;have HRG := Lh (fK hrg HBW.out);have HXP := Lh hok;have HXK : Hid (K = x.kind /\ x = ak l i) := Lh ⟨hK, hx⟩;have HNX : Hid (NF x) := Lh (HL.out.2.2 x (by rw [hx]; exact dG HIL.out));have hmd2 := hok.o.mcap;have hdm2 := hok.o.dmax;clear hrg hok hx hK
   by_cases k4 : K = 4
   ·skip
    have ab : (K == 4) = true := bT (by omega);have HFI : Hid (flt (ak l i) = x.kids) := Lh (by rw [<- HXK.out.2]; unfold flt; rw [if_pos (by rw [<- HXK.out.1]; exact k4)]);clear k4
    go_wp2_with (first
     |(refine aA rfl (.tmp 14) rfl b (o + i * 3) rfl K A B2 n c m2 d2 HRG.out ?_)
     |(refine wB rfl 25 (.tmp 6) (.tmp 15) rfl wr.heap.size 0 rfl (zV K A n c B2 m2 d2) rfl (aa.new' wr zL _ 25 rfl) 3 au ?_; intro w4 hst9; have Hw4 : Hid (aa w4 wr.heap.size (zV K A n c B2 m2 d2) 25 /\ Below wr.heap.size wr w4) := Lh (aZ hst9); clear hst9; have HB4 : Hid (Below (w.alloc zR).heap.size (w.alloc zR) w4) := Lh (ae HI.out.2 Hw4.out.2); have hc0 := (Hw4.out.1.alloc (zC K A n c B2 m2 d2)).cell (j := 0) rfl; have hc2 := (Hw4.out.1.alloc (zC K A n c B2 m2 d2)).cell (j := 2) rfl; have hrx := aM Hw4.out.1)
     |(refine aA rfl (.tmp 6) rfl wr.heap.size (0) rfl K A B2 n c m2 d2 hrx ?_))
    obtain ⟨W5, hW5⟩ : ∃ W, W = (w4.alloc (zC K A n c B2 m2 d2)) := ⟨_, rfl⟩;have HB45 : Hid (Below w4.heap.size w4 W5) := Lh (by rw [hW5]; exact ag _ _);have HBWI : Hid (Below wr.heap.size wr W5) := Lh (ae Hw4.out.2 HB45.out);have HB0WI : Hid (Below (w.alloc zR).heap.size (w.alloc zR) W5) := Lh (ae HB4.out HB45.out);have HIN : Hid (aU p W5 x.kids B2 /\ m2 = x.kids.length /\ (∀ y ∈ x.kids, NF y) /\ (x.kids ≠ [] -> ∀ b o, B2 = some ⟨b, o, none⟩ -> some b ≠ (Value.slice B0 N0 d0).ownBlock)) := Lh ⟨HXP.out.kids.1.below (ae HBW.out HBWI.out), HXP.out.o.mlen, HNX.out.kids, fun hne b o e e2 => by
     obtain ⟨xs, _, hO⟩ := HI.out.1.1;have h1 := (hO.lt b e2.symm).1;have := HQ.out.2.2.2.2 b (HXP.out.kids.2 hne b o e);omega⟩
    have HLEN : Hid (∀ j, j <= x.kids.length -> ((flatR (l.take i) ++ x.kids.take j).filter bS).length <= 1000000000000) := Lh (xw HCL.out.1 HIL.out HFI.out);rw [<- hW5];clear hW5
    go_loopg [3, 4, 25] m2 (fun g2 s3 s4 s25 wr => ∃ (j S : Nat), j + g2 = m2 /\ s4 = .int .u64 (S : Int) /\ s25 = .int .i64 (j : Int) /\ Hid (fC q (w.heap.size + 1) (flatR (l.take i) ++ x.kids.take j) s3 S wr /\ Below (w.alloc zR).heap.size (w.alloc zR) wr /\ aU p wr x.kids B2 /\ (x.kids ≠ [] -> ∀ b o, B2 = some ⟨b, o, none⟩ -> some b ≠ s3.ownBlock)))
    case atStart => exact ⟨0, S, by omega, rfl, rfl, Lh ⟨by rw [List.take_zero, List.append_nil]; exact HI.out.1.below HBWI.out, HB0WI.out, HIN.out.1, HIN.out.2.2.2⟩⟩
    case round =>
     obtain ⟨j, S, hj, rfl, rfl, HJ⟩ := hrel;obtain ⟨B5, d5, hv, _⟩ := HJ.out.1.1.e;obtain ⟨N5, hN5⟩ : ∃ N, N = ((flatR (l.take i) ++ x.kids.take j).filter bS).length := ⟨_, rfl⟩;rw [<- hN5] at hv;subst hv;clear hN5
     by_cases hlt2 : j < m2
     ·obtain ⟨g2, rfl⟩ : ∃ g, gk = g + 1 := ⟨gk - 1, by omega⟩;have HJL : Hid (j < x.kids.length) := Lh (by rw [<- HIN.out.2.1]; exact hlt2);have HO_base : Hid (w.heap.size + 1 <= wr.heap.size) := Lh (by have h1 := HJ.out.2.1.size; simpa using h1);obtain ⟨b2, o2, hBi⟩ := HIN.out.1.place (by have := HJL.out; omega);have HPW : Hid (∀ b, p b -> b < wr.heap.size /\ some b ≠ (Value.slice B5 N5 d5).ownBlock) := Lh fun b hb => ⟨by have := HQ.out.2.2.2.2 b hb; have := HO_base.out; omega, fun e => by
        obtain ⟨xs, _, hO⟩ := HJ.out.1.1;have h1 := (hO.lt b e.symm).1;have := HQ.out.2.2.2.2 b hb;omega⟩
      have hke2 := HJ.out.2.2.1;rw [hBi] at hke2;obtain ⟨A3, n3, c3, B3, m3, d3, hrg3, hok3⟩ := hke2.kid HJL.out;obtain ⟨y, hy⟩ : ∃ yy, yy = ak x.kids j := ⟨_, rfl⟩;rw [<- hy] at hrg3 hok3;obtain ⟨Ky, hKy⟩ : ∃ K, K = y.kind := ⟨_, rfl⟩;rw [<- hKy] at hrg3;have HRG3 := Lh hrg3;have HYP : Hid (ai p wr y A3 n3 c3 B3 m3 d3 /\ Ky = y.kind /\ y = ak x.kids j) := Lh ⟨hok3, hKy, hy⟩;have HYN : Hid (NF y) := Lh (HIN.out.2.2.1 y (by rw [hy]; exact dG HJL.out));subst hBi;clear hrg3 hok3 hy hKy hke2
      by_cases ky0 : Ky = 0
      · have HAI : Hid (fC q (w.heap.size + 1) (flatR (l.take i) ++ x.kids.take (j + 1)) (.slice B5 N5 d5) S wr) := Lh (by rw [lD HJL.out, <- List.append_assoc, <- HYP.out.2.2]; exact HJ.out.1.none (by unfold bS; rw [<- HYP.out.2.1, ky0]; rfl) (by rw [HYN.out.k0 (by rw [<- HYP.out.2.1]; exact ky0)]; rfl));have yb : (Ky == 0) = true := bT (by omega);clear ky0
        go_wp2_with (first
        |(refine aA rfl (.tmp 27) rfl b2 (o2 + j * 3) rfl Ky A3 B3 n3 c3 m3 d3 HRG3.out ?_)
        |(refine wB rfl 25 (.tmp 9) (.tmp 28) rfl wr.heap.size 0 rfl (zV Ky A3 n3 c3 B3 m3 d3) rfl (aa.new' wr zL _ 25 rfl) 3 au ?_; intro w6 hst9; have Hw6 : Hid (aa w6 wr.heap.size (zV Ky A3 n3 c3 B3 m3 d3) 25 /\ Below wr.heap.size wr w6) := Lh (aZ hst9); clear hst9; have HB6 : Hid (Below (w.alloc zR).heap.size (w.alloc zR) w6) := Lh (ae HJ.out.2.1 Hw6.out.2); have hd0 := Hw6.out.1.cell (j := 0) rfl; have hd1 := Hw6.out.1.cell (j := 1) rfl; have hry := aM Hw6.out.1))
        go_roundg g2
        case rel => exact ⟨j + 1, S, by omega, by first | rfl | go_num, by go_num, Lh ⟨HAI.out.below Hw6.out.2, HB6.out, HJ.out.2.2.1.below Hw6.out.2, HJ.out.2.2.2⟩⟩
        case measure => omega
      · by_cases ky2 : Ky = 2
        ·have hsy := (HYN.out.k2 (by rw [<- HYP.out.2.1]; exact ky2)).2;have hin := (gW.1 hsy).2.2;obtain ⟨T, hT⟩ : ∃ T, T = eZ y.syms := ⟨_, rfl⟩;have HSO : Hid (∀ W, Below wr.heap.size wr W -> Calls Tryz.prog 91 #[.slice A3 n3 c3] W fun e w' => e = .returned (.int .u64 (T : Nat)) /\ Below W.heap.size W w') := Lh fun W hb => by rw [hT]; exact rR y.syms A3 n3 c3 HYP.out.1.o.nlen HYP.out.1.o.ncap HYP.out.1.o.cmax hin W (HYP.out.1.o.syms.below hb)
         obtain ⟨S2, hS2⟩ : ∃ S2, S2 = S ||| T := ⟨_, rfl⟩;have eO : bits .or .u64 (S : Int) (T : Int) = (S2 : Int) := by rw [bits_or_u64_nat S T HJ.out.1.2.2 (by rw [hT]; exact oh hin), hS2]
         have HAI : Hid (fC q (w.heap.size + 1) (flatR (l.take i) ++ x.kids.take (j + 1)) (.slice B5 N5 d5) S2 wr) := Lh (by rw [lD HJL.out, <- List.append_assoc, <- HYP.out.2.2, hS2, hT]; exact HJ.out.1.set (by unfold bS; rw [<- HYP.out.2.1, ky2]; rfl) hin);have yb : (Ky == 0) = false := bF (by omega);have zb : (Ky == 2) = true := bT (by omega);clear ky0 ky2 hT hS2 hsy hin
         go_wp2_with (first
        |(refine aA rfl (.tmp 27) rfl b2 (o2 + j * 3) rfl Ky A3 B3 n3 c3 m3 d3 HRG3.out ?_)
        |(refine wB rfl 25 (.tmp 9) (.tmp 28) rfl wr.heap.size 0 rfl (zV Ky A3 n3 c3 B3 m3 d3) rfl (aa.new' wr zL _ 25 rfl) 3 au ?_; intro w6 hst9; have Hw6 : Hid (aa w6 wr.heap.size (zV Ky A3 n3 c3 B3 m3 d3) 25 /\ Below wr.heap.size wr w6) := Lh (aZ hst9); clear hst9; have HB6 : Hid (Below (w.alloc zR).heap.size (w.alloc zR) w6) := Lh (ae HJ.out.2.1 Hw6.out.2); have hd0 := Hw6.out.1.cell (j := 0) rfl; have hd1 := Hw6.out.1.cell (j := 1) rfl; have hry := aM Hw6.out.1)
           |((with_reducible refine (HSO.out _ Hw6.out.2).mono ?_); rintro e w7 ⟨rfl, hb7⟩; have H7 : Hid (Below wr.heap.size wr w7 /\ Below (w.alloc zR).heap.size (w.alloc zR) w7) := Lh ⟨ae Hw6.out.2 hb7, ae HB6.out hb7⟩; clear hb7))
         go_roundg g2
         case rel => exact ⟨j + 1, S2, by omega, by first | rfl | go_num, by go_num, Lh ⟨HAI.out.below H7.out.1, H7.out.2, HJ.out.2.2.1.below H7.out.1, HJ.out.2.2.2⟩⟩
         case measure => omega
        ·have hny : bS y = true := by unfold bS; rw [<- HYP.out.2.1]; simp [ky0, ky2]
         have hsy0 : y.syms = [] := HYN.out.syms (by rw [<- HYP.out.2.1]; exact ky2);have HNY : Hid (bS y = true /\ y.syms = []) := Lh ⟨hny, hsy0⟩;obtain ⟨rs, hrs⟩ : ∃ rs, rs = (flatR (l.take i) ++ x.kids.take j).filter bS := ⟨_, rfl⟩;have hRW := HJ.out.1.1;rw [<- hrs] at hRW;obtain ⟨xs, hC, hO⟩ := hRW;have HC := Lh hC;have HO := Lh hO;have HRS := Lh hrs;have HQ2 : Hid (∀ b, p b -> q b /\ some b ≠ (Value.slice B5 N5 d5).ownBlock) := Lh fun b hb => ⟨HQ.out.1 b hb, fun e => by
           have h1 := (HO.out.lt b e.symm).1;have := HQ.out.2.2.2.2 b hb;omega⟩
         have hlen : rs.length <= 1000000000000 := by
           have h1 := HLEN.out j (Nat.le_of_lt HJL.out);rw [<- hrs] at h1;omega
         have hs1 : rs.length + 1 <= maxLen := by unfold maxLen; omega
         have hs2 : (rs.length + 1) * 56 <= 140737488355328 := by omega
         have yb : (Ky == 0) = false := bF (by omega);have zb : (Ky == 2) = false := bF (by omega);clear ky0 ky2 hC hO hrs hny hsy0 hlen
         go_wp2_with (first
        |(refine aA rfl (.tmp 27) rfl b2 (o2 + j * 3) rfl Ky A3 B3 n3 c3 m3 d3 HRG3.out ?_)
        |(refine wB rfl 25 (.tmp 9) (.tmp 28) rfl wr.heap.size 0 rfl (zV Ky A3 n3 c3 B3 m3 d3) rfl (aa.new' wr zL _ 25 rfl) 3 au ?_; intro w6 hst9; have Hw6 : Hid (aa w6 wr.heap.size (zV Ky A3 n3 c3 B3 m3 d3) 25 /\ Below wr.heap.size wr w6) := Lh (aZ hst9); clear hst9; have HB6 : Hid (Below (w.alloc zR).heap.size (w.alloc zR) w6) := Lh (ae HJ.out.2.1 Hw6.out.2); have hd0 := Hw6.out.1.cell (j := 0) rfl; have hd1 := Hw6.out.1.cell (j := 1) rfl; have hry := aM Hw6.out.1)
           |(refine aA rfl (.tmp 9) rfl wr.heap.size (0) rfl Ky A3 B3 n3 c3 m3 d3 hry ?_)
           |(at_builtin; refine eu rfl (.tmp 31) (.tmp 33) 23 23 rfl (w.heap.size + 1) 25 i0 _ 3 56 Tryz.underlying23 hi0 hz0 hz1 hz2 rfl _ _ _ rfl (dW HO.out (aB Hw6.out.2 _)) _ 1 (zV Ky A3 n3 c3 B3 m3 d3) rfl (gP hz1 _ _ _ _ _ _ _ _) hs1 hs2 (Nat.le_trans (HO_base.out) ((aB Hw6.out.2 _)).size) ?_; intro v8 w8 hown8 hg8 hat8; have HX8 : Hid (az q (w.heap.size + 1) v8 (rs ++ [y]) w8 /\ Below (w.alloc zR).heap.size (w.alloc zR) w8 /\ aU p w8 x.kids (some ⟨b2, o2, none⟩) /\ (x.kids ≠ [] -> ∀ b o, (some (⟨b2, o2, none⟩ : Addr)) = some ⟨b, o, none⟩ -> some b ≠ v8.ownBlock)) := Lh ⟨az.app HC.out (aB Hw6.out.2 _) (by rw [HYP.out.2.1]; exact aG.one (aP.mono HQ2.out _ ((HYP.out.1.below (aB Hw6.out.2 _)).q))) rfl hg8 hat8 hown8, dJ (aB HB6.out _) hg8 (fun g hg => by have h9 := (HO.out.lt _ hg).1; first | exact h9 | (simpa using h9)), wR HJ.out.2.2.1 (aB Hw6.out.2 _) HPW.out HJ.out.2.2.2 hg8 hat8⟩; clear hown8 hg8 hat8))
         go_roundg g2
         case rel => exact ⟨j + 1, S, by omega, by first | rfl | go_num, by go_num, Lh ⟨by
           rw [lD HJL.out, <- List.append_assoc, <- HYP.out.2.2];exact HJ.out.1.other HNY.out.1 HNY.out.2 (by rw [<- HRS.out]; exact HX8.out.1), HX8.out.2.1, HX8.out.2.2.1, HX8.out.2.2.2⟩⟩
         case measure => omega
     ·obtain rfl : j = m2 := by omega
      have HFL : Hid (flatR (l.take (i + 1)) = flatR (l.take i) ++ x.kids) := Lh (by rw [oZ HIL.out, HFI.out]);have HAE : Hid (fC q (w.heap.size + 1) (flatR (l.take (i + 1))) (.slice B5 N5 d5) S wr) := Lh (by
        have h1 := HJ.out.1;rw [HIN.out.2.1, List.take_length] at h1;rw [HFL.out]; exact h1)
      go_wp2_with fail
      go_roundg gg
      case rel => exact ⟨i + 1, S, by omega, by first | rfl | go_num, by go_num, Lh ⟨HAE.out, HJ.out.2.1⟩⟩
      case measure => omega
   ·skip
    have ab : (K == 4) = false := bF (by omega)
    go_wp2_with (first
     |(refine aA rfl (.tmp 14) rfl b (o + i * 3) rfl K A B2 n c m2 d2 HRG.out ?_)
     |(refine wB rfl 25 (.tmp 6) (.tmp 15) rfl wr.heap.size 0 rfl (zV K A n c B2 m2 d2) rfl (aa.new' wr zL _ 25 rfl) 3 au ?_; intro w4 hst9; have Hw4 : Hid (aa w4 wr.heap.size (zV K A n c B2 m2 d2) 25 /\ Below wr.heap.size wr w4) := Lh (aZ hst9); clear hst9; have HB4 : Hid (Below (w.alloc zR).heap.size (w.alloc zR) w4) := Lh (ae HI.out.2 Hw4.out.2); have hc0 := (Hw4.out.1.alloc (zC K A n c B2 m2 d2)).cell (j := 0) rfl; have hc2 := (Hw4.out.1.alloc (zC K A n c B2 m2 d2)).cell (j := 2) rfl; have hrx := aM Hw4.out.1)
     |(refine aA rfl (.tmp 6) rfl wr.heap.size (0) rfl K A B2 n c m2 d2 hrx ?_))
    obtain ⟨W5, hW5⟩ : ∃ W, W = (w4.alloc (zC K A n c B2 m2 d2)) := ⟨_, rfl⟩;have HB45 : Hid (Below w4.heap.size w4 W5) := Lh (by rw [hW5]; exact ag _ _);have HBWI : Hid (Below wr.heap.size wr W5) := Lh (ae Hw4.out.2 HB45.out);have HB0WI : Hid (Below (w.alloc zR).heap.size (w.alloc zR) W5) := Lh (ae HB4.out HB45.out);obtain ⟨B6, hB6⟩ : ∃ B, B = some (⟨w4.heap.size, 0, none⟩ : Addr) := ⟨_, rfl⟩;have HIN : Hid (aU p W5 [x] B6 /\ 1 = [x].length /\ (∀ y ∈ [x], NF y) /\ ([x] ≠ [] -> ∀ b o, B6 = some ⟨b, o, none⟩ -> some b ≠ (Value.slice B0 N0 d0).ownBlock)) := Lh ⟨by
     rw [hB6];refine aG.e (xs := (zV K A n c B2 m2 d2)) (by rw [HXK.out.1]; exact aG.one (HXP.out.below (ae HBW.out HBWI.out)).q) fun j v hv => ?_
     rw [Nat.zero_add, hW5];exact (aa.at w4 (zV K A n c B2 m2 d2) _ 25 _ rfl rfl).cell hv, rfl, fun y hy => by rw [show y = x by simpa using hy]; exact HNX.out, fun hne b o e e2 => by
     obtain ⟨xs, _, hO⟩ := HI.out.1.1;have h1 := (hO.lt b e2.symm).2;rw [hB6] at e;have h3 : w4.heap.size = b := by simp only [Option.some.injEq, Addr.mk.injEq] at e; exact e.1
     have := Hw4.out.2.size;omega⟩
    have HFI : Hid (flt (ak l i) = [x]) := Lh (by rw [<- HXK.out.2]; unfold flt; rw [if_neg (by rw [<- HXK.out.1]; exact k4)]);have HLEN : Hid (∀ j, j <= [x].length -> ((flatR (l.take i) ++ [x].take j).filter bS).length <= 1000000000000) := Lh (xw HCL.out.1 HIL.out HFI.out);rw [<- hW5, <- hB6];clear hW5 hB6 k4
    go_loopg [3, 4, 25] 1 (fun g2 s3 s4 s25 wr => ∃ (j S : Nat), j + g2 = 1 /\ s4 = .int .u64 (S : Int) /\ s25 = .int .i64 (j : Int) /\ Hid (fC q (w.heap.size + 1) (flatR (l.take i) ++ [x].take j) s3 S wr /\ Below (w.alloc zR).heap.size (w.alloc zR) wr /\ aU p wr [x] B6 /\ ([x] ≠ [] -> ∀ b o, B6 = some ⟨b, o, none⟩ -> some b ≠ s3.ownBlock)))
    case atStart => exact ⟨0, S, by omega, rfl, rfl, Lh ⟨by rw [List.take_zero, List.append_nil]; exact HI.out.1.below HBWI.out, HB0WI.out, HIN.out.1, HIN.out.2.2.2⟩⟩
    case round =>
     obtain ⟨j, S, hj, rfl, rfl, HJ⟩ := hrel;obtain ⟨B5, d5, hv, _⟩ := HJ.out.1.1.e;obtain ⟨N5, hN5⟩ : ∃ N, N = ((flatR (l.take i) ++ [x].take j).filter bS).length := ⟨_, rfl⟩;rw [<- hN5] at hv;subst hv;clear hN5
     by_cases hlt2 : j < 1
     ·obtain ⟨g2, rfl⟩ : ∃ g, gk = g + 1 := ⟨gk - 1, by omega⟩;have HJL : Hid (j < [x].length) := Lh (by rw [<- HIN.out.2.1]; exact hlt2);have HO_base : Hid (w.heap.size + 1 <= wr.heap.size) := Lh (by have h1 := HJ.out.2.1.size; simpa using h1);obtain ⟨b2, o2, hBi⟩ := HIN.out.1.place (by have := HJL.out; omega);have HPW : Hid (∀ b, p b -> b < wr.heap.size /\ some b ≠ (Value.slice B5 N5 d5).ownBlock) := Lh fun b hb => ⟨by have := HQ.out.2.2.2.2 b hb; have := HO_base.out; omega, fun e => by
        obtain ⟨xs, _, hO⟩ := HJ.out.1.1;have h1 := (hO.lt b e.symm).1;have := HQ.out.2.2.2.2 b hb;omega⟩
      have hke2 := HJ.out.2.2.1;rw [hBi] at hke2;obtain ⟨A3, n3, c3, B3, m3, d3, hrg3, hok3⟩ := hke2.kid HJL.out;obtain ⟨y, hy⟩ : ∃ yy, yy = ak [x] j := ⟨_, rfl⟩;rw [<- hy] at hrg3 hok3;obtain ⟨Ky, hKy⟩ : ∃ K, K = y.kind := ⟨_, rfl⟩;rw [<- hKy] at hrg3;have HRG3 := Lh hrg3;have HYP : Hid (ai p wr y A3 n3 c3 B3 m3 d3 /\ Ky = y.kind /\ y = ak [x] j) := Lh ⟨hok3, hKy, hy⟩;have HYN : Hid (NF y) := Lh (HIN.out.2.2.1 y (by rw [hy]; exact dG HJL.out));subst hBi;clear hrg3 hok3 hy hKy hke2
      by_cases ky0 : Ky = 0
      · have HAI : Hid (fC q (w.heap.size + 1) (flatR (l.take i) ++ [x].take (j + 1)) (.slice B5 N5 d5) S wr) := Lh (by rw [lD HJL.out, <- List.append_assoc, <- HYP.out.2.2]; exact HJ.out.1.none (by unfold bS; rw [<- HYP.out.2.1, ky0]; rfl) (by rw [HYN.out.k0 (by rw [<- HYP.out.2.1]; exact ky0)]; rfl));have yb : (Ky == 0) = true := bT (by omega);clear ky0
        go_wp2_with (first
        |(refine aA rfl (.tmp 27) rfl b2 (o2 + j * 3) rfl Ky A3 B3 n3 c3 m3 d3 HRG3.out ?_)
        |(refine wB rfl 25 (.tmp 9) (.tmp 28) rfl wr.heap.size 0 rfl (zV Ky A3 n3 c3 B3 m3 d3) rfl (aa.new' wr zL _ 25 rfl) 3 au ?_; intro w6 hst9; have Hw6 : Hid (aa w6 wr.heap.size (zV Ky A3 n3 c3 B3 m3 d3) 25 /\ Below wr.heap.size wr w6) := Lh (aZ hst9); clear hst9; have HB6 : Hid (Below (w.alloc zR).heap.size (w.alloc zR) w6) := Lh (ae HJ.out.2.1 Hw6.out.2); have hd0 := Hw6.out.1.cell (j := 0) rfl; have hd1 := Hw6.out.1.cell (j := 1) rfl; have hry := aM Hw6.out.1))
        go_roundg g2
        case rel => exact ⟨j + 1, S, by omega, by first | rfl | go_num, by go_num, Lh ⟨HAI.out.below Hw6.out.2, HB6.out, HJ.out.2.2.1.below Hw6.out.2, HJ.out.2.2.2⟩⟩
        case measure => omega
      · by_cases ky2 : Ky = 2
        ·have hsy := (HYN.out.k2 (by rw [<- HYP.out.2.1]; exact ky2)).2;have hin := (gW.1 hsy).2.2;obtain ⟨T, hT⟩ : ∃ T, T = eZ y.syms := ⟨_, rfl⟩;have HSO : Hid (∀ W, Below wr.heap.size wr W -> Calls Tryz.prog 91 #[.slice A3 n3 c3] W fun e w' => e = .returned (.int .u64 (T : Nat)) /\ Below W.heap.size W w') := Lh fun W hb => by rw [hT]; exact rR y.syms A3 n3 c3 HYP.out.1.o.nlen HYP.out.1.o.ncap HYP.out.1.o.cmax hin W (HYP.out.1.o.syms.below hb)
         obtain ⟨S2, hS2⟩ : ∃ S2, S2 = S ||| T := ⟨_, rfl⟩;have eO : bits .or .u64 (S : Int) (T : Int) = (S2 : Int) := by rw [bits_or_u64_nat S T HJ.out.1.2.2 (by rw [hT]; exact oh hin), hS2]
         have HAI : Hid (fC q (w.heap.size + 1) (flatR (l.take i) ++ [x].take (j + 1)) (.slice B5 N5 d5) S2 wr) := Lh (by rw [lD HJL.out, <- List.append_assoc, <- HYP.out.2.2, hS2, hT]; exact HJ.out.1.set (by unfold bS; rw [<- HYP.out.2.1, ky2]; rfl) hin);have yb : (Ky == 0) = false := bF (by omega);have zb : (Ky == 2) = true := bT (by omega);clear ky0 ky2 hT hS2 hsy hin
         go_wp2_with (first
        |(refine aA rfl (.tmp 27) rfl b2 (o2 + j * 3) rfl Ky A3 B3 n3 c3 m3 d3 HRG3.out ?_)
        |(refine wB rfl 25 (.tmp 9) (.tmp 28) rfl wr.heap.size 0 rfl (zV Ky A3 n3 c3 B3 m3 d3) rfl (aa.new' wr zL _ 25 rfl) 3 au ?_; intro w6 hst9; have Hw6 : Hid (aa w6 wr.heap.size (zV Ky A3 n3 c3 B3 m3 d3) 25 /\ Below wr.heap.size wr w6) := Lh (aZ hst9); clear hst9; have HB6 : Hid (Below (w.alloc zR).heap.size (w.alloc zR) w6) := Lh (ae HJ.out.2.1 Hw6.out.2); have hd0 := Hw6.out.1.cell (j := 0) rfl; have hd1 := Hw6.out.1.cell (j := 1) rfl; have hry := aM Hw6.out.1)
           |((with_reducible refine (HSO.out _ Hw6.out.2).mono ?_); rintro e w7 ⟨rfl, hb7⟩; have H7 : Hid (Below wr.heap.size wr w7 /\ Below (w.alloc zR).heap.size (w.alloc zR) w7) := Lh ⟨ae Hw6.out.2 hb7, ae HB6.out hb7⟩; clear hb7))
         go_roundg g2
         case rel => exact ⟨j + 1, S2, by omega, by first | rfl | go_num, by go_num, Lh ⟨HAI.out.below H7.out.1, H7.out.2, HJ.out.2.2.1.below H7.out.1, HJ.out.2.2.2⟩⟩
         case measure => omega
        ·have hny : bS y = true := by unfold bS; rw [<- HYP.out.2.1]; simp [ky0, ky2]
         have hsy0 : y.syms = [] := HYN.out.syms (by rw [<- HYP.out.2.1]; exact ky2);have HNY : Hid (bS y = true /\ y.syms = []) := Lh ⟨hny, hsy0⟩;obtain ⟨rs, hrs⟩ : ∃ rs, rs = (flatR (l.take i) ++ [x].take j).filter bS := ⟨_, rfl⟩;have hRW := HJ.out.1.1;rw [<- hrs] at hRW;obtain ⟨xs, hC, hO⟩ := hRW;have HC := Lh hC;have HO := Lh hO;have HRS := Lh hrs;have HQ2 : Hid (∀ b, p b -> q b /\ some b ≠ (Value.slice B5 N5 d5).ownBlock) := Lh fun b hb => ⟨HQ.out.1 b hb, fun e => by
           have h1 := (HO.out.lt b e.symm).1;have := HQ.out.2.2.2.2 b hb;omega⟩
         have hlen : rs.length <= 1000000000000 := by
           have h1 := HLEN.out j (Nat.le_of_lt HJL.out);rw [<- hrs] at h1;omega
         have hs1 : rs.length + 1 <= maxLen := by unfold maxLen; omega
         have hs2 : (rs.length + 1) * 56 <= 140737488355328 := by omega
         have yb : (Ky == 0) = false := bF (by omega);have zb : (Ky == 2) = false := bF (by omega);clear ky0 ky2 hC hO hrs hny hsy0 hlen
         go_wp2_with (first
        |(refine aA rfl (.tmp 27) rfl b2 (o2 + j * 3) rfl Ky A3 B3 n3 c3 m3 d3 HRG3.out ?_)
        |(refine wB rfl 25 (.tmp 9) (.tmp 28) rfl wr.heap.size 0 rfl (zV Ky A3 n3 c3 B3 m3 d3) rfl (aa.new' wr zL _ 25 rfl) 3 au ?_; intro w6 hst9; have Hw6 : Hid (aa w6 wr.heap.size (zV Ky A3 n3 c3 B3 m3 d3) 25 /\ Below wr.heap.size wr w6) := Lh (aZ hst9); clear hst9; have HB6 : Hid (Below (w.alloc zR).heap.size (w.alloc zR) w6) := Lh (ae HJ.out.2.1 Hw6.out.2); have hd0 := Hw6.out.1.cell (j := 0) rfl; have hd1 := Hw6.out.1.cell (j := 1) rfl; have hry := aM Hw6.out.1)
           |(refine aA rfl (.tmp 9) rfl wr.heap.size (0) rfl Ky A3 B3 n3 c3 m3 d3 hry ?_)
           |(at_builtin; refine eu rfl (.tmp 31) (.tmp 33) 23 23 rfl (w.heap.size + 1) 25 i0 _ 3 56 Tryz.underlying23 hi0 hz0 hz1 hz2 rfl _ _ _ rfl (dW HO.out (aB Hw6.out.2 _)) _ 1 (zV Ky A3 n3 c3 B3 m3 d3) rfl (gP hz1 _ _ _ _ _ _ _ _) hs1 hs2 (Nat.le_trans (HO_base.out) ((aB Hw6.out.2 _)).size) ?_; intro v8 w8 hown8 hg8 hat8; have HX8 : Hid (az q (w.heap.size + 1) v8 (rs ++ [y]) w8 /\ Below (w.alloc zR).heap.size (w.alloc zR) w8 /\ aU p w8 [x] (some ⟨b2, o2, none⟩) /\ ([x] ≠ [] -> ∀ b o, (some (⟨b2, o2, none⟩ : Addr)) = some ⟨b, o, none⟩ -> some b ≠ v8.ownBlock)) := Lh ⟨az.app HC.out (aB Hw6.out.2 _) (by rw [HYP.out.2.1]; exact aG.one (aP.mono HQ2.out _ ((HYP.out.1.below (aB Hw6.out.2 _)).q))) rfl hg8 hat8 hown8, dJ (aB HB6.out _) hg8 (fun g hg => by have h9 := (HO.out.lt _ hg).1; first | exact h9 | (simpa using h9)), wR HJ.out.2.2.1 (aB Hw6.out.2 _) HPW.out HJ.out.2.2.2 hg8 hat8⟩; clear hown8 hg8 hat8))
         go_roundg g2
         case rel => exact ⟨j + 1, S, by omega, by first | rfl | go_num, by go_num, Lh ⟨by
           rw [lD HJL.out, <- List.append_assoc, <- HYP.out.2.2];exact HJ.out.1.other HNY.out.1 HNY.out.2 (by rw [<- HRS.out]; exact HX8.out.1), HX8.out.2.1, HX8.out.2.2.1, HX8.out.2.2.2⟩⟩
         case measure => omega
     ·obtain rfl : j = 1 := by omega
      have HFL : Hid (flatR (l.take (i + 1)) = flatR (l.take i) ++ [x]) := Lh (by rw [oZ HIL.out, HFI.out]);have HAE : Hid (fC q (w.heap.size + 1) (flatR (l.take (i + 1))) (.slice B5 N5 d5) S wr) := Lh (by
        have h1 := HJ.out.1;rw [HIN.out.2.1, List.take_length] at h1;rw [HFL.out]; exact h1)
      go_wp2_with fail
      go_roundg gg
      case rel => exact ⟨i + 1, S, by omega, by first | rfl | go_num, by go_num, Lh ⟨HAE.out, HJ.out.2.1⟩⟩
      case measure => omega
  ·obtain rfl : i = m := by omega
   have HAI : Hid (fC q (w.heap.size + 1) (flatR l) (.slice B0 N0 d0) S wr) := Lh (by have h1 := HI.out.1; rw [HL.out.1, List.take_length] at h1; exact h1);have HLF : Hid ((((flatR l).filter bS).length : Int) <= 1000000000000 - 0) := Lh (by have h1 := CS l; have h2 := HCL.out.1; omega)
   by_cases hS0 : S = 0
   ·have e1 : ((S : Int) != 0) = false := by subst hS0; rfl
    have e2 : ((S : Int) == 0) = true := by subst hS0; rfl
    have HK0 : Hid ((flatR l).filter bS = jX (flatR l)) := Lh (by rw [wD HAI.out.2.1 HAI.out.2.2, if_pos hS0, List.append_nil]);have HRW : Hid (az q (w.heap.size + 1) (.slice B0 N0 d0) ((flatR l).filter bS) wr /\ Below (w.alloc zR).heap.size (w.alloc zR) wr) := Lh ⟨HAI.out.1, HI.out.2⟩;have HLK : Hid (((flatR l).filter bS).length <= 1000000000000) := Lh (by have := HLF.out; omega);clear hS0
    go_wp2_with (first
     |((refine (wy (w.heap.size + 1) _ _ _ HRW.out.1 HLK.out).mono ?_); rintro e w10 ⟨rfl, ts, hperm, hsort, hrw, hgr⟩; have H10 : Hid (az q (w.heap.size + 1) _ ts w10 /\ Below (w.alloc zR).heap.size (w.alloc zR) w10 /\ ts.Perm ((flatR l).filter bS) /\ ts.Pairwise (fun a b => ¬ eD b a)) := Lh ⟨hrw, qm HRW.out.1 HRW.out.2 hgr, hperm, hsort⟩; clear hperm hsort hrw hgr)
     |((refine (yo (w.heap.size + 1) _ _ _ H10.out.1 (by rw [H10.out.2.2.1.length_eq]; exact HLK.out)).mono ?_); rintro e w11 ⟨v6, rfl, hrw6, hgr6⟩; obtain ⟨B6, d6, hv6, hmc6, hm6, hke6, hpl6⟩ := hrw6.e; have HB11 : Hid (Below (w.alloc zR).heap.size (w.alloc zR) w11) := Lh (qm H10.out.1 H10.out.2.1 hgr6); have HSE : Hid (altEnd (lF (bn ts)) = R) := Lh (by rw [HR.out]; exact uM HL.out.2.2 (by rw [<- HK0.out]; exact H10.out.2.2.1) H10.out.2.2.2); obtain ⟨s, hs⟩ : ∃ s, s = bn ts := ⟨_, rfl⟩; rw [<- hs] at hv6 hmc6 hke6 hpl6 HSE; obtain ⟨N6, hN6⟩ : ∃ N, N = s.length := ⟨_, rfl⟩; rw [<- hN6] at hv6 hmc6; subst hv6; obtain ⟨V1, hV1⟩ : ∃ V, V = iW s := ⟨_, rfl⟩; obtain ⟨X2, hX2⟩ : ∃ V, V = s.tail.any aL := ⟨_, rfl⟩; have hfacts := yS (R := R) HSE.out hke6 hmc6 hm6 hN6 (fun hne => by obtain ⟨g, e, h1, _⟩ := hpl6 hne; exact ⟨g, e, HQ.out.2.1 g (by omega)⟩) hV1 hX2; obtain ⟨B7, hcutI, hBE, hCN, hJW, hJT⟩ := hfacts; have HBE := Lh hBE; have HCN := Lh hCN; have HJW := Lh hJW; have HJT := Lh hJT; have HCI := Lh hcutI; clear hrw6 hgr6 hmc6 hm6 hke6 hpl6 hs hN6 hV1 hX2 hcutI hBE hCN hJW hJT HSE; cases V1 <;> cases X2; all_goals (try (have hcut := HCI.out rfl)))
     |((with_reducible refine (HBE.out _ (Below.refl _ _)).mono ?_); rintro e w12 hp; obtain ⟨rfl, hb⟩ := aN hp; have H12 : Hid (Below w11.heap.size w11 w12) := Lh hb; clear hp hb)
     |((with_reducible refine (HCN.out (by first | trivial | rfl | decide) _ H12.out).mono ?_); rintro e w13 hp; obtain ⟨rfl, hb⟩ := aN hp; replace H12 : Hid (Below w11.heap.size w11 w13) := Lh (ae H12.out hb); clear hp hb)
     |((with_reducible refine (HJW.out (by first | trivial | rfl | decide) _ H12.out).mono ?_); rintro e w14 hp; obtain ⟨A9, n9, c9, B9, m9, d9, rfl, h9, hb9⟩ := bV hp; have H9 : Hid (ai q w14 R A9 n9 c9 B9 m9 d9 /\ Below (w.alloc zR).heap.size (w.alloc zR) w14) := Lh ⟨h9.mono fun b hb => (by rcases hb with hb | hb; exact hb; exact HQ.out.2.1 b (by have h1 := HB11.out.size; have h2 := H12.out.size; simp at h1; omega)), ae (ae HB11.out H12.out) hb9⟩; clear hp h9 hb9)
     |((with_reducible refine (HJT.out (by first | trivial | rfl | decide) _ H12.out).mono ?_); rintro e w14 hp; obtain ⟨A9, n9, c9, B9, m9, d9, rfl, h9, hb9⟩ := bV hp; have H9 : Hid (ai q w14 R A9 n9 c9 B9 m9 d9 /\ Below (w.alloc zR).heap.size (w.alloc zR) w14) := Lh ⟨h9.mono fun b hb => (by rcases hb with hb | hb; exact hb; exact HQ.out.2.1 b (by have h1 := HB11.out.size; have h2 := H12.out.size; simp at h1; omega)), ae (ae HB11.out H12.out) hb9⟩; clear hp h9 hb9)
     |(refine wB rfl 25 (.tmp 2) (.tmp 68) rfl w.heap.size 0 rfl (zV R.kind A9 n9 c9 B9 m9 d9) rfl (HZ.out _ H9.out.2) 3 au ?_; intro w15 hst9; have Hw15 : Hid (aa w15 w.heap.size (zV R.kind A9 n9 c9 B9 m9 d9) 25 /\ Below w.heap.size w w15 /\ ai q w15 R A9 n9 c9 B9 m9 d9) := Lh ⟨hst9.1, hst9.below (ae (ag _ _) H9.out.2) (Nat.le_refl _), fO H9.out.1 hst9 HQ.out.2.2.1⟩; clear hst9))
    all_goals (exact bM rfl w.heap.size rfl (C := (zV R.kind A9 n9 c9 B9 m9 d9)) (T := 25) Hw15.out.1 _ Tryz.underlying25 rfl au rfl ⟨_, _, _, _, _, _, rfl, Hw15.out.2.2.mono HQ.out.2.2.2.1, Hw15.out.2.1⟩)
   ·have e1 : ((S : Int) != 0) = true := by simp; exact hS0
    have e2 : ((S : Int) == 0) = false := by simp; exact hS0
    obtain ⟨L, hL⟩ : ∃ L, L = dH S := ⟨_, rfl⟩;have HLL : Hid (L = dH S) := Lh hL;obtain ⟨rs, hrs⟩ : ∃ rs, rs = (flatR l).filter bS := ⟨_, rfl⟩;have HK0 : Hid (rs ++ [.mk 2 L []] = jX (flatR l)) := Lh (by rw [wD HAI.out.2.1 HAI.out.2.2, if_neg hS0, hrs, hL]);have hRW := HAI.out.1;rw [<- hrs] at hRW;obtain ⟨xs, hC, hO⟩ := hRW;have HC := Lh hC;have HO := Lh hO;have HO_base : Hid (w.heap.size + 1 <= wr.heap.size) := Lh (by have h1 := HI.out.2.size; simpa using h1);have hlen : rs.length <= 1000000000000 := by have h1 := HLF.out; rw [<- hrs] at h1; omega
    have HLK : Hid ((rs ++ [Rx.mk 2 L []]).length <= 1000000000000) := Lh (by
     have h1 := Gg HL.out.2.2 HCL.out.1;rw [<- HK0.out] at h1; exact h1)
    have hs1 : rs.length + 1 <= maxLen := by unfold maxLen; omega
    have hs2 : (rs.length + 1) * 56 <= 140737488355328 := by omega
    have HSY : Hid (∀ W, Below wr.heap.size wr W -> Calls Tryz.prog 118 #[.int .u64 (S : Int)] W (kW W L)) := Lh fun W hb => by rw [hL]; exact vE S HAI.out.2.2 W (HDB.out.below (ae HBW.out hb))
    clear hS0 hL hrs hC hO hlen
    go_wp2_with (first
     |((with_reducible refine (HSY.out _ (Below.refl _ _)).mono ?_); rintro e w9 hp; obtain ⟨A5, n5, c5, rfl, hn5, hnc5, hcm5, hrd5, hfr5, hb5⟩ := rU hp; have HB9 : Hid (Below (w.alloc zR).heap.size (w.alloc zR) w9 /\ Below wr.heap.size wr w9) := Lh ⟨ae HI.out.2 hb5, hb5⟩; have HEL : Hid (ai (fun b => q b /\ some b ≠ (Value.slice B0 N0 d0).ownBlock) w9 (.mk 2 L []) A5 n5 c5 none 0 0) := Lh (oO HLL.out hn5 hnc5 hcm5 hrd5 (fun b o e => ⟨HQ.out.2.1 b (by have h1 := (hfr5 b o e).1; have h2 := HO_base.out; omega), fun e2 => by have h1 := (HO.out.lt b e2.symm).2; have h2 := (hfr5 b o e).1; omega⟩)); clear hp hn5 hnc5 hcm5 hrd5 hfr5 hb5)
     |(at_builtin; refine eu rfl (.tmp 48) (.tmp 52) 23 23 rfl (w.heap.size + 1) 25 i0 _ 3 56 Tryz.underlying23 hi0 hz0 hz1 hz2 rfl _ _ _ rfl (dW HO.out (aB HB9.out.2 _)) _ 1 (zV 2 A5 n5 c5 none 0 0) rfl (gP hz1 _ _ _ _ _ _ _ _) hs1 hs2 (Nat.le_trans (HO_base.out) ((aB HB9.out.2 _)).size) ?_; intro v8 w8 hown8 hg8 hat8; have HX8 : Hid (az q (w.heap.size + 1) v8 (rs ++ [.mk 2 L []]) w8 /\ Below (w.alloc zR).heap.size (w.alloc zR) w8) := Lh ⟨az.app HC.out (aB HB9.out.2 _) (aG.one ((HEL.out.below (ag _ _)).q)) rfl hg8 hat8 hown8, dJ (aB HB9.out.1 _) hg8 (fun g hg => by have h9 := (HO.out.lt _ hg).1; first | exact h9 | (simpa using h9))⟩; clear hown8 hg8 hat8)
     |((refine (wy (w.heap.size + 1) _ _ _ HX8.out.1 HLK.out).mono ?_); rintro e w10 ⟨rfl, ts, hperm, hsort, hrw, hgr⟩; have H10 : Hid (az q (w.heap.size + 1) _ ts w10 /\ Below (w.alloc zR).heap.size (w.alloc zR) w10 /\ ts.Perm (rs ++ [Rx.mk 2 L []]) /\ ts.Pairwise (fun a b => ¬ eD b a)) := Lh ⟨hrw, qm HX8.out.1 HX8.out.2 hgr, hperm, hsort⟩; clear hperm hsort hrw hgr)
     |((refine (yo (w.heap.size + 1) _ _ _ H10.out.1 (by rw [H10.out.2.2.1.length_eq]; exact HLK.out)).mono ?_); rintro e w11 ⟨v6, rfl, hrw6, hgr6⟩; obtain ⟨B6, d6, hv6, hmc6, hm6, hke6, hpl6⟩ := hrw6.e; have HB11 : Hid (Below (w.alloc zR).heap.size (w.alloc zR) w11) := Lh (qm H10.out.1 H10.out.2.1 hgr6); have HSE : Hid (altEnd (lF (bn ts)) = R) := Lh (by rw [HR.out]; exact uM HL.out.2.2 (by rw [<- HK0.out]; exact H10.out.2.2.1) H10.out.2.2.2); obtain ⟨s, hs⟩ : ∃ s, s = bn ts := ⟨_, rfl⟩; rw [<- hs] at hv6 hmc6 hke6 hpl6 HSE; obtain ⟨N6, hN6⟩ : ∃ N, N = s.length := ⟨_, rfl⟩; rw [<- hN6] at hv6 hmc6; subst hv6; obtain ⟨V1, hV1⟩ : ∃ V, V = iW s := ⟨_, rfl⟩; obtain ⟨X2, hX2⟩ : ∃ V, V = s.tail.any aL := ⟨_, rfl⟩; have hfacts := yS (R := R) HSE.out hke6 hmc6 hm6 hN6 (fun hne => by obtain ⟨g, e, h1, _⟩ := hpl6 hne; exact ⟨g, e, HQ.out.2.1 g (by omega)⟩) hV1 hX2; obtain ⟨B7, hcutI, hBE, hCN, hJW, hJT⟩ := hfacts; have HBE := Lh hBE; have HCN := Lh hCN; have HJW := Lh hJW; have HJT := Lh hJT; have HCI := Lh hcutI; clear hrw6 hgr6 hmc6 hm6 hke6 hpl6 hs hN6 hV1 hX2 hcutI hBE hCN hJW hJT HSE; cases V1 <;> cases X2; all_goals (try (have hcut := HCI.out rfl)))
     |((with_reducible refine (HBE.out _ (Below.refl _ _)).mono ?_); rintro e w12 hp; obtain ⟨rfl, hb⟩ := aN hp; have H12 : Hid (Below w11.heap.size w11 w12) := Lh hb; clear hp hb)
     |((with_reducible refine (HCN.out (by first | trivial | rfl | decide) _ H12.out).mono ?_); rintro e w13 hp; obtain ⟨rfl, hb⟩ := aN hp; replace H12 : Hid (Below w11.heap.size w11 w13) := Lh (ae H12.out hb); clear hp hb)
     |((with_reducible refine (HJW.out (by first | trivial | rfl | decide) _ H12.out).mono ?_); rintro e w14 hp; obtain ⟨A9, n9, c9, B9, m9, d9, rfl, h9, hb9⟩ := bV hp; have H9 : Hid (ai q w14 R A9 n9 c9 B9 m9 d9 /\ Below (w.alloc zR).heap.size (w.alloc zR) w14) := Lh ⟨h9.mono fun b hb => (by rcases hb with hb | hb; exact hb; exact HQ.out.2.1 b (by have h1 := HB11.out.size; have h2 := H12.out.size; simp at h1; omega)), ae (ae HB11.out H12.out) hb9⟩; clear hp h9 hb9)
     |((with_reducible refine (HJT.out (by first | trivial | rfl | decide) _ H12.out).mono ?_); rintro e w14 hp; obtain ⟨A9, n9, c9, B9, m9, d9, rfl, h9, hb9⟩ := bV hp; have H9 : Hid (ai q w14 R A9 n9 c9 B9 m9 d9 /\ Below (w.alloc zR).heap.size (w.alloc zR) w14) := Lh ⟨h9.mono fun b hb => (by rcases hb with hb | hb; exact hb; exact HQ.out.2.1 b (by have h1 := HB11.out.size; have h2 := H12.out.size; simp at h1; omega)), ae (ae HB11.out H12.out) hb9⟩; clear hp h9 hb9)
     |(refine wB rfl 25 (.tmp 2) (.tmp 68) rfl w.heap.size 0 rfl (zV R.kind A9 n9 c9 B9 m9 d9) rfl (HZ.out _ H9.out.2) 3 au ?_; intro w15 hst9; have Hw15 : Hid (aa w15 w.heap.size (zV R.kind A9 n9 c9 B9 m9 d9) 25 /\ Below w.heap.size w w15 /\ ai q w15 R A9 n9 c9 B9 m9 d9) := Lh ⟨hst9.1, hst9.below (ae (ag _ _) H9.out.2) (Nat.le_refl _), fO H9.out.1 hst9 HQ.out.2.2.1⟩; clear hst9))
    all_goals (exact bM rfl w.heap.size rfl (C := (zV R.kind A9 n9 c9 B9 m9 d9)) (T := 25) Hw15.out.1 _ Tryz.underlying25 rfl au rfl ⟨_, _, _, _, _, _, rfl, Hw15.out.2.2.mono HQ.out.2.2.2.1, Hw15.out.2.1⟩)
theorem DB.grew {w W : World} {row : Option Nat} (h : DB w) (hg : w.grownBy W row) (hr : ∀ g, row = some g -> 0 < g) : DB W := fun j hj => by
 have h1 := h j hj;rw [<- h1];refine World.cell?_of_block (hg.block _ (World.block_lt_of_cell? w _ h1) fun e => ?_);have h2 := hr _ e.symm;simp only at h2;omega
theorem DB.lt {w : World} (h : DB w) : 0 < w.heap.size := World.block_lt_of_cell? w _ (h 0 (by decide))
namespace Rgx
theorem aU.lt {p : Nat -> Prop} {w : World} {ks : List Rx} {B : Option Addr} (h : aU p w ks B) : aU (fun b => p b /\ b < w.heap.size) w ks B := fun i hi => by
 obtain ⟨b, o, v1, v2, e, h1, h2, h3, h4⟩ := h i hi;exact ⟨b, o, v1, v2, e, h1, h2, h3, aP.and _ h4 (eY.q _ (aP.ok _ h4))⟩
theorem ai.lt {p : Nat -> Prop} {w : World} {r : Rx} {A B : Option Addr} {n c m d : Nat} (h : ai p w r A n c B m d) : ai (fun b => p b /\ b < w.heap.size) w r A n c B m d := h.and h.o.toP
end Rgx
def ma (x : Rx) : Prop := ∀ (p : Nat -> Prop) (w : World) (A B : Option Addr) (n c m d : Nat), (∀ b, p b -> b < w.heap.size) -> DB w -> ai p w x A n c B m d -> Calls Tryz.prog 51 #[.agg #[.int .i64 x.kind, .slice A n c, .slice B m d]] w (dn p w (normR false x))
def sN (q : Nat -> Prop) (base : Nat) (v : Value) (ls : List Rx) (x : Rx) (w : World) (e : Ending) (w' : World) : Prop := ∃ v' L, e = .returned v' /\ az q base v' (ls ++ L) w' /\ fq w w' v.ownBlock v'.ownBlock /\ (∀ y ∈ L, NF y) /\ (x.kind = 3 -> dR L (x.kids.map (normR false))) /\ (x.kind = 4 -> bA L (x.kids.map (normR false))) /\ ah L <= ah x.kids
def lL (x : Rx) : Prop := ∀ (p q : Nat -> Prop) (base : Nat) (v : Value) (ls : List Rx) (w : World) (A B : Option Addr) (n c m d : Nat), (∀ b, p b -> b < base) -> base <= w.heap.size -> 0 < base -> (∀ b, p b -> q b) -> (∀ b, base <= b -> q b) -> DB w -> az q base v ls w -> (ls.length : Int) + ah x.kids <= 1000000000000 -> ai p w x A n c B m d -> Calls Tryz.prog 82 #[v, .agg #[.int .i64 x.kind, .slice A n c, .slice B m d]] w (sN q base v ls x w)
theorem yX {q : Nat -> Prop} {base : Nat} {v : Value} {rs : List Rx} {w : World} (h : az q base v rs w) : ∀ g, v.ownBlock = some g -> base <= g /\ g < w.heap.size := fun g hg => by
 obtain ⟨xs, _, hO⟩ := h;exact hO.lt g hg
theorem xH {p : Nat -> Prop} {w : World} {x : Rx} {K : Int} {A B : Option Addr} {n c m d : Nat} (hK : K = x.kind) (h : ma x) (hp : ∀ b, p b -> b < w.heap.size) (hd : DB w) (hx : ai p w x A n c B m d) : Calls Tryz.prog 51 #[.agg #[.int .i64 K, .slice A n c, .slice B m d]] w (dn p w (normR false x)) := by
 subst hK;exact h p w A B n c m d hp hd hx
theorem qN {p q : Nat -> Prop} {base : Nat} {v : Value} {ls : List Rx} {w : World} {x : Rx} {K : Int} {A B : Option Addr} {n c m d : Nat} (hK : K = x.kind) (h : lL x) (h1 : ∀ b, p b -> b < base) (h2 : base <= w.heap.size) (h3 : 0 < base) (h4 : ∀ b, p b -> q b) (h5 : ∀ b, base <= b -> q b) (hd : DB w) (hr : az q base v ls w) (hl : (ls.length : Int) + ah x.kids <= 1000000000000) (hx : ai p w x A n c B m d) : Calls Tryz.prog 82 #[v, .agg #[.int .i64 K, .slice A n c, .slice B m d]] w (sN q base v ls x w) := by
 subst hK;exact h p q base v ls w A B n c m d h1 h2 h3 h4 h5 hd hr hl hx
theorem jl.keep7 {p : Nat -> Prop} {w W : World} {r : Rx} {A B : Option Addr} {n c m d base : Nat} (h : ai p w r A n c B m d) (keep : ∀ b o, b < base -> W.cell? ⟨b, o, none⟩ = w.cell? ⟨b, o, none⟩) (hp : ∀ b, p b -> b < base) : aC W r A n c B m d := by
 obtain ⟨A', n', c', B', m', d', e1, e2, h2⟩ := (aP.keep (W := W) (fun b o hb => keep b o (hp b hb)) r h.q).op;simp only [Value.slice.injEq] at e1 e2;obtain ⟨rfl, rfl, rfl⟩ := e1;obtain ⟨rfl, rfl, rfl⟩ := e2;exact h2.o
theorem oD {L L2 ks : List Rx} {k : Rx} {K : Int} {i : Nat} (hi : i < ks.length) (hk : k = ak ks i) (hv : ay k = true) (h3 : K = 3 -> dR L ((ks.take i).map (normR false))) (h4 : K = 4 -> bA L ((ks.take i).map (normR false)))
  (hL : ((bu k).kind ≠ K /\ L2 = [normR false (bu k)]) \/ ((bu k).kind = K /\ ((bu k).kind = 3 -> dR L2 ((bu k).kids.map (normR false))) /\ ((bu k).kind = 4 -> bA L2 ((bu k).kids.map (normR false))))) :
  (K = 3 -> dR (L ++ L2) ((ks.take (i + 1)).map (normR false))) /\ (K = 4 -> bA (L ++ L2) ((ks.take (i + 1)).map (normR false))) := by
 obtain ⟨hu1, hu2, _⟩ := mH hv;have hN : ∀ y ∈ (bu k).kids.map (normR false), NF y := fun y hy => by
  obtain ⟨x, hx, rfl⟩ := List.mem_map.1 hy;exact NF.normR false (eF hu1 x hx)
 rw [lD hi, List.map_append, <- hk];show (K = 3 -> dR (L ++ L2) ((ks.take i).map (normR false) ++ [normR false k])) /\ (K = 4 -> bA (L ++ L2) ((ks.take i).map (normR false) ++ [normR false k]));rw [<- hu2];refine ⟨fun e => (h3 e).app ?_, fun e => (h4 e).app ?_⟩
 ·rcases hL with ⟨_, rfl⟩ | ⟨hk3, hs, _⟩
  · exact dR.refl _
  · have h5 := hs (hk3.trans e);rw [bX, if_pos (hk3.trans e)];exact h5.tr (dR.in_ hN).symm
 ·rcases hL with ⟨_, rfl⟩ | ⟨hk3, _, hs⟩
  · exact bA.refl _
  · have h5 := hs (hk3.trans e);rw [bX, if_neg (by omega), if_pos (hk3.trans e)];exact h5.tr (bA.in_ hN).symm
theorem zg (r : Rx) (hvr : ay r = true) (hn : ∀ x, SizeOf.sizeOf x < SizeOf.sizeOf r -> ay x = true -> av x <= 1000000000000 -> ma x) (hp : ∀ x, SizeOf.sizeOf x < SizeOf.sizeOf r -> ay x = true -> lL x) : lL r := by
 intro p q base v ls w A B n c m d hpb hbase htb hpq hq hDB hrw hlen hop;obtain ⟨i0, hi0, hz0, hz1, hz2⟩ := info_parts iq;obtain ⟨K, hK⟩ : ∃ K, K = r.kind := ⟨_, rfl⟩;have HX : Hid (ai p w r A n c B m d /\ K = r.kind /\ ay r = true) := Lh ⟨hop, hK, hvr⟩;have HP : Hid ((∀ b, p b -> b < base) /\ base <= w.heap.size /\ 0 < base /\ (∀ b, p b -> q b) /\ (∀ b, base <= b -> q b)) := Lh ⟨hpb, hbase, htb, hpq, hq⟩;have HDB := Lh hDB;have HRW := Lh hrw;have HLEN := Lh hlen;have HN := Lh hn;have HPA := Lh hp;have hmd := hop.o.mcap;have hdm := hop.o.dmax;rw [<- hK];clear hop hK hvr hpb hbase htb hpq hq hDB hrw hlen hn hp;go_enter Tryz.func82, Tryz.ntmps82;have hb2 : (w.alloc (zC K A n c B m d)).cell? ⟨w.heap.size, 2, none⟩ = some (.slice B m d) := iX (Below.refl _ _) 2 _ rfl;go_wp2_with fail
 go_loopg [0, 10] m (fun g s0 s10 wr => ∃ (i : Nat) (L : List Rx), i + g = m /\ s10 = .int .i64 (i : Int) /\ Hid (az q base s0 (ls ++ L) wr /\ fq (w.alloc (zC K A n c B m d)) wr v.ownBlock s0.ownBlock /\ (∀ y ∈ L, NF y) /\ (K = 3 -> dR L ((r.kids.take i).map (normR false))) /\ (K = 4 -> bA L ((r.kids.take i).map (normR false))) /\ ah L <= ah (r.kids.take i)))
 case atStart => exact ⟨0, [], by omega, rfl, Lh ⟨by rw [List.append_nil]; exact HRW.out.below (ag _ _), fq.refl _ _, (fun y hy => by cases hy), fun _ => dR.refl _, fun _ => bA.refl _, by simp⟩⟩
 case round =>
  obtain ⟨i, L, hi, rfl, HI⟩ := hrel;obtain ⟨B5, d5, hv, _⟩ := HI.out.1.e;obtain ⟨N5, hN5⟩ : ∃ N, N = (ls ++ L).length := ⟨_, rfl⟩;rw [<- hN5] at hv;subst hv;clear hN5
  by_cases hlt : i < m
  · obtain ⟨gg, rfl⟩ : ∃ g, gk = g + 1 := ⟨gk - 1, by omega⟩;have HIL : Hid (i < r.kids.length) := Lh (by rw [<- HX.out.1.o.mlen]; exact hlt);have HGB : Hid (∀ g, v.ownBlock = some g -> base <= g /\ g < w.heap.size) := Lh (yX HRW.out);have HSZ : Hid (w.heap.size + 1 <= wr.heap.size /\ base <= wr.heap.size) := Lh (by have h1 := HI.out.2.1.size; have h2 := HP.out.2.1; simp at h1; omega);have keep : ∀ b o, b < base -> wr.cell? ⟨b, o, none⟩ = w.cell? ⟨b, o, none⟩ := fun b o hb => (World.cell?_of_block (HI.out.2.1.1.block b (by have := HP.out.2.1; simp; omega) (fun e => by have := (HGB.out b e.symm).1; omega))).trans ((ag w _).cell (p := ⟨b, o, none⟩) (by have := HP.out.2.1; show b < _; omega))
    have HDB2 : Hid (DB wr) := Lh (DB.grew (HDB.out.below (ag _ _)) HI.out.2.1.1 (fun g hg => by have := (HGB.out g hg).1; have := HP.out.2.2.1; omega));have HB3 : Hid (wr.cell? ⟨w.heap.size, 0, none⟩ = some (.int .i64 K)) := Lh ((World.cell?_of_block (HI.out.2.1.1.block w.heap.size (by simp) (fun e => by have := (HGB.out _ e.symm).2; omega))).trans (iX (Below.refl _ _) 0 _ rfl));have hkr : ai p wr r A n c B m d := ⟨jl.keep7 HX.out.1 keep HP.out.1, aP.keep (fun b o hb => keep b o (HP.out.1 b hb)) _ HX.out.1.q⟩;obtain ⟨b, o, rfl⟩ := hkr.kids.1.place (by have := HIL.out; omega);obtain ⟨A2, n2, c2, B2, m2, d2, hrg, hok⟩ := hkr.kids.1.kid HIL.out;obtain ⟨k, hk⟩ : ∃ k, k = ak r.kids i := ⟨_, rfl⟩;rw [<- hk] at hrg hok;obtain ⟨Kk, hKk⟩ : ∃ K, K = k.kind := ⟨_, rfl⟩;rw [<- hKk] at hrg;have HRG := Lh hrg;have hvk : ay k = true := by rw [hk]; exact eF HX.out.2.2 _ (dG HIL.out)
    have HK : Hid (k = ak r.kids i /\ ay k = true /\ SizeOf.sizeOf (bu k) < SizeOf.sizeOf r /\ av (bu k) <= av k /\ ah (r.kids.take (i + 1)) = ah (r.kids.take i) + av k /\ (ls.length : Int) + ah (r.kids.take (i + 1)) <= 1000000000000) := Lh ⟨hk, hvk, by have := gB (dG (ks := r.kids) HIL.out); have := (wO k).1; rw [<- hk] at *; omega, (wO k).2, by rw [sj HIL.out, hk, dO HIL.out], by have := nS (rs := r.kids) (i + 1); have := HLEN.out; omega⟩;have HUN : Hid (∀ W, Below wr.heap.size wr W -> Calls Tryz.prog 117 #[.agg #[.int .i64 Kk, .slice A2 n2 c2, .slice B2 m2 d2]] W fun e w' => ∃ A n c B m d, e = .returned (.agg #[.int .i64 (bu k).kind, .slice A n c, .slice B m d]) /\ ai p w' (bu k) A n c B m d /\ Below W.heap.size W w') := Lh fun W hb => by rw [hKk]; exact ze k A2 B2 n2 c2 m2 d2 W (hok.below hb)
    obtain ⟨X, hX⟩ : ∃ X, X = ((bu k).kind == K) := ⟨_, rfl⟩;have HXK : Hid (((bu k).kind == K) = X) := Lh hX.symm;have HCL : Hid ((((ls ++ L).length : Nat) : Int) <= ls.length + ah (r.kids.take i) /\ 1 <= av k) := Lh ⟨by rw [List.length_append]; have h1 := iF L; have h2 := HI.out.2.2.2.2.2; omega, cO k⟩;obtain ⟨xs, hC, hO⟩ := HI.out.1;have HC := Lh hC;have HO := Lh hO;have HO_base : Hid (base <= wr.heap.size) := Lh HSZ.out.2;have hs1 : (ls ++ L).length + 1 <= maxLen := by have h1 := HCL.out; have h2 := HK.out.2.2.2.2; unfold maxLen; omega
    have hs2 : ((ls ++ L).length + 1) * 56 <= 140737488355328 := by have h1 := HCL.out; have h2 := HK.out.2.2.2.2; omega
    clear hkr hrg hok hk hKk hvk hX keep hC hO
    cases X
    ·go_wp2_with (first
 |(refine aA rfl (.tmp 12) rfl b (o + i * 3) rfl Kk A2 B2 n2 c2 m2 d2 HRG.out ?_)
 |(refine wB rfl 25 (.tmp 6) (.tmp 13) rfl wr.heap.size 0 rfl (zV Kk A2 n2 c2 B2 m2 d2) rfl (aa.new' wr zL _ 25 rfl) 3 au ?_; intro w4 hst9; have Hw4 : Hid (aa w4 wr.heap.size (zV Kk A2 n2 c2 B2 m2 d2) 25 /\ Below wr.heap.size wr w4) := Lh (aZ hst9); clear hst9; have hrx4 := aM Hw4.out.1)
 |(refine aA rfl (.tmp 6) rfl wr.heap.size (0) rfl Kk A2 B2 n2 c2 m2 d2 hrx4 ?_)
 |((with_reducible refine (HUN.out _ Hw4.out.2).mono ?_); rintro e w5 ⟨Au, nu, cu, Bu, mu, du, rfl, hu5, hb5⟩; obtain ⟨Ku, hKu⟩ : ∃ K, K = (bu k).kind := ⟨_, rfl⟩; rw [<- hKu]; have HKU := Lh hKu; have H5 : Hid (ai p w5 (bu k) Au nu cu Bu mu du /\ Below w4.heap.size w4 w5) := Lh ⟨hu5, hb5⟩; clear hu5 hb5 hKu hrx4)
 |(refine wB rfl 25 (.tmp 6) (.tmp 15) rfl wr.heap.size 0 rfl (zV Ku Au nu cu Bu mu du) rfl (Hw4.out.1.below H5.out.2 Hw4.out.1.lt) 3 au ?_; intro w6 hst9; have Hw6 : Hid (aa w6 wr.heap.size (zV Ku Au nu cu Bu mu du) 25 /\ Below wr.heap.size wr w6 /\ ai p w6 (bu k) Au nu cu Bu mu du) := Lh ⟨hst9.1, hst9.below (ae Hw4.out.2 H5.out.2) (Nat.le_refl _), fO H5.out.1 hst9 (fun b hb => by have h1 := HP.out.1 b hb; have h2 := HSZ.out; omega)⟩; have hrx6 := aM Hw6.out.1; have hk6 := Hw6.out.1.cell (j := 0) rfl; have hk3 : w6.cell? ⟨w.heap.size, 0, none⟩ = some (.int .i64 K) := (Hw6.out.2.1.cell (p := ⟨w.heap.size, 0, none⟩) (World.block_lt_of_cell? wr _ HB3.out)).trans HB3.out; have hkx : (Ku == K) = false := (by rw [HKU.out]; exact HXK.out); have hkd : decide (Ku = K) = false := (by rw [HKU.out, <- HXK.out]; rfl); clear hst9)
      |(refine aA rfl (.tmp 6) rfl wr.heap.size (0) rfl Ku Au Bu nu cu mu du hrx6 ?_)
      |((with_reducible refine (xH HKU.out (HN.out (bu k) HK.out.2.2.1 (mH HK.out.2.1).1 (by have h1 := HK.out; have h3 := dN (r.kids.take i); have h4 := HCL.out; omega)) (fun b hb => by have h1 := HP.out.1 b hb; have h2 := HSZ.out.2; have h3 := Hw6.out.2.1.size; omega) (HDB2.out.below Hw6.out.2.1) Hw6.out.2.2).mono ?_); rintro e w8 hp; obtain ⟨A8, n8, c8, B8, m8, d8, rfl, h8, hb8⟩ := bV hp; have H8 : Hid (ai (fun b => q b /\ some b ≠ (Value.slice B5 N5 d5).ownBlock) w8 (normR false (bu k)) A8 n8 c8 B8 m8 d8 /\ Below w6.heap.size w6 w8) := Lh ⟨h8.mono (fun b hb => by
         have h9 := yX HI.out.1;have h10 := Hw6.out.2.1.size
         rcases hb with hb | hb
         ·exact ⟨HP.out.2.2.2.1 b hb, fun e => by have := (h9 b e.symm).1; have := HP.out.1 b hb; omega⟩
         ·exact ⟨HP.out.2.2.2.2 b (by have := HSZ.out.2; omega), fun e => by have := (h9 b e.symm).2; omega⟩), hb8⟩; clear hp h8 hb8)
      |(at_builtin; refine eu rfl (.tmp 24) (.tmp 27) 23 23 rfl (base) 25 i0 _ 3 56 Tryz.underlying23 hi0 hz0 hz1 hz2 rfl _ _ _ rfl (dW HO.out (aB (ae Hw6.out.2.1 H8.out.2) _)) _ 1 [.int .i64 (normR false (bu k)).kind, .slice A8 n8 c8, .slice B8 m8 d8] rfl (gP hz1 _ _ _ _ _ _ _ _) hs1 hs2 (Nat.le_trans (HO_base.out) ((aB (ae Hw6.out.2.1 H8.out.2) _)).size) ?_; intro v9 w9 hown9 hg9 hat9; have HX9 : Hid (az q (base) v9 ((ls ++ L) ++ [normR false (bu k)]) w9 /\ fq (w.alloc (zC K A n c (some ⟨b, o, none⟩) m d)) w9 v.ownBlock v9.ownBlock) := Lh ⟨az.app HC.out (aB (ae Hw6.out.2.1 H8.out.2) _) (aG.one ((H8.out.1.below (ag _ _)).q)) rfl hg9 hat9 hown9, ((HI.out.2.1.step (mo (aB (ae Hw6.out.2.1 H8.out.2) _)) (.inl rfl)).append hg9 hat9)⟩; clear hown9 hg9 hat9))
     go_roundg gg
     case rel => exact ⟨i + 1, L ++ [normR false (bu k)], by omega, by go_num, Lh ⟨by rw [<- List.append_assoc]; exact HX9.out.1, HX9.out.2, fun y hy => by
      rcases List.mem_append.1 hy with hy | hy
      ·exact HI.out.2.2.1 y hy
      ·rw [show y = normR false (bu k) by simpa using hy]; exact NF.normR false (mH HK.out.2.1).1, (oD HIL.out HK.out.1 HK.out.2.1 HI.out.2.2.2.1 HI.out.2.2.2.2.1 (.inl ⟨by simpa using HXK.out, rfl⟩)).1, (oD HIL.out HK.out.1 HK.out.2.1 HI.out.2.2.2.1 HI.out.2.2.2.2.1 (.inl ⟨by simpa using HXK.out, rfl⟩)).2, by
      rw [gz, HK.out.2.2.2.2.1];have h1 := kM false (mH HK.out.2.1).1;have h2 := HK.out.2.2.2.1;have h3 := HI.out.2.2.2.2.2;simp only [ah];omega⟩⟩
     case measure => omega
    ·go_wp2_with (first
 |(refine aA rfl (.tmp 12) rfl b (o + i * 3) rfl Kk A2 B2 n2 c2 m2 d2 HRG.out ?_)
 |(refine wB rfl 25 (.tmp 6) (.tmp 13) rfl wr.heap.size 0 rfl (zV Kk A2 n2 c2 B2 m2 d2) rfl (aa.new' wr zL _ 25 rfl) 3 au ?_; intro w4 hst9; have Hw4 : Hid (aa w4 wr.heap.size (zV Kk A2 n2 c2 B2 m2 d2) 25 /\ Below wr.heap.size wr w4) := Lh (aZ hst9); clear hst9; have hrx4 := aM Hw4.out.1)
 |(refine aA rfl (.tmp 6) rfl wr.heap.size (0) rfl Kk A2 B2 n2 c2 m2 d2 hrx4 ?_)
 |((with_reducible refine (HUN.out _ Hw4.out.2).mono ?_); rintro e w5 ⟨Au, nu, cu, Bu, mu, du, rfl, hu5, hb5⟩; obtain ⟨Ku, hKu⟩ : ∃ K, K = (bu k).kind := ⟨_, rfl⟩; rw [<- hKu]; have HKU := Lh hKu; have H5 : Hid (ai p w5 (bu k) Au nu cu Bu mu du /\ Below w4.heap.size w4 w5) := Lh ⟨hu5, hb5⟩; clear hu5 hb5 hKu hrx4)
 |(refine wB rfl 25 (.tmp 6) (.tmp 15) rfl wr.heap.size 0 rfl (zV Ku Au nu cu Bu mu du) rfl (Hw4.out.1.below H5.out.2 Hw4.out.1.lt) 3 au ?_; intro w6 hst9; have Hw6 : Hid (aa w6 wr.heap.size (zV Ku Au nu cu Bu mu du) 25 /\ Below wr.heap.size wr w6 /\ ai p w6 (bu k) Au nu cu Bu mu du) := Lh ⟨hst9.1, hst9.below (ae Hw4.out.2 H5.out.2) (Nat.le_refl _), fO H5.out.1 hst9 (fun b hb => by have h1 := HP.out.1 b hb; have h2 := HSZ.out; omega)⟩; have hrx6 := aM Hw6.out.1; have hk6 := Hw6.out.1.cell (j := 0) rfl; have hk3 : w6.cell? ⟨w.heap.size, 0, none⟩ = some (.int .i64 K) := (Hw6.out.2.1.cell (p := ⟨w.heap.size, 0, none⟩) (World.block_lt_of_cell? wr _ HB3.out)).trans HB3.out; have hkx : (Ku == K) = true := (by rw [HKU.out]; exact HXK.out); have hkd : decide (Ku = K) = true := (by rw [HKU.out, <- HXK.out]; rfl); clear hst9)
      |(refine aA rfl (.tmp 6) rfl wr.heap.size (0) rfl Ku Au Bu nu cu mu du hrx6 ?_)
      |((with_reducible refine (qN HKU.out (HPA.out (bu k) HK.out.2.2.1 (mH HK.out.2.1).1) HP.out.1 (by have h2 := HSZ.out.2; have h3 := Hw6.out.2.1.size; omega) HP.out.2.2.1 HP.out.2.2.2.1 HP.out.2.2.2.2 (HDB2.out.below Hw6.out.2.1) (HI.out.1.below Hw6.out.2.1) (by have h1 := HCL.out.1; have h2 := HK.out.2.2.2; have h3 := dA (bu k); omega) Hw6.out.2.2).mono ?_); rintro e w8 ⟨v8, L2, rfl, hrw8, hgr8, hnf8, hs8, hl8, hc8⟩; have H8 : Hid (az q base v8 (ls ++ L ++ L2) w8 /\ fq (w.alloc (zC K A n c (some ⟨b, o, none⟩) m d)) w8 v.ownBlock v8.ownBlock /\ (∀ y ∈ L2, NF y) /\ ((bu k).kind = 3 -> dR L2 ((bu k).kids.map (normR false))) /\ ((bu k).kind = 4 -> bA L2 ((bu k).kids.map (normR false))) /\ ah L2 <= ah (bu k).kids) := Lh ⟨hrw8, (HI.out.2.1.step (mo Hw6.out.2.1) (.inl rfl)).step hgr8.1 hgr8.2, hnf8, hs8, hl8, hc8⟩; clear hrw8 hgr8 hnf8 hs8 hl8 hc8))
     go_roundg gg
     case rel => exact ⟨i + 1, L ++ L2, by omega, by go_num, Lh ⟨by rw [<- List.append_assoc]; exact H8.out.1, H8.out.2.1, fun y hy => by
      rcases List.mem_append.1 hy with hy | hy
      ·exact HI.out.2.2.1 y hy
      ·exact H8.out.2.2.1 y hy, (oD HIL.out HK.out.1 HK.out.2.1 HI.out.2.2.2.1 HI.out.2.2.2.2.1 (.inr ⟨by simpa using HXK.out, H8.out.2.2.2.1, H8.out.2.2.2.2.1⟩)).1, (oD HIL.out HK.out.1 HK.out.2.1 HI.out.2.2.2.1 HI.out.2.2.2.2.1 (.inr ⟨by simpa using HXK.out, H8.out.2.2.2.1, H8.out.2.2.2.2.1⟩)).2, by
      rw [gz, HK.out.2.2.2.2.1];have h1 := H8.out.2.2.2.2.2;have h2 := HK.out.2.2.2.1;have h3 := HI.out.2.2.2.2.2;have h4 := dA (bu k);omega⟩⟩
     case measure => omega
  · obtain rfl : i = m := by omega
    have HE : Hid (sN q base v ls r w (.returned (.slice B5 N5 d5)) wr) := Lh ⟨_, L, rfl, HI.out.1, ⟨⟨HI.out.2.1.1.os, HI.out.2.1.1.tape, HI.out.2.1.1.output, Nat.le_trans (by simp) HI.out.2.1.1.size, fun j hj hne => (HI.out.2.1.1.block j (by simp; omega) hne).trans ((ag w _).block j hj)⟩, HI.out.2.1.2.imp id fun ⟨g, e, h⟩ => ⟨g, e, by simp at h; omega⟩⟩, HI.out.2.2.1, fun e => by have h1 := HI.out.2.2.2.1 (HX.out.2.1.trans e); rwa [HX.out.1.o.mlen, List.take_length] at h1, fun e => by have h1 := HI.out.2.2.2.2.1 (HX.out.2.1.trans e); rwa [HX.out.1.o.mlen, List.take_length] at h1, by have h1 := HI.out.2.2.2.2.2; rwa [HX.out.1.o.mlen, List.take_length] at h1⟩;go_wp2_with fail;go_ret;exact HE.out
theorem Ar (r : Rx) (hvr : ay r = true) (hcm : av r <= 1000000000000) (hpr : lL r) (hn : ∀ x, SizeOf.sizeOf x < SizeOf.sizeOf r -> ay x = true -> av x <= 1000000000000 -> ma x) : ma r := by
 intro p w A B n c m d hpb hDB hop;obtain ⟨K, hK⟩ : ∃ K, K = r.kind := ⟨_, rfl⟩;obtain ⟨R, hR⟩ : ∃ R, R = normR false r := ⟨_, rfl⟩;have HX : Hid (ai p w r A n c B m d /\ K = r.kind /\ ay r = true /\ av r <= 1000000000000) := Lh ⟨hop, hK, hvr, hcm⟩;have HP : Hid ((∀ b, p b -> b < w.heap.size + 2) /\ 0 < w.heap.size + 2 /\ ∀ b, p b -> b < w.heap.size) := Lh ⟨fun b h => by have := hpb b h; omega, by have := hDB.lt; omega, hpb⟩;have HNG : Hid (∀ b, (p b \/ w.heap.size + 2 <= b) -> b ≠ w.heap.size + 1) := Lh (fun b h => by rcases h with h | h; (have := hpb b h; omega); omega);have HDB := Lh hDB;have HN := Lh hn;have HPA := Lh hpr;have HB1 : Hid (aa ((w.alloc (zC K A n c B m d)).alloc zR) w.heap.size (zV K A n c B m d) 25) := Lh ((aa.at w (zV K A n c B m d) _ 25 _ rfl rfl).alloc _);have HZ : Hid (aa ((w.alloc (zC K A n c B m d)).alloc zR) (w.heap.size + 1) zL 25) := Lh (aa.at (w.alloc (zC K A n c B m d)) zL _ 25 _ rfl (by simp));have hrx := aM HB1.out;rw [<- hK, <- hR]
 by_cases k3 : K = 3
 ·have hK2 := Lh k3;have HR : Hid (R = seqP (r.kids.map (normR false))) := Lh (by rw [hR, bX, if_pos (hK.symm.trans k3)]; rfl);have ab : (K == 3) = true := bT (by omega);clear hop hK hvr hcm hpb hDB hn hpr hR k3;go_enter Tryz.func51, Tryz.ntmps51
  go_wp2_with (first
   |(refine aA rfl (.tmp 7) rfl w.heap.size (0) rfl K A B n c m d hrx ?_)
   |((with_reducible refine (qN HX.out.2.1 HPA.out HP.out.1 (by simp) HP.out.2.1 (fun b h => .inl h) (fun b h => .inr h) (HDB.out.below (aB (ag _ _) _)) (az.nil (fun b => p b \/ w.heap.size + 2 <= b) (w.heap.size + 2) _) (by have h1 := HX.out.2.2.2; have h2 := dA r; simp; omega) (HX.out.1.below (aB (ag _ _) _))).mono ?_); rintro e w1 ⟨v1, L, rfl, hrw, hgr, hnf, hs, hl, hc⟩; obtain ⟨B1, d1, rfl, hle, hdm, hke, hpl⟩ := hrw.e; have H1 : Hid (aU (fun b => (fun b => p b \/ w.heap.size + 2 <= b) b /\ b < w1.heap.size) w1 L B1 /\ Below ((w.alloc (zC K A n c B m d)).alloc zR).heap.size ((w.alloc (zC K A n c B m d)).alloc zR) w1 /\ (∀ y ∈ L, NF y) /\ (r.kind = 3 -> dR L (r.kids.map (normR false))) /\ ah L <= ah r.kids /\ L.length <= d1 /\ d1 <= 9223372036854775807) := Lh ⟨(hke.mono (fun b h => h.1)).lt, fq.below (Below.refl _ _) hgr (fun g hg => by cases hg), hnf, hs, hc, hle, hdm⟩; clear hrw hgr hnf hs hl hc hle hdm hke hpl)
   |((with_reducible refine (pV w1 (p := fun b => (fun b => p b \/ w.heap.size + 2 <= b) b /\ b < w1.heap.size) (fun b h => h.2) L B1 L.length d1 rfl H1.out.2.2.2.2.2.1 H1.out.2.2.2.2.2.2 H1.out.2.2.1 (by have h1 := HX.out.2.2.2; have h2 := dA r; have h3 := H1.out.2.2.2.2.1; omega) H1.out.1).mono ?_); rintro e w8 hp; obtain ⟨A8, n8, c8, B8, m8, d8, rfl, h8, hb8⟩ := bV hp; rw [<- (HR.out.trans (H1.out.2.2.2.1 (HX.out.2.1.symm.trans hK2.out)).of.symm)] at h8 ⊢; have H8 : Hid (ai (fun b => p b \/ w.heap.size + 2 <= b) w8 R A8 n8 c8 B8 m8 d8 /\ Below ((w.alloc (zC K A n c B m d)).alloc zR).heap.size ((w.alloc (zC K A n c B m d)).alloc zR) w8) := Lh ⟨h8.mono (fun b hb => by
      rcases hb with hb | hb
      ·exact hb.1
      ·have := H1.out.2.1.size; simp at this; exact .inr (by omega)), ae H1.out.2.1 hb8⟩; clear hp h8 hb8)
   |(refine wB rfl 25 (.tmp 2) (.tmp 9) rfl (w.heap.size + 1) 0 rfl (zV R.kind A8 n8 c8 B8 m8 d8) rfl (HZ.out.below H8.out.2 (by simp <;> omega)) 3 au ?_; intro w9 hst9; have Hw9 : Hid (aa w9 (w.heap.size + 1) (zV R.kind A8 n8 c8 B8 m8 d8) 25 /\ Below w.heap.size w w9 /\ ai (fun b => p b \/ w.heap.size + 2 <= b) w9 R A8 n8 c8 B8 m8 d8) := Lh ⟨hst9.1, hst9.below (ae (aB (ag _ _) _) H8.out.2) (by omega), fO H8.out.1 hst9 HNG.out⟩; clear hst9))
  exact bM rfl (w.heap.size + 1) rfl (C := (zV R.kind A8 n8 c8 B8 m8 d8)) (T := 25) Hw9.out.1 _ Tryz.underlying25 rfl au rfl (by exact ⟨_, _, _, _, _, _, rfl, Hw9.out.2.2.mono (fun b hb => by rcases hb with hb | hb; exact .inl hb; exact .inr (by omega)), Hw9.out.2.1⟩)
 ·by_cases k4 : K = 4
  ·have hK2 := Lh k4;have HR : Hid (R = altP (r.kids.map (normR false))) := Lh (by rw [hR, bX, if_neg (by rw [<- hK]; exact k3), if_pos (hK.symm.trans k4)]);have ab : (K == 3) = false := bF (by omega);have bb : (K == 4) = true := bT (by omega);clear hop hK hvr hcm hpb hDB hn hpr hR k3 k4;go_enter Tryz.func51, Tryz.ntmps51
   go_wp2_with (first
   |(refine aA rfl (.tmp 12) rfl w.heap.size (0) rfl K A B n c m d hrx ?_)
   |((with_reducible refine (qN HX.out.2.1 HPA.out HP.out.1 (by simp) HP.out.2.1 (fun b h => .inl h) (fun b h => .inr h) (HDB.out.below (aB (ag _ _) _)) (az.nil (fun b => p b \/ w.heap.size + 2 <= b) (w.heap.size + 2) _) (by have h1 := HX.out.2.2.2; have h2 := dA r; simp; omega) (HX.out.1.below (aB (ag _ _) _))).mono ?_); rintro e w1 ⟨v1, L, rfl, hrw, hgr, hnf, hs, hl, hc⟩; obtain ⟨B1, d1, rfl, hle, hdm, hke, hpl⟩ := hrw.e; have H1 : Hid (aU (fun b => (fun b => p b \/ w.heap.size + 2 <= b) b /\ b < w1.heap.size) w1 L B1 /\ Below ((w.alloc (zC K A n c B m d)).alloc zR).heap.size ((w.alloc (zC K A n c B m d)).alloc zR) w1 /\ (∀ y ∈ L, NF y) /\ (r.kind = 4 -> bA L (r.kids.map (normR false))) /\ ah L <= ah r.kids /\ L.length <= d1 /\ d1 <= 9223372036854775807) := Lh ⟨(hke.mono (fun b h => h.1)).lt, fq.below (Below.refl _ _) hgr (fun g hg => by cases hg), hnf, hl, hc, hle, hdm⟩; clear hrw hgr hnf hs hl hc hle hdm hke hpl)
   |((with_reducible refine (mP w1 (p := fun b => (fun b => p b \/ w.heap.size + 2 <= b) b /\ b < w1.heap.size) (fun b h => h.2) (HDB.out.below (ae (aB (ag _ _) _) H1.out.2.1)) L B1 L.length d1 rfl H1.out.2.2.2.2.2.1 H1.out.2.2.2.2.2.2 H1.out.2.2.1 (by have h1 := HX.out.2.2.2; have h2 := dA r; have h3 := H1.out.2.2.2.2.1; omega) H1.out.1).mono ?_); rintro e w8 hp; obtain ⟨A8, n8, c8, B8, m8, d8, rfl, h8, hb8⟩ := bV hp; rw [<- (HR.out.trans (H1.out.2.2.2.1 (HX.out.2.1.symm.trans hK2.out)).of.symm)] at h8 ⊢; have H8 : Hid (ai (fun b => p b \/ w.heap.size + 2 <= b) w8 R A8 n8 c8 B8 m8 d8 /\ Below ((w.alloc (zC K A n c B m d)).alloc zR).heap.size ((w.alloc (zC K A n c B m d)).alloc zR) w8) := Lh ⟨h8.mono (fun b hb => by
      rcases hb with hb | hb
      ·exact hb.1
      ·have := H1.out.2.1.size; simp at this; exact .inr (by omega)), ae H1.out.2.1 hb8⟩; clear hp h8 hb8)
   |(refine wB rfl 25 (.tmp 2) (.tmp 14) rfl (w.heap.size + 1) 0 rfl (zV R.kind A8 n8 c8 B8 m8 d8) rfl (HZ.out.below H8.out.2 (by simp <;> omega)) 3 au ?_; intro w9 hst9; have Hw9 : Hid (aa w9 (w.heap.size + 1) (zV R.kind A8 n8 c8 B8 m8 d8) 25 /\ Below w.heap.size w w9 /\ ai (fun b => p b \/ w.heap.size + 2 <= b) w9 R A8 n8 c8 B8 m8 d8) := Lh ⟨hst9.1, hst9.below (ae (aB (ag _ _) _) H8.out.2) (by omega), fO H8.out.1 hst9 HNG.out⟩; clear hst9))
   exact bM rfl (w.heap.size + 1) rfl (C := (zV R.kind A8 n8 c8 B8 m8 d8)) (T := 25) Hw9.out.1 _ Tryz.underlying25 rfl au rfl (by exact ⟨_, _, _, _, _, _, rfl, Hw9.out.2.2.mono (fun b hb => by rcases hb with hb | hb; exact .inl hb; exact .inr (by omega)), Hw9.out.2.1⟩)
  ·by_cases k5 : K = 5
   ·obtain ⟨y, hy, hvy⟩ : ∃ y, r.kids = [y] /\ ay y = true := by
      rcases eT hvr with rfl | rfl | ⟨s, rfl, _⟩ | ⟨ks, rfl, _⟩ | ⟨ks, rfl, _⟩ | ⟨x, rfl, hx⟩ <;> simp [Rx.kind] at hK <;> first | omega | exact ⟨_, rfl, hx⟩
    have HR : Hid (R = starP (normR false y)) := Lh (by rw [hR, bX, if_neg (by rw [<- hK]; exact k3), if_neg (by rw [<- hK]; exact k4), if_pos (hK.symm.trans k5), hy]; rfl);have hm1 : m = 1 := by rw [hop.o.mlen, hy]; rfl
    subst hm1;have hkk : r.kids.length = 1 := by rw [hy]; rfl
    obtain ⟨b, o, rfl⟩ := hop.kids.1.place (by omega);obtain ⟨A2, n2, c2, B2, m2, d2, hrg, hok⟩ := hop.kids.1.kid (i := 0) (by omega);have hky : ak r.kids 0 = y := by rw [hy]; rfl
    rw [hky] at hrg hok;obtain ⟨Ky, hKy⟩ : ∃ K, K = y.kind := ⟨_, rfl⟩;rw [<- hKy] at hrg;have hcy : av y <= 1000000000000 := by
      have h1 := dA r;have h2 : ah r.kids = av y := by rw [hy]; simp [ah]
      omega
    have HY : Hid (ai p w y A2 n2 c2 B2 m2 d2 /\ Ky = y.kind /\ ay y = true /\ av y <= 1000000000000 /\ SizeOf.sizeOf y < SizeOf.sizeOf r) := Lh ⟨hok, hKy, hvy, hcy, gB (by rw [hy]; simp)⟩;have HYN : Hid (NF (normR false y)) := Lh (NF.normR false hvy);have HRG : Hid (((w.alloc (zC K A n c (some ⟨b, o, none⟩) 1 d)).alloc zR).rangeAt b (o + 0 * 3) (zV Ky A2 n2 c2 B2 m2 d2)) := Lh (fK hrg (aB (ag _ _) _));have hb2 := HB1.out.cell (j := 2) rfl;have ab : (K == 3) = false := bF (by omega);have bb : (K == 4) = false := bF (by omega);have cb : (K == 5) = true := bT (by omega);clear hop hK hvr hcm hpb hDB hn hpr hR k3 k4 k5 hy hvy hkk hrg hok hky hKy;go_enter Tryz.func51, Tryz.ntmps51
    go_wp2_with (first
      |(refine aA rfl (.tmp 19) rfl b (o + 0 * 3) rfl Ky A2 B2 n2 c2 m2 d2 HRG.out ?_)
      |((with_reducible refine (xH HY.out.2.1 (HN.out y HY.out.2.2.2.2 HY.out.2.2.1 HY.out.2.2.2.1) (fun b hb => by have := HP.out.1 b hb; simp; omega) (HDB.out.below (aB (ag _ _) _)) (HY.out.1.below (aB (ag _ _) _))).mono ?_); rintro e w1 hp; obtain ⟨A3, n3, c3, B3, m3, d3, rfl, h3, hb3⟩ := bV hp; have H1 : Hid (ai (fun b => (p b \/ w.heap.size + 2 <= b) /\ b < w1.heap.size) w1 (normR false y) A3 n3 c3 B3 m3 d3 /\ Below ((w.alloc (zC K A n c (some ⟨b, o, none⟩) 1 d)).alloc zR).heap.size ((w.alloc (zC K A n c (some ⟨b, o, none⟩) 1 d)).alloc zR) w1) := Lh ⟨(h3.mono (fun b hb => by
         rcases hb with hb | hb
         ·exact .inl hb
         ·simp at hb; exact .inr (by omega))).lt, hb3⟩; clear hp h3 hb3)
      |((with_reducible refine (AA w1 (fun b hb => hb.2) (normR false y) HYN.out A3 B3 n3 c3 m3 d3 H1.out.1).mono ?_); rintro e w8 hp; obtain ⟨A8, n8, c8, B8, m8, d8, rfl, h8, hb8⟩ := bV hp; rw [<- HR.out] at h8 ⊢; have H8 : Hid (ai (fun b => p b \/ w.heap.size + 2 <= b) w8 R A8 n8 c8 B8 m8 d8 /\ Below ((w.alloc (zC K A n c (some ⟨b, o, none⟩) 1 d)).alloc zR).heap.size ((w.alloc (zC K A n c (some ⟨b, o, none⟩) 1 d)).alloc zR) w8) := Lh ⟨h8.mono (fun b hb => by
         rcases hb with hb | hb
         ·exact hb.1
         ·have := H1.out.2.size; simp at this; exact .inr (by omega)), ae H1.out.2 hb8⟩; clear hp h8 hb8)
      |(refine wB rfl 25 (.tmp 2) (.tmp 22) rfl (w.heap.size + 1) 0 rfl (zV R.kind A8 n8 c8 B8 m8 d8) rfl (HZ.out.below H8.out.2 (by simp <;> omega)) 3 au ?_; intro w9 hst9; have Hw9 : Hid (aa w9 (w.heap.size + 1) (zV R.kind A8 n8 c8 B8 m8 d8) 25 /\ Below w.heap.size w w9 /\ ai (fun b => p b \/ w.heap.size + 2 <= b) w9 R A8 n8 c8 B8 m8 d8) := Lh ⟨hst9.1, hst9.below (ae (aB (ag _ _) _) H8.out.2) (by omega), fO H8.out.1 hst9 HNG.out⟩; clear hst9))
    exact bM rfl (w.heap.size + 1) rfl (C := (zV R.kind A8 n8 c8 B8 m8 d8)) (T := 25) Hw9.out.1 _ Tryz.underlying25 rfl au rfl (by exact ⟨_, _, _, _, _, _, rfl, Hw9.out.2.2.mono (fun b hb => by rcases hb with hb | hb; exact .inl hb; exact .inr (by omega)), Hw9.out.2.1⟩)
   ·have HR : Hid (R = r) := Lh (by rw [hR, bX, if_neg (by rw [<- hK]; exact k3), if_neg (by rw [<- hK]; exact k4), if_neg (by rw [<- hK]; exact k5)]);have ab : (K == 3) = false := bF (by omega);have bb : (K == 4) = false := bF (by omega);have cb : (K == 5) = false := bF (by omega);clear hop hK hvr hcm hpb hDB hn hpr hR k3 k4 k5;go_enter Tryz.func51, Tryz.ntmps51
    go_wp2_with (first
      |(refine aA rfl (.tmp 1) rfl w.heap.size (0) rfl K A B n c m d hrx ?_)
      |(refine wB rfl 25 (.tmp 2) (.tmp 23) rfl (w.heap.size + 1) 0 rfl (zV K A n c B m d) rfl HZ.out 3 au ?_; intro w9 hst9; have Hw9 : Hid (aa w9 (w.heap.size + 1) (zV K A n c B m d) 25 /\ Below w.heap.size w w9) := Lh ⟨hst9.1, hst9.below (aB (ag _ _) _) (by omega)⟩; clear hst9))
    exact bM rfl (w.heap.size + 1) rfl (C := (zV K A n c B m d)) (T := 25) Hw9.out.1 _ Tryz.underlying25 rfl au rfl (by rw [HR.out, HX.out.2.1]; exact jF (HX.out.1.below Hw9.out.2) (fun b hb => .inl hb) Hw9.out.2)
theorem xn : ∀ (z : Nat) (r : Rx), SizeOf.sizeOf r <= z -> ay r = true -> (av r <= 1000000000000 -> ma r) /\ lL r
 |0, r, hz, hv => by cases r; simp at hz
 |z + 1, r, hz, hv => by
  have ih : ∀ x, SizeOf.sizeOf x < SizeOf.sizeOf r -> ay x = true -> (av x <= 1000000000000 -> ma x) /\ lL x := fun x hx hv => xn z x (by omega) hv
  have hpa := zg r hv (fun x hx hv hc => (ih x hx hv).1 hc) (fun x hx hv => (ih x hx hv).2);exact ⟨fun hc => Ar r hv hc hpa (fun x hx hv hc => (ih x hx hv).1 hc), hpa⟩
theorem zy {p : Nat -> Prop} {w : World} (hp : ∀ b, p b -> b < w.heap.size) (hd : DB w) (r : Rx) (hv : ay r = true) (hc : av r <= 1000000000000) {A B : Option Addr} {n c m d : Nat} (h : ai p w r A n c B m d) : Calls Tryz.prog 51 #[.agg #[.int .i64 r.kind, .slice A n c, .slice B m d]] w (dn p w (normR false r)) :=
 (xn _ r (Nat.le_refl _) hv).1 hc p w A B n c m d hp hd h
namespace Rgx
theorem vk : ∀ l : List Int, eX l = true -> ∀ x t, l = x :: t -> x + (t.length : Int) + 1 <= 64
 |[], _, x, t, e => by cases e
 |[y], h, x, t, e => by
  obtain ⟨rfl, rfl⟩ : y = x /\ [] = t := by simpa using e
  simp [eX] at h;simp only [List.length_nil];omega
 |y :: z :: l, h, x, t, e => by
  obtain ⟨rfl, rfl⟩ : y = x /\ z :: l = t := by simpa using e
  have h2 : eX (z :: l) = true := by rw [eX] at h; simp only [Bool.and_eq_true] at h; exact h.2
  have h3 := vk (z :: l) h2 z l rfl;have h4 : y < z := by rw [eX] at h; simp only [Bool.and_eq_true, decide_eq_true_eq] at h; exact h.1.2
  simp only [List.length_cons] at *;omega
theorem AQ {l : List Int} (h : dI l = true) : l.length <= 64 := by
 unfold dI at h;simp only [Bool.and_eq_true, decide_eq_true_eq] at h
 match l, h with
 |x :: t, ⟨_, h⟩ =>
  have h1 := vk _ h x t rfl;have h2 : 0 <= x := by unfold eX at h; simp only [Bool.and_eq_true, decide_eq_true_eq] at h; exact h.1.1.1
  simp only [List.length_cons];omega
theorem yc {r : Rx} (h : ay r = true) : r.syms.length <= 64 := by
 rcases eT h with rfl | rfl | ⟨s, rfl, hs⟩ | ⟨ks, rfl, _⟩ | ⟨ks, rfl, _⟩ | ⟨x, rfl, _⟩ <;> first | exact AQ hs | simp [Rx.syms]
end Rgx
section
variable {P : Program} {w : World} {ops : Array Oper} {o : Oper} {a : Act}
theorem lC {rest : List Oper} {Q : Exit -> Act -> World -> Prop} (hgd : o.guard = none) (ty : TypeId) (x y : Operand) (ho : o.op = .store ty x y)
  (g j : Nat) (hx : a.eval x = .pointer (some ⟨g, j, none⟩)) (A : Option Addr) (n c : Nat) (hy : a.eval y = .slice A n c) {C : List Value} {T : TypeId} (hb : aa w g C T) (hj : j < C.length) (hi : (P.info? ty).map (·.size) = some 1)
  (h : ∀ w1, aK w w1 g (C.set j (.slice A n c)) T -> wpList P ops Q rest (a.put o.dst undef) w1) : wpList P ops Q (o :: rest) a w := by
 refine wpList_plain hgd fun _ hK => ?_
 have hst := run_storeCells_cells (P := P) g j [Value.slice A n c] 0 w (fun i hi => by
    have h0 : i = 0 := by simpa using hi
    subst h0; exact (hb.there j 1 (by omega) 0 (by omega)).1) (fun i hi => by
    have h0 : i = 0 := by simpa using hi
    subst h0; exact (hb.there j 1 (by omega) 0 (by omega)).2) (fun v hv => by
    have hv' : v = .slice A n c := by simpa using hv
    subst hv'; rfl)
 have hrun : (Instr.storeAt ty (.pointer (some ⟨g, j, none⟩)) (.slice A n c)).run P w = .ok () (w.setCell ⟨g, j, none⟩ (.slice A n c)) := by
  cases hq : P.info? ty with
  | none => simp [hq] at hi
  | some i =>
    have hi' : i.size = 1 := by simpa [hq] using hi
    have hst' : (storeCells ⟨g, j, none⟩ [Value.slice A n c] 0).run P w = .ok () (w.setCell ⟨g, j, none⟩ (.slice A n c)) := hst;simp [Instr.storeAt, Instr.sureAddr, storeVar, sizeOf, typeInfo, hq, hi', Value.cells, hst']
 unfold Oper.wp execOp;simp only [ho, hx, hy, Sem.run_bind, Sem.run_pure, Result.andThen_ok, hrun];exact hK _ _ (h _ (aK.of_setCell hb j _))
end
theorem sZ {q : Nat -> Prop} {base g n cap k : Nat} {cur : List Rx} {w : World} {ops : Array Oper} {o : Oper} {a : Act} {KK : Act -> World -> Prop} {Q : Exit -> Act -> World -> Prop} {E : Prop} (hgd : o.guard = none) (x y : Operand) (ho : o.op = .store 25 x y)
  (h : az q base (.slice (some ⟨g, 0, none⟩) n cap) cur w) (hn : n = cur.length) (hk : k < n) (hx : a.eval x = .pointer (some ⟨g, k * 3, none⟩)) (r : Rx) (K : Int) (hK : K = r.kind) (A B : Option Addr) (n1 c1 m1 d1 : Nat) (hy : a.eval y = .agg #[.int .i64 K, .slice A n1 c1, .slice B m1 d1]) (hr : aP (fun b => q b /\ some b ≠ some g) w r (.slice A n1 c1) (.slice B m1 d1))
  (hw : ∀ w1, az q base (.slice (some ⟨g, 0, none⟩) n cap) (cur.set k r) w1 /\ w.grownBy w1 (some g) -> KK (a.put o.dst undef) w1) : if Region.wanted o (yielded ops a.tmps) = true then Oper.wp Tryz.prog o a w KK Q else E := by
 subst hK;rw [if_pos (by simp [Region.wanted, hgd])];refine wp_store_mid 25 x y ho g (k * 3) #[.int .i64 r.kind, .slice A n1 c1, .slice B m1 d1] hx hy (h.there hn hk) au (by simp [Value.oneCell']) ?_;exact hw _ (h.store hn hr hk)
theorem Rgx.az.other {q : Nat -> Prop} {base G : Nat} {v : Value} {rs : List Rx} {w W : World} (h : az q base v rs w) (hg : w.grownBy W (some G)) (hq : ∀ b, q b -> b ≠ G) (hG : G < base) : az q base v rs W := by
 obtain ⟨xs, h1, h2⟩ := h;refine ⟨xs, (h1.lt.keep (W := W) fun b o hb => World.cell?_of_block (hg.block b hb.2 fun e => hq b hb.1.1 (by simpa using e))).mono fun b hb => hb.1, h2.kept hg ?_⟩
 cases hv : v.ownBlock with
 |none => exact .inl rfl
 |some g =>
  refine .inr fun e => ?_
  have h3 := (h2.lt g hv).1;simp only [Option.some.injEq] at e;omega
theorem bv {w W : World} {G : Nat} {D : List Value} {T : TypeId} (h : aK w W G D T) : w.grownBy W (some G) := ⟨h.2.2.2.1, h.2.2.2.2.1, h.2.2.2.2.2, by rw [h.2.2.1]; exact Nat.le_refl _, fun k _ hk => h.2.1 k fun e => hk (by rw [e])⟩
theorem Rgx.ai.other {p : Nat -> Prop} {w W : World} {G : Option Nat} {r : Rx} {A B : Option Addr} {n c m d : Nat} (h : ai p w r A n c B m d) (hg : w.grownBy W G) (hp : ∀ b, p b -> some b ≠ G) : ai p W r A n c B m d := by
 have h1 := h.and h.o.toP;obtain ⟨A', n', c', B', m', d', e1, e2, h2⟩ := (aP.keep (W := W) (fun b o hb => World.cell?_of_block (hg.block b hb.2 (hp b hb.1))) r h1.q).op;simp only [Value.slice.injEq] at e1 e2;obtain ⟨rfl, rfl, rfl⟩ := e1;obtain ⟨rfl, rfl, rfl⟩ := e2;exact h2.mono fun b hb => hb.1
theorem xO (q : Nat -> Prop) (base m : Nat) (w : World) (hb : base <= w.heap.size) (hm : m <= maxLen) : az q base (.slice (some ⟨w.heap.size, 0, none⟩) m m) (List.replicate m (.mk 0 [] [])) (w.alloc (.cells (madeCells #[.int .i64 0, .slice none 0 0, .slice none 0 0] (m * 3)) 25)) := by
 have hget : ∀ i, i < m * 3 -> (madeCells #[.int .i64 0, .slice none 0 0, .slice none 0 0] (m * 3)).toList[i]? = some (#[.int .i64 0, .slice none 0 0, .slice none 0 0][i % 3]!) := fun i hi => by
  unfold madeCells;simp [hi]
 refine ⟨(madeCells #[.int .i64 0, .slice none 0 0, .slice none 0 0] (m * 3)).toList, ⟨by simp [madeCells], fun i hi => ?_⟩, by simp [madeCells], .inr ⟨w.heap.size, m, _, by simp, hb, heap_alloc_new w _, by simp, hm, by simp [madeCells], ?_⟩⟩
 ·rw [List.length_replicate] at hi;refine ⟨.slice none 0 0, .slice none 0 0, ?_, ?_, ?_, ?_⟩
  ·rw [hget _ (by omega), show i * 3 % 3 = 0 by omega]; simp; rfl
  ·rw [hget _ (by omega), show (i * 3 + 1) % 3 = 1 by omega]; rfl
  ·rw [hget _ (by omega), show (i * 3 + 2) % 3 = 2 by omega]; rfl
  ·rw [List.getElem_replicate]; exact (ai.flat _ _ (by constructor <;> decide)).q
 ·rw [List.length_replicate, List.take_of_length_le (by simp [madeCells])]
theorem sJ (m : Nat) (hm : m <= 2000000000000) (w : World) : (Instr.makeSlice 23 (.int .i64 (m : Int)) (.int .i64 (m : Int))).run Tryz.prog w = .ok (.slice (some ⟨w.heap.size, 0, none⟩) m m) (w.alloc (.cells (madeCells #[.int .i64 0, .slice none 0 0, .slice none 0 0] (m * 3)) 25)) := by
 obtain ⟨i0, hi0, hz0, hz1, hz2⟩ := info_parts iq;have h := run_make (P := Tryz.prog) w 23 25 i0 _ Tryz.underlying23 hi0 hz0 .i64 .i64 (m : Int) (m : Int) (by omega) (Int.le_refl _) (by rw [hz2]; omega) (by omega);rw [h, Int.toNat_natCast, hz1]
 rfl
theorem rW {P : Program} {w : World} {size : Nat} {tx e' : TypeId} (hk : P.underlying tx = some (.slice e')) (hs : size = 1) {A : Option Addr} {l : List Int} (h : Rd w A (iv l)) (n c : Nat) (hn : n = l.length) :
  Src P size tx (.slice A n c) n (iv l) w := by
 subst hs hn
 cases A with
 |none =>
  have hl : l = [] := by
   rcases h with h | ⟨b, o, e, _⟩
   ·simpa [iv] using h
   ·cases e
  subst hl;exact Src.ofNil w hk c
 |some a =>
  refine Src.ofSlice w hk a l.length c (iv l) (by simp [iv]) (fun j u hu => ?_) (fun u hu => by
   obtain ⟨x, _, rfl⟩ := List.mem_map.1 hu
   rfl)
  rcases h with h | ⟨b, o, e, hc⟩
  ·rw [h] at hu; simp at hu
  ·obtain rfl : a = ⟨b, o, none⟩ := by simpa using e
   have hadd : (⟨b, o, none⟩ : Addr).add j = ⟨b, o + j, none⟩ := by unfold Addr.add; split <;> simp_all
   rw [hadd];exact hc j u hu
theorem lG : (Tryz.prog.info? 3).map (fun i => (i.zero, i.size, i.bytes)) = some (some (.int .i64 0), 1, 8) := by kernel_rfl
theorem om : (Tryz.prog.info? 22).map (·.size) = some 1 := by kernel_rfl
theorem Hl : (Tryz.prog.info? 23).map (·.size) = some 1 := by kernel_rfl
theorem qb {q : Nat -> Prop} {base : Nat} {w : World} {K : Int} {s : List Int} {A : Option Addr} {n c m d : Nat} {B : Option Addr} {ks : List Rx} {v : Value} (h : ai q w (.mk K s []) A n c none 0 0) (hr : az q base v ks w) (hq : ∀ b, base <= b -> q b) (hv : v = .slice B m d) : ai q w (.mk K s ks) A n c B m d := by
 obtain ⟨B', d', e, h1, h2, h3, h4⟩ := hr.e;rw [hv, Value.slice.injEq] at e;obtain ⟨rfl, rfl, rfl⟩ := e;obtain ⟨⟨g1, g2⟩, ⟨A', n', c', e, g3, g4, g5, g6, g7⟩, _⟩ := (aP.iff _ _ _ _ _).1 h.q;rw [Value.slice.injEq] at e;obtain ⟨rfl, rfl, rfl⟩ := e;refine ai.make g1 g2 g3 g4 g5 g6 g7 rfl h1 h2 (h3.mono fun b h => h.1) fun hn b o e => ?_
 obtain ⟨g, e2, h5, _⟩ := h4 hn;rw [e2, Option.some.injEq, Addr.mk.injEq] at e;exact e.1 ▸ hq g h5
theorem uP {q : Nat -> Prop} {w : World} {K : Int} {s : List Int} {base : Nat} {A : Option Addr} {n c : Nat} (hK : bI K) (hs : ∀ x ∈ s, bI x) (hn : n = s.length) (hown : w.ownsRow base 3 1 (.slice A n c) n (iv s)) (hq : ∀ b, base <= b -> b < w.heap.size -> q b) : ai q w (.mk K s []) A n c none 0 0 := by
 obtain ⟨A', c', e, hr, hnc, hcm⟩ := Rd.of_own hown;rw [Value.slice.injEq] at e;obtain ⟨rfl, _, rfl⟩ := e;refine ai.make hK hs hn hnc hcm hr (fun _ b o e => ?_) rfl (Nat.le_refl _) (Nat.zero_le _) (fun i hi => absurd hi (by simp)) fun h => absurd rfl h
 subst e;have h1 := hown.lt b rfl;exact hq b h1.1 h1.2
def nZ (x : Rx) : Prop := ∀ (w : World) (A B : Option Addr) (n c m d : Nat), aC w x A n c B m d -> Calls Tryz.prog 50 #[.agg #[.int .i64 x.kind, .slice A n c, .slice B m d]] w (dn (fun _ => False) w x)
theorem Dj {w : World} {x : Rx} {K : Int} {A B : Option Addr} {n c m d : Nat} (hK : K = x.kind) (h : nZ x) (hx : aC w x A n c B m d) : Calls Tryz.prog 50 #[.agg #[.int .i64 K, .slice A n c, .slice B m d]] w (dn (fun _ => False) w x) := by
 subst hK;exact h w A B n c m d hx
theorem mD {cur ks : List Rx} (hl : cur.length = ks.length) (h : ∀ j, j < ks.length -> ak cur j = ak ks j) : cur = ks := by
 refine List.ext_getElem hl fun i h1 h2 => ?_
 have := h i h2
 rwa [dO h1, dO h2] at this
theorem nM {cur : List Rx} {k : Nat} {x : Rx} (h : k < cur.length) : ak (cur.set k x) k = x := by
 unfold ak;rw [List.getD_eq_getElem?_getD, List.getElem?_set_self h]; rfl
theorem aa.grown {w W : World} {G : Option Nat} {g : Nat} {C : List Value} {T : TypeId} (h : aa w g C T) (hg : w.grownBy W G) (hne : some g ≠ G) : aa W g C T := (hg.block g h.lt hne).trans h
theorem zJ (r : Rx) (hvr : ay r = true) (hcm : av r <= 1000000000000) (ih : ∀ x ∈ r.kids, nZ x) : nZ r := by
 intro w A B n c m d hop;obtain ⟨i0, hi0, hz0, hz1, hz2⟩ := info_parts iq;obtain ⟨j0, hj0, hy0, hy1, hy2⟩ := info_parts lG;obtain ⟨K, hK⟩ : ∃ K, K = r.kind := ⟨_, rfl⟩;have hm : m <= 2000000000000 := by
  have h1 := dA r;have h2 := iF r.kids;rw [hop.mlen]; omega
 have HX : Hid (aC w r A n c B m d /\ K = r.kind /\ ay r = true /\ n <= 64 /\ bI K /\ (∀ x ∈ r.syms, bI x) /\ m <= 2000000000000) := Lh ⟨hop, hK, hvr, by rw [hop.nlen]; exact yc hvr, by rw [hK]; exact hop.kin, hop.sin, hm⟩;have HIH := Lh ih;have hmd := hop.mcap;have H1 : Hid (aa (((w.alloc (zC K A n c B m d)).alloc zR).alloc (zC K none 0 0 none 0 0)) (w.heap.size + 1 + 1) (zV K none 0 0 none 0 0) 25 /\ Below w.heap.size w (((w.alloc (zC K A n c B m d)).alloc zR).alloc (zC K none 0 0 none 0 0)) /\ aa (((w.alloc (zC K A n c B m d)).alloc zR).alloc (zC K none 0 0 none 0 0)) w.heap.size (zV K A n c B m d) 25 /\ aa (((w.alloc (zC K A n c B m d)).alloc zR).alloc (zC K none 0 0 none 0 0)) (w.heap.size + 1) zL 25 /\ w.heap.size + 1 + 1 + 1 <= (((w.alloc (zC K A n c B m d)).alloc zR).alloc (zC K none 0 0 none 0 0)).heap.size) := Lh ⟨aa.at ((w.alloc (zC K A n c B m d)).alloc zR) (zV K none 0 0 none 0 0) _ 25 _ rfl (by simp), aB (aB (ag _ _) _) _, ((aa.at w (zV K A n c B m d) _ 25 _ rfl rfl).alloc _).alloc _, (aa.at (w.alloc (zC K A n c B m d)) zL _ 25 _ rfl (by simp)).alloc _, by simp⟩
 have hmk := sJ m hm;rw [<- hK];clear hop hK hvr hcm ih
 by_cases h0 : m = 0
 ·subst h0;go_enter Tryz.func50, Tryz.ntmps50
  go_wp2_with (first
 |(at_builtin; refine eu rfl (.tmp 10) (.tmp 12) 22 22 rfl (w.heap.size + 1 + 1 + 1) 3 j0 _ 1 8 Tryz.underlying22 hj0 hy0 hy1 hy2 rfl _ 0 [] rfl ⟨rfl, .inl ⟨rfl, rfl⟩⟩ _ n (iv r.syms) rfl (rW Tryz.underlying22 hy1 (HX.out.1.below H1.out.2.1).syms n c HX.out.1.nlen) (by have := HX.out.2.2.2.1; unfold maxLen; omega) (by have := HX.out.2.2.2.1; omega) H1.out.2.2.2.2 ?_; intro v5 w5 hown hg5 hat5; obtain ⟨A5, c5, hv5, _⟩ := Rd.of_own hown; subst hv5; simp only [Nat.zero_add, List.nil_append] at hown ⊢; have hb5 : Below (((w.alloc (zC K A n c B 0 d)).alloc zR).alloc (zC K none 0 0 none 0 0)).heap.size (((w.alloc (zC K A n c B 0 d)).alloc zR).alloc (zC K none 0 0 none 0 0)) w5 := dJ (Below.refl _ _) hg5 (fun g hg => by cases hg); have H5 : Hid (aa w5 (w.heap.size + 1 + 1) (zV K none 0 0 none 0 0) 25 /\ Below w.heap.size w w5 /\ aa w5 w.heap.size (zV K A n c B 0 d) 25 /\ aa w5 (w.heap.size + 1) zL 25 /\ w.heap.size + 1 + 1 + 1 <= w5.heap.size /\ ai (fun b => (fun b => w.heap.size + 1 + 1 + 1 <= b) b /\ b < w5.heap.size) w5 (.mk K r.syms []) A5 n c5 none 0 0) := Lh ⟨H1.out.1.below hb5 H1.out.1.lt, ae H1.out.2.1 hb5, H1.out.2.2.1.below hb5 H1.out.2.2.1.lt, H1.out.2.2.2.1.below hb5 H1.out.2.2.2.1.lt, Nat.le_trans H1.out.2.2.2.2 hb5.size, uP HX.out.2.2.2.2.1 HX.out.2.2.2.2.2.1 HX.out.1.nlen hown (fun b h1 h2 => ⟨h1, h2⟩)⟩; clear hown hg5 hat5 hb5)
 |(refine lC rfl 22 (.tmp 14) (.tmp 13) rfl (w.heap.size + 1 + 1) 1 rfl A5 n c5 rfl H5.out.1 (by simp) om ?_; intro w6 hst9; have H6 : Hid (aa w6 (w.heap.size + 1 + 1) (zV K A5 n c5 none 0 0) 25 /\ Below w.heap.size w w6 /\ aa w6 w.heap.size (zV K A n c B 0 d) 25 /\ aa w6 (w.heap.size + 1) zL 25 /\ w.heap.size + 1 + 1 + 1 <= w6.heap.size /\ ai (fun b => (fun b => w.heap.size + 1 + 1 + 1 <= b) b /\ b < w6.heap.size) w6 (.mk K r.syms []) A5 n c5 none 0 0) := Lh ⟨hst9.1, hst9.below H5.out.2.1 (by omega), hst9.other H5.out.2.2.1 (by omega), hst9.other H5.out.2.2.2.1 (by omega), by rw [hst9.2.2.1]; exact H5.out.2.2.2.2.1, by rw [hst9.2.2.1]; exact H5.out.2.2.2.2.2.other (bv hst9) (fun b hb e => by have := hb.1; simp at e; omega)⟩; have hb2 := H6.out.2.2.1.cell (j := 2) rfl; clear hst9))
  go_loopg [27] 0 (fun g s27 wr => ∃ (i : Nat) (cur : List Rx), i + g = 0 /\ s27 = .int .i64 (i : Int) /\ Hid (cur.length = 0 /\ (∀ j, j < i -> ak cur j = ak r.kids j) /\ (aa wr (w.heap.size + 1 + 1) (zV K A5 n c5 none 0 0) 25 /\ az (fun b => w.heap.size + 1 + 1 + 1 <= b) (w.heap.size + 1 + 1 + 1) (.slice none 0 0) cur wr /\ Below w.heap.size w wr /\ aa wr (w.heap.size + 1) zL 25 /\ ai (fun b => (fun b => w.heap.size + 1 + 1 + 1 <= b) b /\ some b ≠ Value.ownBlock (.slice none 0 0)) wr (.mk K r.syms []) A5 n c5 none 0 0 /\ w.heap.size + 1 + 1 + 1 <= wr.heap.size)))
  case atStart => exact ⟨0, [], by omega, rfl, Lh ⟨rfl, fun j hj => by omega, H6.out.1, az.nil _ _ _, H6.out.2.1, H6.out.2.2.2.1, H6.out.2.2.2.2.2.mono (fun b hb => ⟨hb.1, fun e => by cases e⟩), H6.out.2.2.2.2.1⟩⟩
  case round =>
    obtain ⟨i, cur, hi, rfl, HI⟩ := hrel
    by_cases hlt : i < 0
    ·omega
    ·obtain rfl : 0 = i := by omega
     have hrx := aM HI.out.2.2.1
     go_wp2_with (first
      |(refine aA rfl (.tmp 3) rfl (w.heap.size + 1 + 1) (0) rfl K A5 none n c5 0 0 hrx ?_)
      |(refine wB rfl 25 (.tmp 2) (.tmp 39) rfl (w.heap.size + 1) 0 rfl (zV K A5 n c5 none 0 0) rfl HI.out.2.2.2.2.2.1 3 au ?_; intro w9 hst9; have Hw9 : Hid (aa w9 (w.heap.size + 1) (zV K A5 n c5 none 0 0) 25 /\ Below w.heap.size w w9 /\ az (fun b => w.heap.size + 1 + 1 + 1 <= b) (w.heap.size + 1 + 1 + 1) (.slice none 0 0) cur w9 /\ ai (fun b => w.heap.size + 1 + 1 + 1 <= b) w9 (.mk K r.syms []) A5 n c5 none 0 0) := Lh ⟨hst9.1, hst9.below HI.out.2.2.2.2.1 (by omega), HI.out.2.2.2.1.other (bv hst9) (fun b hb => by omega) (by omega), (HI.out.2.2.2.2.2.2.1.other (bv hst9) (fun b hb e => by have := hb.1; simp at e; omega)).mono (fun b hb => hb.1)⟩; clear hst9))
     exact bM rfl (w.heap.size + 1) rfl (C := (zV K A5 n c5 none 0 0)) (T := 25) Hw9.out.1 _ Tryz.underlying25 rfl au rfl (by
      have e : cur = r.kids := mD (HI.out.1.trans HX.out.1.mlen) fun j hj => HI.out.2.1 j (by rw [HX.out.1.mlen]; exact hj)
      have h1 := qb Hw9.out.2.2.2 Hw9.out.2.2.1 (fun b h => h) rfl;rw [e, HX.out.2.1, show Rx.mk r.kind r.syms r.kids = r by cases r; rfl] at h1;refine ⟨A5, n, c5, none, 0, 0, ?_, h1.mono (fun b hb => .inr (by omega)), Hw9.out.2.1⟩;rw [HX.out.2.1])
 ·have hpos : 0 < m := by omega
  go_enter Tryz.func50, Tryz.ntmps50
  go_wp2_with (first
 |(at_builtin; refine eu rfl (.tmp 10) (.tmp 12) 22 22 rfl (w.heap.size + 1 + 1 + 1) 3 j0 _ 1 8 Tryz.underlying22 hj0 hy0 hy1 hy2 rfl _ 0 [] rfl ⟨rfl, .inl ⟨rfl, rfl⟩⟩ _ n (iv r.syms) rfl (rW Tryz.underlying22 hy1 (HX.out.1.below H1.out.2.1).syms n c HX.out.1.nlen) (by have := HX.out.2.2.2.1; unfold maxLen; omega) (by have := HX.out.2.2.2.1; omega) H1.out.2.2.2.2 ?_; intro v5 w5 hown hg5 hat5; obtain ⟨A5, c5, hv5, _⟩ := Rd.of_own hown; subst hv5; simp only [Nat.zero_add, List.nil_append] at hown ⊢; have hb5 : Below (((w.alloc (zC K A n c B m d)).alloc zR).alloc (zC K none 0 0 none 0 0)).heap.size (((w.alloc (zC K A n c B m d)).alloc zR).alloc (zC K none 0 0 none 0 0)) w5 := dJ (Below.refl _ _) hg5 (fun g hg => by cases hg); have H5 : Hid (aa w5 (w.heap.size + 1 + 1) (zV K none 0 0 none 0 0) 25 /\ Below w.heap.size w w5 /\ aa w5 w.heap.size (zV K A n c B m d) 25 /\ aa w5 (w.heap.size + 1) zL 25 /\ w.heap.size + 1 + 1 + 1 <= w5.heap.size /\ ai (fun b => (fun b => w.heap.size + 1 + 1 + 1 <= b) b /\ b < w5.heap.size) w5 (.mk K r.syms []) A5 n c5 none 0 0) := Lh ⟨H1.out.1.below hb5 H1.out.1.lt, ae H1.out.2.1 hb5, H1.out.2.2.1.below hb5 H1.out.2.2.1.lt, H1.out.2.2.2.1.below hb5 H1.out.2.2.2.1.lt, Nat.le_trans H1.out.2.2.2.2 hb5.size, uP HX.out.2.2.2.2.1 HX.out.2.2.2.2.2.1 HX.out.1.nlen hown (fun b h1 h2 => ⟨h1, h2⟩)⟩; clear hown hg5 hat5 hb5)
 |(refine lC rfl 22 (.tmp 14) (.tmp 13) rfl (w.heap.size + 1 + 1) 1 rfl A5 n c5 rfl H5.out.1 (by simp) om ?_; intro w6 hst9; have H6 : Hid (aa w6 (w.heap.size + 1 + 1) (zV K A5 n c5 none 0 0) 25 /\ Below w.heap.size w w6 /\ aa w6 w.heap.size (zV K A n c B m d) 25 /\ aa w6 (w.heap.size + 1) zL 25 /\ w.heap.size + 1 + 1 + 1 <= w6.heap.size /\ ai (fun b => (fun b => w.heap.size + 1 + 1 + 1 <= b) b /\ b < w6.heap.size) w6 (.mk K r.syms []) A5 n c5 none 0 0) := Lh ⟨hst9.1, hst9.below H5.out.2.1 (by omega), hst9.other H5.out.2.2.1 (by omega), hst9.other H5.out.2.2.2.1 (by omega), by rw [hst9.2.2.1]; exact H5.out.2.2.2.2.1, by rw [hst9.2.2.1]; exact H5.out.2.2.2.2.2.other (bv hst9) (fun b hb e => by have := hb.1; simp at e; omega)⟩; have hb2 := H6.out.2.2.1.cell (j := 2) rfl; clear hst9)
 |(refine lC rfl 23 (.tmp 23) (.tmp 22) rfl (w.heap.size + 1 + 1) 2 rfl (some ⟨w6.heap.size, 0, none⟩) m m rfl (H6.out.1.alloc _) (by simp) Hl ?_; intro w7 hst9; have H7 : Hid (aa w7 (w.heap.size + 1 + 1) (zV K A5 n c5 (some ⟨w6.heap.size, 0, none⟩) m m) 25 /\ az (fun b => w.heap.size + 1 + 1 + 1 <= b) (w.heap.size + 1 + 1 + 1) (.slice (some ⟨w6.heap.size, 0, none⟩) m m) (List.replicate m (.mk 0 [] [])) w7 /\ Below w.heap.size w w7 /\ aa w7 (w.heap.size + 1) zL 25 /\ ai (fun b => (fun b => w.heap.size + 1 + 1 + 1 <= b) b /\ some b ≠ Value.ownBlock (.slice (some ⟨w6.heap.size, 0, none⟩) m m)) w7 (.mk K r.syms []) A5 n c5 none 0 0 /\ w.heap.size + 1 + 1 + 1 <= w7.heap.size) := Lh ⟨hst9.1, (xO (fun b => w.heap.size + 1 + 1 + 1 <= b) (w.heap.size + 1 + 1 + 1) m w6 H6.out.2.2.2.2.1 (by have := HX.out.2.2.2.2.2.2; unfold maxLen; omega)).other (bv hst9) (fun b hb => by omega) (by omega), hst9.below (aB H6.out.2.1 _) (by omega), hst9.other (H6.out.2.2.2.1.alloc _) (by omega), ((H6.out.2.2.2.2.2.below (ag _ _)).other (bv hst9) (fun b hb e => by have := hb.1; simp at e; omega)).mono (fun b hb => ⟨hb.1, fun e => by have := hb.2; simp [Value.ownBlock] at e; omega⟩), by rw [hst9.2.2.1]; have := H6.out.2.2.2.2.1; simp; omega⟩; have hb3 := (hst9.other (H6.out.2.2.1.alloc _) (by omega)).cell (j := 2) rfl; clear hst9))
  go_loopg [27] m (fun g s27 wr => ∃ (i : Nat) (cur : List Rx), i + g = m /\ s27 = .int .i64 (i : Int) /\ Hid (cur.length = m /\ (∀ j, j < i -> ak cur j = ak r.kids j) /\ (aa wr (w.heap.size + 1 + 1) (zV K A5 n c5 (some ⟨w6.heap.size, 0, none⟩) m m) 25 /\ az (fun b => w.heap.size + 1 + 1 + 1 <= b) (w.heap.size + 1 + 1 + 1) (.slice (some ⟨w6.heap.size, 0, none⟩) m m) cur wr /\ Below w.heap.size w wr /\ aa wr (w.heap.size + 1) zL 25 /\ ai (fun b => (fun b => w.heap.size + 1 + 1 + 1 <= b) b /\ some b ≠ Value.ownBlock (.slice (some ⟨w6.heap.size, 0, none⟩) m m)) wr (.mk K r.syms []) A5 n c5 none 0 0 /\ w.heap.size + 1 + 1 + 1 <= wr.heap.size)))
  case atStart => exact ⟨0, List.replicate m (.mk 0 [] []), by omega, rfl, Lh ⟨by simp, fun j hj => by omega, H7.out⟩⟩
  case round =>
    obtain ⟨i, cur, hi, rfl, HI⟩ := hrel
    by_cases hlt : i < m
    ·obtain ⟨gg, rfl⟩ : ∃ g, gk = g + 1 := ⟨gk - 1, by omega⟩;have hlen := HX.out.1.mlen;obtain ⟨b, o, rfl⟩ := HX.out.1.toP.kids.1.place (by omega);obtain ⟨A2, n2, c2, B2, m2, d2, hrg, hok⟩ := HX.out.1.toP.kids.1.kid (i := i) (by omega);have hrg2 := fK hrg HI.out.2.2.2.2.1;obtain ⟨Kk, hKk⟩ : ∃ K, K = (ak r.kids i).kind := ⟨_, rfl⟩;rw [<- hKk] at hrg2;have HRG := Lh hrg2;have hmem := dG (ks := r.kids) (i := i) (by omega);have HK : Hid (nZ (ak r.kids i) /\ Kk = (ak r.kids i).kind /\ aC w (ak r.kids i) A2 n2 c2 B2 m2 d2) := Lh ⟨HIH.out _ hmem, hKk, hok.o⟩;have HSZ : Hid (w.heap.size + 1 + 1 + 1 <= w6.heap.size /\ w6.heap.size < wr.heap.size) := Lh ⟨H6.out.2.2.2.2.1, by
      obtain ⟨B9, d9, e8, _, _, _, h9⟩ := HI.out.2.2.2.1.e;obtain ⟨g9, e9, _, h8⟩ := h9 (List.ne_nil_of_length_pos (by have := HI.out.1; omega));rw [Value.slice.injEq] at e8;rw [<- e8.1] at e9;simp at e9; omega⟩
     clear hlen hrg hok hrg2 hKk hmem
     go_wp2_with (first
      |(refine aA rfl (.tmp 30) rfl b (o + i * 3) rfl Kk A2 B2 n2 c2 m2 d2 HRG.out ?_)
      |(refine wB rfl 25 (.tmp 5) (.tmp 31) rfl wr.heap.size 0 rfl (zV Kk A2 n2 c2 B2 m2 d2) rfl (aa.new' wr zL _ 25 rfl) 3 au ?_; intro w4 hst9; have Hw4 : Hid (aa w4 wr.heap.size (zV Kk A2 n2 c2 B2 m2 d2) 25 /\ Below wr.heap.size wr w4) := Lh (aZ hst9); clear hst9; have HS0 : Hid ((fun w' : World => w'.cell? ⟨w.heap.size + 1 + 1, 2, none⟩ = some (.slice (some ⟨w6.heap.size, 0, none⟩) m m) /\ w'.rangeAt wr.heap.size 0 (zV Kk A2 n2 c2 B2 m2 d2)) w4.drew) := Lh ⟨(HI.out.2.2.1.below Hw4.out.2 HI.out.2.2.1.lt).cell rfl, aM Hw4.out.1⟩; have HB4 : Hid (Below w.heap.size w w4.drew) := Lh (ae HI.out.2.2.2.2.1 (below_drewN Hw4.out.2 1))))
     refine wp_region_held_drew (S := fun w' => w'.cell? ⟨w.heap.size + 1 + 1, 2, none⟩ = some (.slice (some ⟨w6.heap.size, 0, none⟩) m m) /\ w'.rangeAt wr.heap.size 0 (zV Kk A2 n2 c2 B2 m2 d2)) (by kernel_rfl) (HS0.out) (fun hS0 => ?_);refine aJ 0 ?_;refine aJ 1 ?_;refine aJ 2 ?_;refine wX 3 rfl (yieldsIf_load_mid (by rfl) _ _ rfl _ _ rfl _ _ (fun w h => h.2) Tryz.underlying25 rfl au) ?_;refine wpAnyH_ready (rs := [4]) (by kernel_rfl) (by simp) ?_;refine wA rfl (fun K hK => ?_) AllReadyH.nil
     go_simp;go_at_call 50;refine (Dj HK.out.2.1 HK.out.1 (HK.out.2.2.below HB4.out)).mono ?_;rintro e w8 hp;obtain ⟨A8, n8, c8, B8, m8, d8, rfl, h8, hb8⟩ := bV hp;obtain ⟨K8, hK8⟩ : ∃ K, K = (ak r.kids i).kind := ⟨_, rfl⟩;rw [<- hK8];have H8 : Hid (Below w4.heap.size w4 w8 /\ Below wr.heap.size wr w8 /\ ai (fun b => (fun b => w.heap.size + 1 + 1 + 1 <= b) b /\ some b ≠ some w6.heap.size) w8 (ak r.kids i) A8 n8 c8 B8 m8 d8 /\ K8 = (ak r.kids i).kind) := Lh ⟨ae (below_drewN (Below.refl w4.heap.size w4) 1) hb8, ae (below_drewN Hw4.out.2 1) hb8, h8.mono (fun b hb => by
      rcases hb with hb | hb
      ·exact hb.elim
      ·have h1 := HSZ.out;have h3 : w4.heap.size <= b := hb;have h2 := Hw4.out.2.size;exact ⟨by omega, fun e => by simp at e; omega⟩), hK8⟩
     clear hp h8 hb8 hK8;refine hK.out _ _ ⟨(HI.out.2.2.1.below H8.out.2.1 HI.out.2.2.1.lt).cell rfl, aM (Hw4.out.1.below H8.out.1 Hw4.out.1.lt)⟩ (fun hS1 => ?_);clear hK  hS0;(try simp only [Act.put, pP]);refine wpAnyH_take (i := 5) (oi := { dst := some 37, op := Op.indexAddr 23 (Operand.tmp 33) (Operand.tmp 34), type := 0, pos := "regex.go:84", after := #[{ on := 1, ground := Ground.data }, { on := 2, ground := Ground.data }, { on := 0, ground := Ground.phase }, { on := 1, ground := Ground.phase }, { on := 2, ground := Ground.phase }, { on := 3, ground := Ground.phase }, { on := 4, ground := Ground.phase }], guard := none }) (v := ?_) rfl (by kernel_rfl) (by kernel_rfl) (by kernel_rfl) (fun _ _ _ h => h) (Or.inl ⟨by rfl, ?_⟩) (by assumption) ?_
     rotate_left
     ·(rintro w' ⟨h1, h2⟩; go_simp; try with_reducible rfl)
     (try simp only [Act.put, pP]);refine wpAnyH_ready (rs := [6]) (by kernel_rfl) (by simp) ?_;refine AllReadyH.cons (o := ⟨none, .store 25 (.tmp 37) (.tmp 36), 0, _, _, none⟩) rfl (fun K hK => ?_) AllReadyH.nil
     refine sZ rfl (.tmp 37) (.tmp 36) rfl (HI.out.2.2.2.1.below H8.out.2.1) HI.out.1.symm hlt rfl (ak r.kids i) K8 H8.out.2.2.2 A8 B8 n8 c8 m8 d8 rfl H8.out.2.2.1.q ?_;intro w9 hw9;have H9 : Hid (az (fun b => w.heap.size + 1 + 1 + 1 <= b) (w.heap.size + 1 + 1 + 1) (.slice (some ⟨w6.heap.size, 0, none⟩) m m) (cur.set i (ak r.kids i)) w9 /\ w8.grownBy w9 (some w6.heap.size)) := Lh hw9;clear hw9;refine hK.out _ _ ⟨(((HI.out.2.2.1.below H8.out.2.1 HI.out.2.2.1.lt).grown H9.out.2 (fun e => by have := HSZ.out; simp at e; omega)).cell rfl), aM ((Hw4.out.1.below H8.out.1 Hw4.out.1.lt).grown H9.out.2 (fun e => by have := HSZ.out; simp at e; omega))⟩ (fun hS2 => ?_);clear hK hS1;(try simp only [Act.put, pP]);refine wpAnyH_done (by kernel_rfl) ?_ _;go_wp2_with fail
     go_roundg gg
     case rel => exact ⟨i + 1, cur.set i (ak r.kids i), by omega, by go_num, Lh ⟨by rw [List.length_set]; exact HI.out.1, fun j hj => by
      by_cases e : j = i
      ·subst e; exact nM (by rw [HI.out.1]; exact hlt)
      ·rw [mr e]; exact HI.out.2.1 j (by omega), (HI.out.2.2.1.below H8.out.2.1 HI.out.2.2.1.lt).grown H9.out.2 (fun e => by have := HSZ.out; simp at e; omega), H9.out.1, dJ (ae HI.out.2.2.2.2.1 H8.out.2.1) H9.out.2 (fun g hg => by simp at hg; have := HSZ.out; omega), (HI.out.2.2.2.2.2.1.below H8.out.2.1 HI.out.2.2.2.2.2.1.lt).grown H9.out.2 (fun e => by have := HSZ.out; simp at e; omega), ((HI.out.2.2.2.2.2.2.1.below H8.out.2.1).other H9.out.2 (fun b hb => hb.2)), Nat.le_trans (Nat.le_trans HI.out.2.2.2.2.2.2.2 H8.out.2.1.size) H9.out.2.size⟩⟩
     case measure => omega
    ·obtain rfl : m = i := by omega
     have hrx := aM HI.out.2.2.1
     go_wp2_with (first
      |(refine aA rfl (.tmp 3) rfl (w.heap.size + 1 + 1) (0) rfl K A5 (some ⟨w6.heap.size, 0, none⟩) n c5 m m hrx ?_)
      |(refine wB rfl 25 (.tmp 2) (.tmp 39) rfl (w.heap.size + 1) 0 rfl (zV K A5 n c5 (some ⟨w6.heap.size, 0, none⟩) m m) rfl HI.out.2.2.2.2.2.1 3 au ?_; intro w9 hst9; have Hw9 : Hid (aa w9 (w.heap.size + 1) (zV K A5 n c5 (some ⟨w6.heap.size, 0, none⟩) m m) 25 /\ Below w.heap.size w w9 /\ az (fun b => w.heap.size + 1 + 1 + 1 <= b) (w.heap.size + 1 + 1 + 1) (.slice (some ⟨w6.heap.size, 0, none⟩) m m) cur w9 /\ ai (fun b => w.heap.size + 1 + 1 + 1 <= b) w9 (.mk K r.syms []) A5 n c5 none 0 0) := Lh ⟨hst9.1, hst9.below HI.out.2.2.2.2.1 (by omega), HI.out.2.2.2.1.other (bv hst9) (fun b hb => by omega) (by omega), (HI.out.2.2.2.2.2.2.1.other (bv hst9) (fun b hb e => by have := hb.1; simp at e; omega)).mono (fun b hb => hb.1)⟩; clear hst9))
     exact bM rfl (w.heap.size + 1) rfl (C := (zV K A5 n c5 (some ⟨w6.heap.size, 0, none⟩) m m)) (T := 25) Hw9.out.1 _ Tryz.underlying25 rfl au rfl (by
      have e : cur = r.kids := mD (HI.out.1.trans HX.out.1.mlen) fun j hj => HI.out.2.1 j (by rw [HX.out.1.mlen]; exact hj)
      have h1 := qb Hw9.out.2.2.2 Hw9.out.2.2.1 (fun b h => h) rfl;rw [e, HX.out.2.1, show Rx.mk r.kind r.syms r.kids = r by cases r; rfl] at h1;refine ⟨A5, n, c5, (some ⟨w6.heap.size, 0, none⟩), m, m, ?_, h1.mono (fun b hb => .inr (by omega)), Hw9.out.2.1⟩;rw [HX.out.2.1])
theorem wY : ∀ (z : Nat) (r : Rx), SizeOf.sizeOf r <= z -> ay r = true -> av r <= 1000000000000 -> nZ r
 |0, r, hz, hv, hc => by cases r; simp at hz
 |z + 1, r, hz, hv, hc => zJ r hv hc fun x hx => wY z x (by have := gB hx; omega) (eF hv x hx) (by have h1 := dA r; have h2 := l5 hx; omega)
section
open Go.RowKit
open Alp
open Rgx
open Go.Sort
theorem zo {q0 : Nat -> Prop} (base : Nat) (v : Value) (ks : List Rx) (w : World) (h : az q0 base v ks w) (hn : ks.length <= 1000000000000) : Calls Tryz.prog 88 #[v] w fun e w' => e = .returned (.tuple #[]) /\ az q0 base v ks.reverse w' /\ w.grownBy w' v.ownBlock := by
 obtain ⟨xs, hC, hO⟩ := id h;have none : ∀ (A : Option Addr) (c : Nat), v = .slice A 0 c -> ks = [] -> Calls Tryz.prog 88 #[v] w fun e w' => e = .returned (.tuple #[]) /\ az q0 base v ks.reverse w' /\ w.grownBy w' v.ownBlock := fun A c hv hk => by
  have h1 := AnyQ.slices_Reverse_empty (P := Tryz.prog) (ρ := tZ) Tryz.reverseRx A c w;rw [hv];refine Calls.mono h1 ?_;rintro e w' ⟨he, rfl⟩;subst hk;rw [hv] at h;exact ⟨he, h, World.grownBy.refl _ _⟩
 rcases hO.2 with ⟨hv, h0⟩ | ⟨g, cap, cur, hv, hbg, hg, hnc, hcm, hcs, htk⟩
 ·exact none _ _ hv (List.eq_nil_of_length_eq_zero h0)
 ·have hglt : g < w.heap.size := (Array.getElem?_eq_some_iff.1 hg).1;subst hv;have hC1 : aG (fun b => (q0 b /\ some b ≠ some g) /\ b < w.heap.size) w xs ks := hC.lt;obtain ⟨d, hd1, hd2, hd3⟩ := vW hC1;have hfl := oP d;rw [hd3] at hfl;have hH : HoldsK bq 3 w g 0 d := fun j hj => by
   have hj2 : j < ks.length * 3 := by simpa [hd1] using hj
   have h1 := hO.cellAt j hj2;rw [Nat.zero_add];refine ⟨?_, hO.frozenAt j⟩;rw [h1, getElem!_pos _ _ (by simpa using hj), <- hfl];simp at hj;simp [hj]
  have hs := AnyQ.slices_Reverse (P := Tryz.prog) (ρ := tZ) Tryz.reverseRx 3 (fun _ => by kernel_rfl) (fun _ => by kernel_rfl) bq (fun _ => rfl) (fun x u hu => by
   simp only [bq, List.mem_cons, List.not_mem_nil, or_false] at hu;have h12 := x.ok.one
   rcases hu with rfl | rfl | rfl
   ·rfl
   ·exact h12.1
   ·exact h12.2) g 0 cap d w hH (by rw [hd1]; omega)
  rw [hd1] at hs;refine Calls.mono hs ?_;rintro e w' ⟨he, q, hw'⟩;have hw2 : w' = sortWorldK bq 3 w g 0 q d.reverse #[] := by
   rw [hw']; unfold sortWorldK grow; simp
  clear hw';subst hw2;obtain ⟨d', hd'⟩ : ∃ d', d' = d.reverse := ⟨_, rfl⟩;rw [<- hd'];obtain ⟨os, hos⟩ : ∃ os : Array Obj, os = #[] := ⟨_, rfl⟩;rw [<- hos];have hsz : d'.size = ks.length := by rw [hd']; simpa using hd1
  have hrv : d'.toList.map (·.r) = ks.reverse := by rw [hd', <- hd2]; simp
  have hC' : aG (fun b => q0 b /\ some b ≠ some g) (sortWorldK bq 3 w g 0 q d' os) (d'.toList.flatMap bq) (d'.toList.map (·.r)) := by
   have H : ∀ l : List (El (fun b => (q0 b /\ some b ≠ some g) /\ b < w.heap.size) w), aG (fun b => q0 b /\ some b ≠ some g) (sortWorldK bq 3 w g 0 q d' os) (l.flatMap bq) (l.map (·.r)) := by
    intro l
    induction l with
    |nil => exact aG.nil _ _
    |cons z l ih =>
     rw [List.flatMap_cons, List.map_cons];have hz := aP.keep (W := sortWorldK bq 3 w g 0 q d' os) (fun b o hp => sQ bq hp.2 (fun e => hp.1.2 (by rw [e]))) _ z.ok;exact (aG.one (aP.mono (fun b hb => hb.1) _ hz)).app ih
   exact H d'.toList
  have hgW : (sortWorldK bq 3 w g 0 q d' os).heap[g]? = some (.cells (putCells id 0 (flatK bq 3 d') cur) 25 (0, 0)) := by
   unfold sortWorldK;show ((putRowK bq 3 (Sort.ahead w q) g 0 d').heap ++ os)[g]? = _;rw [Array.getElem?_append_left (by rw [size_putRowK]; exact hglt)];show ((Sort.ahead w q).heap.modify g (onCells (putCells id 0 (flatK bq 3 d'))))[g]? = _;rw [Array.getElem?_modify, if_pos rfl];show Option.map _ w.heap[g]? = _;rw [hg]
   rfl
  refine ⟨he, ⟨_, by rw [show (Value.slice (some ⟨g, 0, Option.none⟩) ks.length cap).ownBlock = some g from rfl]; rw [<- hrv]; exact hC', ?_, .inr ⟨g, cap, _, by simp, hbg, hgW, by simpa using hnc, hcm, by simp [putCells, hcs], ?_⟩⟩, ?_⟩
  ·rw [hC'.1, hrv]
  ·have hl : (flatK bq 3 d').toList = d'.toList.flatMap bq := oP d';rw [<- hl]
   apply List.ext_getElem
   ·simp [putCells, hcs, hsz];rw [Nat.min_eq_left hnc]
   ·intro i h1 h2;have h2' : i < d'.size * 3 := by simpa using h2
    simp [putCells, h2']
  ·rw [show (Value.slice (some ⟨g, 0, Option.none⟩) ks.length cap).ownBlock = some g from rfl];refine ⟨rfl, rfl, rfl, by unfold sortWorldK; rw [size_grow, size_putRowK]; exact Nat.le_add_right _ _, fun k hk hne => ?_⟩;unfold sortWorldK;show ((putRowK bq 3 (Sort.ahead w q) g 0 d').heap ++ os)[k]? = _;rw [Array.getElem?_append_left (by rw [size_putRowK]; exact hk)];show ((Sort.ahead w q).heap.modify g (onCells (putCells id 0 (flatK bq 3 d'))))[k]? = _;rw [Array.getElem?_modify, if_neg (fun e => hne (by rw [e]))]
   rfl
end
namespace Rgx
mutual
def aV : Rx -> Rx
 |.mk k s ks => .mk k s (if k = 3 then (mq ks).reverse else mq ks)
def mq : List Rx -> List Rx
 |[] => []
 |r :: rs => aV r :: mq rs
end
theorem yA : ∀ ks : List Rx, mq ks = ks.map aV
 |[] => by rw [mq]; rfl
 |r :: rs => by rw [mq, yA rs]; rfl
theorem jN (r : Rx) : aV r = .mk r.kind r.syms (if r.kind = 3 then (r.kids.map aV).reverse else r.kids.map aV) := by
 cases r with
 |mk k s ks => rw [aV, yA]; rfl
theorem yV {r x : Rx} : x ∈ (aV r).kids ↔ ∃ y ∈ r.kids, aV y = x := by
 rw [jN];show x ∈ (if r.kind = 3 then (r.kids.map aV).reverse else r.kids.map aV) ↔ _
 split <;> simp
theorem Bp (r : Rx) : (aV r).kids.length = r.kids.length := by
 rw [jN];show (if r.kind = 3 then (r.kids.map aV).reverse else r.kids.map aV).length = _
 split <;> simp
theorem oK (r : Rx) : (aV r).kind = r.kind := by rw [jN]; rfl
theorem AU (r : Rx) : (aV r).syms = r.syms := by rw [jN]; rfl
theorem vU : ∀ (z : Nat) (r : Rx), SizeOf.sizeOf r <= z -> ay (aV r) = ay r
 |0, r, h => by cases r; simp at h
 |z + 1, r, h => by
  have ih : ∀ x ∈ r.kids, ay (aV x) = ay x := fun x hx => vU z x (by have := gB hx; omega)
  rw [gH (aV r), gH r, oK, AU, Bp];have e : (aV r).kids.all ay = r.kids.all ay := by
   rw [Bool.eq_iff_iff, List.all_eq_true, List.all_eq_true];constructor
   ·intro h2 y hy;rw [<- ih y hy];exact h2 _ (yV.2 ⟨y, hy, rfl⟩)
   ·intro h2 x hx;obtain ⟨y, hy, rfl⟩ := yV.1 hx;rw [ih y hy];exact h2 y hy
  rw [e]
theorem CL (r : Rx) : ay (aV r) = ay r := vU _ r (Nat.le_refl _)
theorem yz : ∀ l : List Rx, ah l.reverse = ah l
 |[] => rfl
 |x :: t => by rw [List.reverse_cons, gz, yz t]; simp only [ah]; omega
theorem rD {f : Rx -> Rx} : ∀ {l : List Rx}, (∀ x ∈ l, av (f x) = av x) -> ah (l.map f) = ah l
 |[], _ => rfl
 |x :: t, h => by
  rw [List.map_cons];simp only [ah];rw [h x (by simp), rD fun y hy => h y (by simp [hy])]
theorem xX : ∀ (z : Nat) (r : Rx), SizeOf.sizeOf r <= z -> av (aV r) = av r
 |0, r, h => by cases r; simp at h
 |z + 1, r, h => by
  have ih : ∀ x ∈ r.kids, av (aV x) = av x := fun x hx => xX z x (by have := gB hx; omega)
  rw [dA, dA, jN];show 1 + ah (if r.kind = 3 then (r.kids.map aV).reverse else r.kids.map aV) = _
  split
  ·rw [yz, rD ih]
  ·rw [rD ih]
theorem Gp (r : Rx) : av (aV r) = av r := xX _ r (Nat.le_refl _)
theorem F4 {r : Rx} (hv : ay r = true) : normR false (aV r) = normR true r := by
 induction r using Rx.ind with
 |h r ih0 =>
  have ih : ∀ x ∈ r.kids, normR false (aV x) = normR true x := fun x hx => ih0 x hx (eF hv x hx)
  rw [bX false, bX true, oK]
  by_cases h3 : r.kind = 3
  ·rw [if_pos h3, if_pos h3];have e3 : (aV r).kids.map (normR false) = (r.kids.map (normR true)).reverse := by
    rw [jN];show (if r.kind = 3 then (r.kids.map aV).reverse else r.kids.map aV).map _ = _;rw [if_pos h3, List.map_reverse, List.map_map]
    congr 1
    exact List.map_congr_left fun x hx => ih x hx
   rw [e3]; rfl
  ·have e : (aV r).kids.map (normR false) = r.kids.map (normR true) := by
    rw [jN];show (if r.kind = 3 then (r.kids.map aV).reverse else r.kids.map aV).map _ = _;rw [if_neg h3, List.map_map];exact List.map_congr_left fun x hx => ih x hx
   rw [if_neg h3, if_neg h3, e]
   by_cases h4 : r.kind = 4
   ·rw [if_pos h4, if_pos h4]
   ·rw [if_neg h4, if_neg h4]
    by_cases h5 : r.kind = 5
    ·rw [if_pos h5, if_pos h5]
    ·rw [if_neg h5, if_neg h5]
     rcases eT hv with rfl | rfl | ⟨s, rfl, _⟩ | ⟨ks, rfl, _⟩ | ⟨ks, rfl, _⟩ | ⟨x, rfl, _⟩ <;> first | rfl | exact absurd rfl h3 | exact absurd rfl h4 | exact absurd rfl h5
end Rgx
def lU (x : Rx) : Prop := ∀ (p : Nat -> Prop) (w : World) (A B : Option Addr) (n c m d : Nat), (∀ b, p b -> b < w.heap.size) -> ai p w x A n c B m d -> Calls Tryz.prog 53 #[.agg #[.int .i64 x.kind, .slice A n c, .slice B m d]] w (dn p w (aV x))
theorem uj {p : Nat -> Prop} {w : World} {x : Rx} {K : Int} {A B : Option Addr} {n c m d : Nat} (hK : K = x.kind) (h : lU x) (hp : ∀ b, p b -> b < w.heap.size) (hx : ai p w x A n c B m d) : Calls Tryz.prog 53 #[.agg #[.int .i64 K, .slice A n c, .slice B m d]] w (dn p w (aV x)) := by
 subst hK;exact h p w A B n c m d hp hx
theorem vJ {q : Nat -> Prop} {base m g : Nat} {w : World} (hg : g = w.heap.size) (hb : base <= w.heap.size) (hm : m <= maxLen) : az q base (.slice (some ⟨g, 0, none⟩) m m) (List.replicate m (.mk 0 [] [])) (w.alloc (.cells (madeCells #[.int .i64 0, .slice none 0 0, .slice none 0 0] (m * 3)) 25)) := by
 subst hg;exact xO q base m w hb hm
theorem yY {p : Nat -> Prop} {w : World} {r : Rx} {A B : Option Addr} {n c m d : Nat} (h : ai p w r A n c B m d) : ai p w (.mk r.kind r.syms []) A n c none 0 0 := by
 obtain ⟨⟨g1, g2⟩, ⟨A', n', c', e, g3, g4, g5, g6, g7⟩, _⟩ := (aP.iff _ _ _ _ _).1 h.q;rw [Value.slice.injEq] at e;obtain ⟨rfl, rfl, rfl⟩ := e;exact ai.make g1 g2 g3 g4 g5 g6 g7 rfl (Nat.le_refl _) (Nat.zero_le _) (fun i hi => absurd hi (by simp)) fun h => absurd rfl h
theorem Dv (r : Rx) (hcm : av r <= 1000000000000) (ih : ∀ x ∈ r.kids, lU x) : lU r := by
 intro p w A B n c m d hpb hop;obtain ⟨K, hK⟩ : ∃ K, K = r.kind := ⟨_, rfl⟩;have hm : m <= 1000000000000 := by
  have h1 := dA r;have h2 := iF r.kids;rw [hop.o.mlen]; omega
 have HX : Hid (ai p w r A n c B m d /\ K = r.kind /\ m <= 1000000000000) := Lh ⟨hop, hK, hm⟩;have HP := Lh hpb;have HIH := Lh ih;have hmd := hop.o.mcap;have hdm := hop.o.dmax;have H1 : Hid (az (fun b => p b \/ w.heap.size + 1 + 1 <= b) (w.heap.size + 1 + 1) (.slice (some ⟨w.heap.size + 1 + 1, 0, none⟩) m m) (List.replicate m (.mk 0 [] [])) (((w.alloc (zC K A n c B m d)).alloc zR).alloc (.cells (madeCells #[.int .i64 0, .slice none 0 0, .slice none 0 0] (m * 3)) 25)) /\ Below w.heap.size w (((w.alloc (zC K A n c B m d)).alloc zR).alloc (.cells (madeCells #[.int .i64 0, .slice none 0 0, .slice none 0 0] (m * 3)) 25)) /\ aa (((w.alloc (zC K A n c B m d)).alloc zR).alloc (.cells (madeCells #[.int .i64 0, .slice none 0 0, .slice none 0 0] (m * 3)) 25)) w.heap.size (zV K A n c B m d) 25 /\ aa (((w.alloc (zC K A n c B m d)).alloc zR).alloc (.cells (madeCells #[.int .i64 0, .slice none 0 0, .slice none 0 0] (m * 3)) 25)) (w.heap.size + 1) zL 25 /\ w.heap.size + 1 + 1 < (((w.alloc (zC K A n c B m d)).alloc zR).alloc (.cells (madeCells #[.int .i64 0, .slice none 0 0, .slice none 0 0] (m * 3)) 25)).heap.size) := Lh ⟨vJ (by simp) (by simp) (by unfold maxLen; omega), aB (aB (ag _ _) _) _, ((aa.at w (zV K A n c B m d) _ 25 _ rfl rfl).alloc _).alloc _, (aa.at (w.alloc (zC K A n c B m d)) zL _ 25 _ rfl (by simp)).alloc _, by simp⟩
 have hmk := sJ m (by omega);rw [<- hK]
 by_cases k3 : K = 3
 ·have HK3 : Hid (r.kind = 3) := Lh (hK.symm.trans k3);have ab : (K == 3) = true := bT (by omega);clear hop hK hcm ih hpb k3 hm;go_enter Tryz.func53, Tryz.ntmps53;go_wp2_with fail
  go_loopg [13] m (fun g s13 wr => ∃ (i : Nat) (cur : List Rx), i + g = m /\ s13 = .int .i64 (i : Int) /\ Hid (cur.length = m /\ (∀ j, j < i -> ak cur j = aV (ak r.kids j)) /\ (az (fun b => p b \/ w.heap.size + 1 + 1 <= b) (w.heap.size + 1 + 1) (.slice (some ⟨w.heap.size + 1 + 1, 0, none⟩) m m) cur wr /\ Below w.heap.size w wr /\ aa wr w.heap.size (zV K A n c B m d) 25 /\ aa wr (w.heap.size + 1) zL 25 /\ w.heap.size + 1 + 1 < wr.heap.size)))
  case atStart => exact ⟨0, List.replicate m (.mk 0 [] []), by omega, rfl, Lh ⟨by simp, fun j hj => by omega, H1.out⟩⟩
  case round =>
   obtain ⟨i, cur, hi, rfl, HI⟩ := hrel
   by_cases hlt : i < m
   ·obtain ⟨gg, rfl⟩ : ∃ g, gk = g + 1 := ⟨gk - 1, by omega⟩;have hlen := HX.out.1.o.mlen;obtain ⟨b, o, rfl⟩ := HX.out.1.kids.1.place (by omega);obtain ⟨A2, n2, c2, B2, m2, d2, hrg, hok⟩ := HX.out.1.kids.1.kid (i := i) (by omega);have hrg2 := fK hrg HI.out.2.2.2.1;obtain ⟨Kk, hKk⟩ : ∃ K, K = (ak r.kids i).kind := ⟨_, rfl⟩;rw [<- hKk] at hrg2;have HRG := Lh hrg2;have hmem := dG (ks := r.kids) (i := i) (by omega);have HK : Hid (lU (ak r.kids i) /\ Kk = (ak r.kids i).kind /\ ai p w (ak r.kids i) A2 n2 c2 B2 m2 d2) := Lh ⟨HIH.out _ hmem, hKk, hok⟩;have HWR : Hid (w.heap.size + 1 + 1 < wr.heap.size) := Lh HI.out.2.2.2.2.2.2;clear hlen hrg hok hrg2 hKk hmem
    go_wp2_with (first
     | (refine aA rfl (.tmp 16) rfl b (o + i * 3) rfl Kk A2 B2 n2 c2 m2 d2 HRG.out ?_)
     | (refine wB rfl 25 (.tmp 5) (.tmp 17) rfl wr.heap.size 0 rfl (zV Kk A2 n2 c2 B2 m2 d2) rfl (aa.new' wr zL _ 25 rfl) 3 au ?_; intro w4 hst9; have Hw4 : Hid (aa w4 wr.heap.size (zV Kk A2 n2 c2 B2 m2 d2) 25 /\ Below wr.heap.size wr w4) := Lh (aZ hst9); clear hst9; have hrx4 := aM Hw4.out.1)
     | (refine aA rfl (.tmp 5) rfl wr.heap.size (0) rfl Kk A2 B2 n2 c2 m2 d2 hrx4 ?_)
     | ((with_reducible refine (uj HK.out.2.1 HK.out.1 (fun b hb => by have h1 := HP.out b hb; have h2 := HWR.out; have h3 := Hw4.out.2.size; omega) (HK.out.2.2.below (ae HI.out.2.2.2.1 Hw4.out.2))).mono ?_); rintro e w8 hp; obtain ⟨A8, n8, c8, B8, m8, d8, rfl, h8, hb8⟩ := bV hp; obtain ⟨K8, hK8⟩ : ∃ K, K = (aV (ak r.kids i)).kind := ⟨_, rfl⟩; rw [<- hK8]; have H8 : Hid (Below wr.heap.size wr w8 /\ ai (fun b => (fun b => p b \/ w.heap.size + 1 + 1 <= b) b /\ some b ≠ some (w.heap.size + 1 + 1)) w8 (aV (ak r.kids i)) A8 n8 c8 B8 m8 d8 /\ K8 = (aV (ak r.kids i)).kind) := Lh ⟨ae Hw4.out.2 hb8, h8.mono (fun b hb => by
         rcases hb with hb | hb
         ·have h1 := HP.out b hb;exact ⟨.inl hb, fun e => by simp at e; omega⟩
         ·have h1 := HWR.out;have h2 := Hw4.out.2.size;exact ⟨.inr (by omega), fun e => by simp at e; omega⟩), hK8⟩; clear hp h8 hb8 hK8)
     | (refine kT rfl (.tmp 22) (.tmp 21) rfl (HI.out.2.2.1.below H8.out.1) HI.out.1.symm hlt rfl (aV (ak r.kids i)) K8 H8.out.2.2 A8 B8 n8 c8 m8 d8 rfl H8.out.2.1.q ?_; intro w9 hw9; have H9 : Hid (az (fun b => p b \/ w.heap.size + 1 + 1 <= b) (w.heap.size + 1 + 1) (.slice (some ⟨w.heap.size + 1 + 1, 0, none⟩) m m) (cur.set i (aV (ak r.kids i))) w9 /\ w8.grownBy w9 (some (w.heap.size + 1 + 1))) := Lh hw9; clear hw9))
    go_roundg gg
    case rel => exact ⟨i + 1, cur.set i (aV (ak r.kids i)), by omega, by go_num, Lh ⟨by rw [List.length_set]; exact HI.out.1, fun j hj => by
     by_cases e : j = i
     · subst e; exact nM (by rw [HI.out.1]; exact hlt)
     · rw [mr e]; exact HI.out.2.1 j (by omega), H9.out.1, dJ (ae HI.out.2.2.2.1 H8.out.1) H9.out.2 (fun g hg => by simp at hg; omega), (HI.out.2.2.2.2.1.below H8.out.1 HI.out.2.2.2.2.1.lt).grown H9.out.2 (fun e => by simp at e; omega), (HI.out.2.2.2.2.2.1.below H8.out.1 HI.out.2.2.2.2.2.1.lt).grown H9.out.2 (fun e => by simp at e), Nat.lt_of_lt_of_le (Nat.lt_of_lt_of_le HI.out.2.2.2.2.2.2 H8.out.1.size) H9.out.2.size⟩⟩
    case measure => omega
   ·obtain rfl : m = i := by omega
    have HE := Lh HI.out.2.2;have HCUR : Hid (cur.length = m /\ cur = r.kids.map aV) := Lh ⟨HI.out.1, mD (by rw [List.length_map]; exact HI.out.1.trans HX.out.1.o.mlen) fun j hj => by
     rw [List.length_map] at hj;rw [HI.out.2.1 j (by rw [HX.out.1.o.mlen]; exact hj), dO hj, dO (by simpa using hj), List.getElem_map]⟩
    have hb0 := HE.out.2.2.1.cell (j := 0) rfl;have hb1 := HE.out.2.2.1.cell (j := 1) rfl
    go_wp2_with (first
    |((with_reducible refine (zo (w.heap.size + 1 + 1) _ cur wr HE.out.1 (by have := HX.out.2.2; have := HCUR.out.1; omega)).mono ?_); rintro e w8 ⟨rfl, hrw, hgr⟩; have H8 : Hid (az (fun b => p b \/ w.heap.size + 1 + 1 <= b) (w.heap.size + 1 + 1) (.slice (some ⟨w.heap.size + 1 + 1, 0, none⟩) m m) cur.reverse w8 /\ Below w.heap.size w w8 /\ aa w8 w.heap.size (zV K A n c B m d) 25 /\ aa w8 (w.heap.size + 1) zL 25 /\ w.heap.size + 1 + 1 < w8.heap.size) := Lh ⟨hrw, dJ HE.out.2.1 hgr (fun g hg => by simp [Value.ownBlock] at hg; omega), HE.out.2.2.1.grown hgr (by simp [Value.ownBlock]; omega), HE.out.2.2.2.1.grown hgr (by simp [Value.ownBlock]), Nat.lt_of_lt_of_le HE.out.2.2.2.2 hgr.size⟩; have hb08 := H8.out.2.2.1.cell (j := 0) rfl; have hb18 := H8.out.2.2.1.cell (j := 1) rfl; clear hrw hgr)
    |(refine wB rfl 25 (.tmp 2) (.tmp 34) rfl (w.heap.size + 1) 0 rfl (zV K A n c (some ⟨w.heap.size + 1 + 1, 0, none⟩) m m) rfl H8.out.2.2.2.1 3 au ?_; intro w9 hst9; have Hw9 : Hid (aa w9 (w.heap.size + 1) (zV K A n c (some ⟨w.heap.size + 1 + 1, 0, none⟩) m m) 25 /\ Below w.heap.size w w9 /\ az (fun b => p b \/ w.heap.size + 1 + 1 <= b) (w.heap.size + 1 + 1) (.slice (some ⟨w.heap.size + 1 + 1, 0, none⟩) m m) cur.reverse w9 /\ ai (fun b => p b \/ w.heap.size + 1 + 1 <= b) w9 (.mk r.kind r.syms []) A n c none 0 0) := Lh ⟨hst9.1, hst9.below H8.out.2.1 (by omega), H8.out.1.other (bv hst9) (fun b hb => by rcases hb with hb | hb; (have := HP.out b hb; omega); omega) (by omega), (((yY HX.out.1).below H8.out.2.1).other (bv hst9) (fun b hb e => by have := HP.out b hb; simp at e; omega)).mono (fun b hb => .inl hb)⟩; clear hst9))
    exact bM rfl (w.heap.size + 1) rfl (C := (zV K A n c (some ⟨w.heap.size + 1 + 1, 0, none⟩) m m)) (T := 25) Hw9.out.1 _ Tryz.underlying25 rfl au rfl (by
     have h1 := qb Hw9.out.2.2.2 Hw9.out.2.2.1 (fun b h => .inr h) rfl;have e : Rx.mk r.kind r.syms cur.reverse = aV r := by rw [jN, if_pos (HK3.out), HCUR.out.2]
     rw [e] at h1;refine ⟨A, n, c, _, _, _, ?_, h1.mono (fun b hb => by rcases hb with hb | hb; exact .inl hb; exact .inr (by omega)), Hw9.out.2.1⟩;rw [oK, <- HX.out.2.1])
 ·have HK3 : Hid (¬ r.kind = 3) := Lh (by rw [<- hK]; exact k3);have ab : (K == 3) = false := bF (by omega);clear hop hK hcm ih hpb k3 hm;go_enter Tryz.func53, Tryz.ntmps53;go_wp2_with fail
  go_loopg [13] m (fun g s13 wr => ∃ (i : Nat) (cur : List Rx), i + g = m /\ s13 = .int .i64 (i : Int) /\ Hid (cur.length = m /\ (∀ j, j < i -> ak cur j = aV (ak r.kids j)) /\ (az (fun b => p b \/ w.heap.size + 1 + 1 <= b) (w.heap.size + 1 + 1) (.slice (some ⟨w.heap.size + 1 + 1, 0, none⟩) m m) cur wr /\ Below w.heap.size w wr /\ aa wr w.heap.size (zV K A n c B m d) 25 /\ aa wr (w.heap.size + 1) zL 25 /\ w.heap.size + 1 + 1 < wr.heap.size)))
  case atStart => exact ⟨0, List.replicate m (.mk 0 [] []), by omega, rfl, Lh ⟨by simp, fun j hj => by omega, H1.out⟩⟩
  case round =>
   obtain ⟨i, cur, hi, rfl, HI⟩ := hrel
   by_cases hlt : i < m
   ·obtain ⟨gg, rfl⟩ : ∃ g, gk = g + 1 := ⟨gk - 1, by omega⟩;have hlen := HX.out.1.o.mlen;obtain ⟨b, o, rfl⟩ := HX.out.1.kids.1.place (by omega);obtain ⟨A2, n2, c2, B2, m2, d2, hrg, hok⟩ := HX.out.1.kids.1.kid (i := i) (by omega);have hrg2 := fK hrg HI.out.2.2.2.1;obtain ⟨Kk, hKk⟩ : ∃ K, K = (ak r.kids i).kind := ⟨_, rfl⟩;rw [<- hKk] at hrg2;have HRG := Lh hrg2;have hmem := dG (ks := r.kids) (i := i) (by omega);have HK : Hid (lU (ak r.kids i) /\ Kk = (ak r.kids i).kind /\ ai p w (ak r.kids i) A2 n2 c2 B2 m2 d2) := Lh ⟨HIH.out _ hmem, hKk, hok⟩;have HWR : Hid (w.heap.size + 1 + 1 < wr.heap.size) := Lh HI.out.2.2.2.2.2.2;clear hlen hrg hok hrg2 hKk hmem
    go_wp2_with (first
     | (refine aA rfl (.tmp 16) rfl b (o + i * 3) rfl Kk A2 B2 n2 c2 m2 d2 HRG.out ?_)
     | (refine wB rfl 25 (.tmp 5) (.tmp 17) rfl wr.heap.size 0 rfl (zV Kk A2 n2 c2 B2 m2 d2) rfl (aa.new' wr zL _ 25 rfl) 3 au ?_; intro w4 hst9; have Hw4 : Hid (aa w4 wr.heap.size (zV Kk A2 n2 c2 B2 m2 d2) 25 /\ Below wr.heap.size wr w4) := Lh (aZ hst9); clear hst9; have hrx4 := aM Hw4.out.1)
     | (refine aA rfl (.tmp 5) rfl wr.heap.size (0) rfl Kk A2 B2 n2 c2 m2 d2 hrx4 ?_)
     | ((with_reducible refine (uj HK.out.2.1 HK.out.1 (fun b hb => by have h1 := HP.out b hb; have h2 := HWR.out; have h3 := Hw4.out.2.size; omega) (HK.out.2.2.below (ae HI.out.2.2.2.1 Hw4.out.2))).mono ?_); rintro e w8 hp; obtain ⟨A8, n8, c8, B8, m8, d8, rfl, h8, hb8⟩ := bV hp; obtain ⟨K8, hK8⟩ : ∃ K, K = (aV (ak r.kids i)).kind := ⟨_, rfl⟩; rw [<- hK8]; have H8 : Hid (Below wr.heap.size wr w8 /\ ai (fun b => (fun b => p b \/ w.heap.size + 1 + 1 <= b) b /\ some b ≠ some (w.heap.size + 1 + 1)) w8 (aV (ak r.kids i)) A8 n8 c8 B8 m8 d8 /\ K8 = (aV (ak r.kids i)).kind) := Lh ⟨ae Hw4.out.2 hb8, h8.mono (fun b hb => by
         rcases hb with hb | hb
         ·have h1 := HP.out b hb;exact ⟨.inl hb, fun e => by simp at e; omega⟩
         ·have h1 := HWR.out;have h2 := Hw4.out.2.size;exact ⟨.inr (by omega), fun e => by simp at e; omega⟩), hK8⟩; clear hp h8 hb8 hK8)
     | (refine kT rfl (.tmp 22) (.tmp 21) rfl (HI.out.2.2.1.below H8.out.1) HI.out.1.symm hlt rfl (aV (ak r.kids i)) K8 H8.out.2.2 A8 B8 n8 c8 m8 d8 rfl H8.out.2.1.q ?_; intro w9 hw9; have H9 : Hid (az (fun b => p b \/ w.heap.size + 1 + 1 <= b) (w.heap.size + 1 + 1) (.slice (some ⟨w.heap.size + 1 + 1, 0, none⟩) m m) (cur.set i (aV (ak r.kids i))) w9 /\ w8.grownBy w9 (some (w.heap.size + 1 + 1))) := Lh hw9; clear hw9))
    go_roundg gg
    case rel => exact ⟨i + 1, cur.set i (aV (ak r.kids i)), by omega, by go_num, Lh ⟨by rw [List.length_set]; exact HI.out.1, fun j hj => by
     by_cases e : j = i
     · subst e; exact nM (by rw [HI.out.1]; exact hlt)
     · rw [mr e]; exact HI.out.2.1 j (by omega), H9.out.1, dJ (ae HI.out.2.2.2.1 H8.out.1) H9.out.2 (fun g hg => by simp at hg; omega), (HI.out.2.2.2.2.1.below H8.out.1 HI.out.2.2.2.2.1.lt).grown H9.out.2 (fun e => by simp at e; omega), (HI.out.2.2.2.2.2.1.below H8.out.1 HI.out.2.2.2.2.2.1.lt).grown H9.out.2 (fun e => by simp at e), Nat.lt_of_lt_of_le (Nat.lt_of_lt_of_le HI.out.2.2.2.2.2.2 H8.out.1.size) H9.out.2.size⟩⟩
    case measure => omega
   ·obtain rfl : m = i := by omega
    have HE := Lh HI.out.2.2;have HCUR : Hid (cur.length = m /\ cur = r.kids.map aV) := Lh ⟨HI.out.1, mD (by rw [List.length_map]; exact HI.out.1.trans HX.out.1.o.mlen) fun j hj => by
     rw [List.length_map] at hj;rw [HI.out.2.1 j (by rw [HX.out.1.o.mlen]; exact hj), dO hj, dO (by simpa using hj), List.getElem_map]⟩
    have hb0 := HE.out.2.2.1.cell (j := 0) rfl;have hb1 := HE.out.2.2.1.cell (j := 1) rfl
    go_wp2_with (refine wB rfl 25 (.tmp 2) (.tmp 34) rfl (w.heap.size + 1) 0 rfl (zV K A n c (some ⟨w.heap.size + 1 + 1, 0, none⟩) m m) rfl HE.out.2.2.2.1 3 au ?_; intro w9 hst9; have Hw9 : Hid (aa w9 (w.heap.size + 1) (zV K A n c (some ⟨w.heap.size + 1 + 1, 0, none⟩) m m) 25 /\ Below w.heap.size w w9 /\ az (fun b => p b \/ w.heap.size + 1 + 1 <= b) (w.heap.size + 1 + 1) (.slice (some ⟨w.heap.size + 1 + 1, 0, none⟩) m m) cur w9 /\ ai (fun b => p b \/ w.heap.size + 1 + 1 <= b) w9 (.mk r.kind r.syms []) A n c none 0 0) := Lh ⟨hst9.1, hst9.below HE.out.2.1 (by omega), HE.out.1.other (bv hst9) (fun b hb => by rcases hb with hb | hb; (have := HP.out b hb; omega); omega) (by omega), (((yY HX.out.1).below HE.out.2.1).other (bv hst9) (fun b hb e => by have := HP.out b hb; simp at e; omega)).mono (fun b hb => .inl hb)⟩; clear hst9)
    exact bM rfl (w.heap.size + 1) rfl (C := (zV K A n c (some ⟨w.heap.size + 1 + 1, 0, none⟩) m m)) (T := 25) Hw9.out.1 _ Tryz.underlying25 rfl au rfl (by
     have h1 := qb Hw9.out.2.2.2 Hw9.out.2.2.1 (fun b h => .inr h) rfl;have e : Rx.mk r.kind r.syms cur = aV r := by rw [jN, if_neg (HK3.out), HCUR.out.2]
     rw [e] at h1;refine ⟨A, n, c, _, _, _, ?_, h1.mono (fun b hb => by rcases hb with hb | hb; exact .inl hb; exact .inr (by omega)), Hw9.out.2.1⟩;rw [oK, <- HX.out.2.1])
theorem xz : ∀ (z : Nat) (r : Rx), SizeOf.sizeOf r <= z -> av r <= 1000000000000 -> lU r
 |0, r, hz, hc => by cases r; simp at hz
 |z + 1, r, hz, hc => Dv r hc fun x hx => xz z x (by have := gB hx; omega) (by have h1 := dA r; have h2 := l5 hx; omega)
def bJ (r : Rx) : Rx := if ay r = true then normR false r else .mk 0 [] []
theorem xW {w : World} {r : Rx} {A B : Option Addr} {n c m d : Nat} (hv : ay r = true) (hc : av r <= 1000000000000) (h : aC w r A n c B m d) : Calls Tryz.prog 50 #[.agg #[.int .i64 r.kind, .slice A n c, .slice B m d]] w (dn (fun _ => False) w r) := wY _ r (Nat.le_refl _) hv hc w A B n c m d h
theorem Bt {p : Nat -> Prop} {w : World} {r : Rx} {A B : Option Addr} {n c m d : Nat} (hp : ∀ b, p b -> b < w.heap.size) (hc : av r <= 1000000000000) (h : ai p w r A n c B m d) : Calls Tryz.prog 53 #[.agg #[.int .i64 r.kind, .slice A n c, .slice B m d]] w (dn p w (aV r)) := xz _ r (Nat.le_refl _) hc p w A B n c m d hp h
theorem gu {w : World} {ops : Array Oper} {rest : List Oper} {o : Oper} {a : Act} {Q : Exit -> Act -> World -> Prop} (hw : Region.wanted o (yielded ops a.tmps) = true) (x : Operand) (ho : o.op = .load 25 x)
  (g q : Nat) (hx : a.eval x = .pointer (some ⟨g, q, none⟩)) (K : Int) (A B : Option Addr) (n c m d : Nat) (hc : w.rangeAt g q (zV K A n c B m d))
  (h : wpList Tryz.prog ops Q rest (a.put o.dst (.agg #[.int .i64 K, .slice A n c, .slice B m d])) w) : wpList Tryz.prog ops Q (o :: rest) a w :=
 wpList_step fun K2 hK2 => by
  rw [if_pos hw];exact wp_load_mid 25 x ho g q hx _ _ hc Tryz.underlying25 rfl au (hK2 _ _ h)
theorem qY (r : Rx) : NF (bJ r) := by
 unfold bJ
 split
 ·rename_i h; exact NF.normR false h
 ·exact NF.none
theorem jw {w : World} {r : Rx} {K : Int} {A B : Option Addr} {n c m d : Nat} (hK : K = r.kind) (h : aC w r A n c B m d) (V : Bool) (hV : V = ay r) : Calls Tryz.prog 14 #[.agg #[.int .i64 K, .slice A n c, .slice B m d]] w (aI w V) := by
 subst hK;exact qW h V hV
theorem BS {w : World} {r : Rx} {K : Int} {A B : Option Addr} {n c m d : Nat} (hK : K = r.kind) (h : aC w r A n c B m d) (V : Bool) (hV : V = aL r) : Calls Tryz.prog 47 #[.agg #[.int .i64 K, .slice A n c, .slice B m d]] w (aI w V) := by
 subst hK;exact xN h V hV
theorem qD {p : Nat -> Prop} {w : World} (hp : ∀ b, p b -> b < w.heap.size) (hd : DB w) (r : Rx) {K : Int} (hK : K = r.kind) (hv : ay r = true) (hc : av r <= 1000000000000) {A B : Option Addr} {n c m d : Nat} (h : ai p w r A n c B m d) : Calls Tryz.prog 51 #[.agg #[.int .i64 K, .slice A n c, .slice B m d]] w (dn p w (normR false r)) := by
 subst hK;exact zy hp hd r hv hc h
theorem Cf {w : World} {r : Rx} {K : Int} {A B : Option Addr} {n c m d : Nat} (hK : K = r.kind) (hv : ay r = true) (hc : av r <= 1000000000000) (h : aC w r A n c B m d) : Calls Tryz.prog 50 #[.agg #[.int .i64 K, .slice A n c, .slice B m d]] w (dn (fun _ => False) w r) := by
 subst hK;exact xW hv hc h
theorem qi {w : World} (hd : DB w) (r : Rx) (hc : av r <= 1000000000000) {A B : Option Addr} {n c m d : Nat} (h : aC w r A n c B m d) : Calls Tryz.prog 19 #[.agg #[.int .i64 r.kind, .slice A n c, .slice B m d]] w (dn (fun _ => False) w (bJ r)) := by
 obtain ⟨K, hK⟩ : ∃ K, K = r.kind := ⟨_, rfl⟩;have HX : Hid (aC w r A n c B m d /\ K = r.kind /\ av r <= 1000000000000) := Lh ⟨h, hK, hc⟩;have HDB := Lh hd;have HB1 : Hid (aa ((w.alloc (zC K A n c B m d)).alloc zR) w.heap.size (zV K A n c B m d) 25) := Lh ((aa.at w (zV K A n c B m d) _ 25 _ rfl rfl).alloc _);have HZ : Hid (aa ((w.alloc (zC K A n c B m d)).alloc zR) (w.heap.size + 1) zL 25) := Lh (aa.at (w.alloc (zC K A n c B m d)) zL _ 25 _ rfl (by simp));have hrx := aM HB1.out;rw [<- hK]
 by_cases hv : ay r = true
 ·have HV : Hid (true = ay r) := Lh hv.symm;have HR : Hid (bJ r = normR false r) := Lh (by unfold bJ; rw [if_pos hv]);clear h hK hc hd hv;go_enter Tryz.func19, Tryz.ntmps19
  go_wp2_with (first
   |(refine aA rfl (.tmp 1) rfl w.heap.size (0) rfl K A B n c m d hrx ?_)
   |((with_reducible refine (jw HX.out.2.1 (HX.out.1.below (aB (ag _ _) _)) true HV.out).mono ?_); rintro e w1 hp; obtain ⟨rfl, hb⟩ := aN hp; have H1 : Hid (Below w.heap.size w w1) := Lh (ae (aB (ag _ _) _) hb); have HZ1 := Lh (HZ.out.below hb (by simp)); have hrx1 := aM (HB1.out.below hb (by simp; omega)); clear hp hb)
   |(refine aA rfl (.tmp 1) rfl w.heap.size (0) rfl K A B n c m d hrx1 ?_)
   |((with_reducible refine (qD (p := fun b => b < w.heap.size) (fun b hb => by have := H1.out.size; omega) (HDB.out.below H1.out) r HX.out.2.1 HV.out.symm HX.out.2.2 (HX.out.1.toP.below H1.out)).mono ?_); rintro e w2 hp; obtain ⟨A2, n2, c2, B2, m2, d2, rfl, h2, hb2⟩ := bV hp; rw [<- HR.out] at h2 ⊢; have H2 : Hid (aC w2 (bJ r) A2 n2 c2 B2 m2 d2 /\ Below w1.heap.size w1 w2) := Lh ⟨h2.o, hb2⟩; clear hp h2 hb2)
   |((with_reducible refine (xW (qY r).val (by rw [HR.out]; have h1 := kM false HV.out.symm; have h2 := HX.out.2.2; omega) H2.out.1).mono ?_); rintro e w8 hp; obtain ⟨A8, n8, c8, B8, m8, d8, rfl, h8, hb8⟩ := bV hp; obtain ⟨K8, hK8⟩ : ∃ K, K = (bJ r).kind := ⟨_, rfl⟩; rw [<- hK8]; have H8 : Hid (ai (fun b => w2.heap.size <= b) w8 (bJ r) A8 n8 c8 B8 m8 d8 /\ Below w1.heap.size w1 w8 /\ K8 = (bJ r).kind) := Lh ⟨h8.mono (fun b hb => hb.elim (fun h => h.elim) id), ae H2.out.2 hb8, hK8⟩; clear hp h8 hb8 hK8)
   |(refine wB rfl 25 (.tmp 2) (.tmp 9) rfl (w.heap.size + 1) 0 rfl (zV K8 A8 n8 c8 B8 m8 d8) rfl (HZ1.out.below H8.out.2.1 HZ1.out.lt) 3 au ?_; intro w9 hst9; have Hw9 : Hid (aa w9 (w.heap.size + 1) (zV K8 A8 n8 c8 B8 m8 d8) 25 /\ Below w.heap.size w w9 /\ ai (fun b => w2.heap.size <= b) w9 (bJ r) A8 n8 c8 B8 m8 d8) := Lh ⟨hst9.1, hst9.below (ae H1.out H8.out.2.1) (by omega), fO H8.out.1 hst9 (fun b hb => by have h1 := HZ1.out.lt; have h2 := H2.out.2.size; omega)⟩; clear hst9))
  exact bM rfl (w.heap.size + 1) rfl (C := (zV K8 A8 n8 c8 B8 m8 d8)) (T := 25) Hw9.out.1 _ Tryz.underlying25 rfl au rfl (by
   rw [H8.out.2.2];exact ⟨_, _, _, _, _, _, rfl, Hw9.out.2.2.mono (fun b hb => .inr (by have h1 := H1.out.size; have h2 := H2.out.2.size; omega)), Hw9.out.2.1⟩)
 ·have HV : Hid (false = ay r) := Lh (by simpa using hv);have HR : Hid (bJ r = .mk 0 [] []) := Lh (by unfold bJ; rw [if_neg hv]);clear h hK hc hd hv;go_enter Tryz.func19, Tryz.ntmps19
  go_wp2_with (first
   |(refine aA rfl (.tmp 1) rfl w.heap.size (0) rfl K A B n c m d hrx ?_)
   |((with_reducible refine (jw HX.out.2.1 (HX.out.1.below (aB (ag _ _) _)) false HV.out).mono ?_); rintro e w1 hp; obtain ⟨rfl, hb⟩ := aN hp; have H1 : Hid (Below w.heap.size w w1) := Lh (ae (aB (ag _ _) _) hb); have HZ1 := Lh (HZ.out.below hb (by simp)); have hrx1 := aM (HB1.out.below hb (by simp; omega)); clear hp hb)
   |(refine wB rfl 25 (.tmp 2) (.tmp 6) rfl (w.heap.size + 1) 0 rfl zL rfl HZ1.out 3 au ?_; intro w9 hst9; have Hw9 : Hid (aa w9 (w.heap.size + 1) zL 25 /\ Below w.heap.size w w9 ) := Lh ⟨hst9.1, hst9.below H1.out (by omega)⟩; clear hst9))
  exact bM rfl (w.heap.size + 1) rfl (C := zL) (T := 25) Hw9.out.1 _ Tryz.underlying25 rfl au rfl (by rw [HR.out]; exact jF (ai.flat _ w9 (by constructor <;> decide)) (fun b hb => .inl hb) Hw9.out.2)
theorem vQ {w : World} (r : Rx) {A B : Option Addr} {n c m d : Nat} (h : aC w r A n c B m d) (E : Bool) (hE : E = (ay r && aL r)) : Calls Tryz.prog 16 #[.agg #[.int .i64 r.kind, .slice A n c, .slice B m d]] w (aI w E) := by
 obtain ⟨K, hK⟩ : ∃ K, K = r.kind := ⟨_, rfl⟩;have HX : Hid (aC w r A n c B m d /\ K = r.kind) := Lh ⟨h, hK⟩;have HB1 : Hid (aa (w.alloc (zC K A n c B m d)) w.heap.size (zV K A n c B m d) 25) := Lh (aa.at w (zV K A n c B m d) _ 25 _ rfl rfl);have hrx := aM HB1.out;rw [<- hK]
 cases hv : ay r with
 |true =>
  have HV : Hid (true = ay r) := Lh hv.symm;rw [hv, Bool.true_and] at hE;have HE := Lh hE;clear h hK hv hE;go_enter Tryz.func16, Tryz.ntmps16
  go_wp2_with (first
   |(refine aA rfl (.tmp 1) rfl w.heap.size (0) rfl K A B n c m d hrx ?_)
   |((with_reducible refine (jw HX.out.2 (HX.out.1.below (ag _ _)) true HV.out).mono ?_); rintro e w1 hp; obtain ⟨rfl, hb⟩ := aN hp; have H1 : Hid (Below w.heap.size w w1) := Lh (ae (ag _ _) hb); have hrx1 := aM (HB1.out.below hb (by simp)); clear hp hb)
   |(refine gu (by rfl) (.tmp 1) rfl w.heap.size 0 rfl K A B n c m d hrx1 ?_)
   |((with_reducible refine (BS HX.out.2 (HX.out.1.below H1.out) E HE.out).mono ?_); rintro e w2 hp; obtain ⟨rfl, hb⟩ := aN hp; have H2 : Hid (Below w.heap.size w w2) := Lh (ae H1.out hb); clear hp hb))
  go_ret;exact ⟨rfl, H2.out⟩
 |false =>
  have HV : Hid (false = ay r) := Lh hv.symm;rw [hv, Bool.false_and] at hE;subst hE;clear h hK hv;go_enter Tryz.func16, Tryz.ntmps16
  go_wp2_with (first
   |(refine aA rfl (.tmp 1) rfl w.heap.size (0) rfl K A B n c m d hrx ?_)
   |((with_reducible refine (jw HX.out.2 (HX.out.1.below (ag _ _)) false HV.out).mono ?_); rintro e w1 hp; obtain ⟨rfl, hb⟩ := aN hp; have H1 : Hid (Below w.heap.size w w1) := Lh (ae (ag _ _) hb); clear hp hb))
  go_ret;exact ⟨rfl, H1.out⟩
theorem wE {w : World} (hd : DB w) (r : Rx) (hc : av r <= 1000000000000) {A B : Option Addr} {n c m d : Nat} (h : aC w r A n c B m d) : Calls Tryz.prog 21 #[.agg #[.int .i64 r.kind, .slice A n c, .slice B m d]] w (dn (fun _ => False) w (bJ (aV r))) := by
 obtain ⟨K, hK⟩ : ∃ K, K = r.kind := ⟨_, rfl⟩;have HX : Hid (aC w r A n c B m d /\ K = r.kind /\ av r <= 1000000000000) := Lh ⟨h, hK, hc⟩;have HDB := Lh hd;have HB1 : Hid (aa ((w.alloc (zC K A n c B m d)).alloc zR) w.heap.size (zV K A n c B m d) 25) := Lh ((aa.at w (zV K A n c B m d) _ 25 _ rfl rfl).alloc _);have HZ : Hid (aa ((w.alloc (zC K A n c B m d)).alloc zR) (w.heap.size + 1) zL 25) := Lh (aa.at (w.alloc (zC K A n c B m d)) zL _ 25 _ rfl (by simp));have hrx := aM HB1.out;have HRV : Hid (∀ W, Below w.heap.size w W -> Calls Tryz.prog 53 #[.agg #[.int .i64 K, .slice A n c, .slice B m d]] W (dn (fun b => b < w.heap.size) W (aV r))) := Lh fun W hb => by rw [hK]; exact Bt (fun b hb2 => Nat.lt_of_lt_of_le hb2 hb.size) hc (h.toP.below hb)
 rw [<- hK];clear h hK hc hd;go_enter Tryz.func21, Tryz.ntmps21
 go_wp2_with (first
  |(refine aA rfl (.tmp 1) rfl w.heap.size (0) rfl K A B n c m d hrx ?_)
  |((with_reducible refine (HRV.out _ (aB (ag _ _) _)).mono ?_); rintro e w2 hp; obtain ⟨A2, n2, c2, B2, m2, d2, rfl, h2, hb2⟩ := bV hp; have H2 : Hid (aC w2 (aV r) A2 n2 c2 B2 m2 d2 /\ Below ((w.alloc (zC K A n c B m d)).alloc zR).heap.size ((w.alloc (zC K A n c B m d)).alloc zR) w2) := Lh ⟨h2.o, hb2⟩; clear hp h2 hb2)
  |((with_reducible refine (qi (HDB.out.below (ae (aB (ag _ _) _) H2.out.2)) (aV r) (by rw [Gp]; exact HX.out.2.2) H2.out.1).mono ?_); rintro e w8 hp; obtain ⟨A8, n8, c8, B8, m8, d8, rfl, h8, hb8⟩ := bV hp; obtain ⟨K8, hK8⟩ : ∃ K, K = (bJ (aV r)).kind := ⟨_, rfl⟩; rw [<- hK8]; have H8 : Hid (ai (fun b => w2.heap.size <= b) w8 (bJ (aV r)) A8 n8 c8 B8 m8 d8 /\ Below ((w.alloc (zC K A n c B m d)).alloc zR).heap.size ((w.alloc (zC K A n c B m d)).alloc zR) w8 /\ K8 = (bJ (aV r)).kind) := Lh ⟨h8.mono (fun b hb => hb.elim (fun h => h.elim) id), ae H2.out.2 hb8, hK8⟩; clear hp h8 hb8 hK8)
  |(refine wB rfl 25 (.tmp 2) (.tmp 5) rfl (w.heap.size + 1) 0 rfl (zV K8 A8 n8 c8 B8 m8 d8) rfl (HZ.out.below H8.out.2.1 HZ.out.lt) 3 au ?_; intro w9 hst9; have Hw9 : Hid (aa w9 (w.heap.size + 1) (zV K8 A8 n8 c8 B8 m8 d8) 25 /\ Below w.heap.size w w9 /\ ai (fun b => w2.heap.size <= b) w9 (bJ (aV r)) A8 n8 c8 B8 m8 d8) := Lh ⟨hst9.1, hst9.below (ae (aB (ag _ _) _) H8.out.2.1) (by omega), fO H8.out.1 hst9 (fun b hb => by have h1 := HZ.out.lt; have h2 := H2.out.2.size; omega)⟩; clear hst9))
 exact bM rfl (w.heap.size + 1) rfl (C := (zV K8 A8 n8 c8 B8 m8 d8)) (T := 25) Hw9.out.1 _ Tryz.underlying25 rfl au rfl (by
  rw [H8.out.2.2];exact ⟨_, _, _, _, _, _, rfl, Hw9.out.2.2.mono (fun b hb => .inr (by have h2 := H2.out.2.size; simp at h2; omega)), Hw9.out.2.1⟩)
end Go.Proofs.YtakcjlimbabbfaaGreatDoor
