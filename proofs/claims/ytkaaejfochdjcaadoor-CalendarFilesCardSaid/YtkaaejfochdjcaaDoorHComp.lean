/-
  The walk of hash.compress.
-/
import Derived.Test.YtkaaejfochdjcaaDoorHSched
namespace Go.Proofs.YtkaaejfochdjcaaDoor
open Go.RowKit
open Sha
set_option linter.unusedVariables false

/-- The program's table of constants. -/
def KH (w : World) : Prop := w.rangeAt 1 0 (wvs K) ∧ 1 < w.heap.size
theorem KH.below {w w' : World} {n : Nat} (h : KH w) (hb : Below n w w') (hn : 1 < n) : KH w' :=
  ⟨fun j v hv => (hb.cell (p := ⟨1, 0 + j, none⟩) hn).trans (h.1 j v hv), Nat.lt_of_lt_of_le h.2 hb.size⟩
theorem KH.cell {w : World} (h : KH w) (t : Nat) (ht : t < 64) : w.cell? ⟨1, t, none⟩ = some (.int .u32 (Kt t).toNat) := by
  have := h.1 t _ (wvs_get K t (by rw [K_length]; exact ht))
  rw [Nat.zero_add] at this
  exact this
theorem Tryd.size29 : (Tryd.prog.info? 82).map (·.size) = some 1 := by kernel_rfl
theorem Tryd.agg29 (w : World) : (isAgg 82).run Tryd.prog w = .ok false w := by kernel_rfl
theorem Tryd.size30 : (Tryd.prog.info? 83).map (·.size) = some 8 := by kernel_rfl
theorem Tryd.size31 : (Tryd.prog.info? 84).map (·.size) = some 64 := by kernel_rfl

def CI (S : List U) (w : World) (M : Nat) (L : List U) (wr : World) : Prop :=
  Blk wr w.heap.size (wvs L) 83 ∧ Blk wr (w.heap.size + 1 + 1) (wvs (List.replicate 8 0)) 83 ∧ Blk wr M (wvs S) 119 ∧ w.heap.size + 1 + 1 < M ∧ Below w.heap.size w wr

theorem CI.make {V S : List U} {b : List UInt8} {w w' w1 : World} (hb : Below (((w.alloc (.cells (wvs V).toArray 83)).alloc (.cells (bs b).toArray 84)).alloc (.cells (wvs (List.replicate 8 0)).toArray 83)).heap.size (((w.alloc (.cells (wvs V).toArray 83)).alloc (.cells (bs b).toArray 84)).alloc (.cells (wvs (List.replicate 8 0)).toArray 83)) w')
    {D : List Value} (hD : D = wvs S) {O : Obj} (hst : Stored (w'.alloc O) w1 w'.heap.size D 119) : CI S w w'.heap.size V w1 := by
  subst hD
  simp only [World.size_alloc] at hb
  have hz : w.heap.size + 1 + 1 + 1 ≤ w'.heap.size := by have := hb.size; simpa using this
  have h0 := (((Blk.new w (wvs V) 83).alloc (.cells (bs b).toArray 84)).alloc (.cells (wvs (List.replicate 8 0)).toArray 83)).below hb (by omega)
  have h2 := (Blk.new ((w.alloc (.cells (wvs V).toArray 83)).alloc (.cells (bs b).toArray 84)) (wvs (List.replicate 8 0)) 83)
  simp only [World.size_alloc] at h2
  have h2' := h2.below hb (by omega)
  refine ⟨hst.other (h0.alloc _) (by omega), hst.other (h2'.alloc _) (by omega), hst.1, by omega, hst.below ?_ (by omega)⟩
  refine Below.alloc ?_ (by omega) _
  exact ((((Below.refl _ w).alloc (Nat.le_refl _) _).alloc (by simp) _).alloc (by simp; omega) _).trans (hb.mono (by omega))
theorem CI.below {V S : List U} {w wr : World} {M : Nat} (h : CI S w M V wr) : Below w.heap.size w wr := h.2.2.2.2
theorem CI.drewN {V S : List U} {w wr : World} {M : Nat} (h : CI S w M V wr) (a : Nat) : CI S w M V (wr.drewN a) := ⟨h.1, h.2.1, h.2.2.1, h.2.2.2.1, below_drewN h.2.2.2.2 a⟩

theorem sumX (h p q k x : U) : ((h.toNat : Int) + (p.toNat : Int) + (q.toNat : Int) + (k.toNat : Int) + (x.toNat : Int)) % 4294967296 = ((h + p + q + k + x).toNat : Int) := by
  simp only [UInt32.toNat_add]
  omega
theorem sumA (h p q k x y z : U) : ((h.toNat : Int) + (p.toNat : Int) + (q.toNat : Int) + (k.toNat : Int) + (x.toNat : Int) + ((y.toNat : Int) + (z.toNat : Int))) % 4294967296 = ((h + p + q + k + x + (y + z)).toNat : Int) := by
  simp only [UInt32.toNat_add]
  omega
theorem sumD (d h p q k x : U) : ((d.toNat : Int) + ((h.toNat : Int) + (p.toNat : Int) + (q.toNat : Int) + (k.toNat : Int) + (x.toNat : Int))) % 4294967296 = ((d + (h + p + q + k + x)).toNat : Int) := by
  simp only [UInt32.toNat_add]
  omega
theorem sum2 (p q : U) : ((p.toNat : Int) + (q.toNat : Int)) % 4294967296 = ((p + q).toNat : Int) := by
  rw [UInt32.toNat_add]
  omega
theorem max_w : IntKind.u32.max = 4294967295 := rfl
/-- The first i words are summed. -/
def mix (i : Nat) (V X : List U) : List U := (addL V X).take i ++ V.drop i
theorem mix_set (i : Nat) (V X : List U) (hV : V.length = 8) (hX : X.length = 8) (hi : i < 8) : (mix i V X).set i (V.getD i 0 + X.getD i 0) = mix (i + 1) V X := by
  have hl := addL_length V X hV hX
  unfold mix
  have e1 : (addL V X)[i]'(by omega) = V.getD i 0 + X.getD i 0 := by
    simp [addL, List.getD, (by omega : i < V.length), (by omega : i < X.length)]
  have e2 : V.drop i = V[i]'(by omega) :: V.drop (i + 1) := List.drop_eq_getElem_cons (by omega)
  rw [List.set_append_right _ _ (by simp; omega), e2, List.take_succ_eq_append_getElem (by omega), e1]
  have e3 : i - ((addL V X).take i).length = 0 := by simp; omega
  rw [e3, List.set_cons_zero]
  simp
theorem mix_get (i : Nat) (V X : List U) (hV : V.length = 8) (hX : X.length = 8) (hi : i < 8) : (mix i V X).getD i 0 = V.getD i 0 := by
  have hl := addL_length V X hV hX
  unfold mix
  simp [List.getD, List.getElem?_append_right, hl, Nat.min_eq_left (by omega : i ≤ 8)]
theorem mix_length (i : Nat) (V X : List U) (hV : V.length = 8) (hX : X.length = 8) (hi : i ≤ 8) : (mix i V X).length = 8 := by
  have hl := addL_length V X hV hX
  simp [mix]
  omega
theorem mix_zero (V X : List U) : mix 0 V X = V := by simp [mix]
theorem mix_eight (V X : List U) (hV : V.length = 8) (hX : X.length = 8) : mix 8 V X = addL V X := by
  have hl := addL_length V X hV hX
  simp [mix, List.take_of_length_le, hl, hV]
theorem CI.set {V S : List U} {w wr : World} {M : Nat} (h : CI S w M V wr) (i : Nat) (x : U) : CI S w M (V.set i x) (wr.setCell ⟨w.heap.size, i, none⟩ (.int .u32 x.toNat)) := by
  have h4 := h.2.2.2.1
  refine ⟨?_, h.2.1.set_other _ _ (by show w.heap.size + 1 + 1 ≠ w.heap.size; omega), h.2.2.1.set_other _ _ (by show M ≠ w.heap.size; omega), h4, h.2.2.2.2.setCell (Nat.le_refl _) _⟩
  have := h.1.set i (.int .u32 x.toNat)
  rw [wvs_set] at this
  exact this

set_option maxRecDepth 100000 in
set_option maxHeartbeats 1000000 in
theorem comp_aux (V S C : List U) (b : List UInt8) (hV : V.length = 8) (hb : b.length = 64) (hS : S = sched b) (hC : C = comp V b) (w : World) (hK : KH w) :
    Calls Tryd.prog 79 #[.agg (wvs V).toArray, .agg (bs b).toArray] w fun e w' => e = .returned (.agg (wvs C).toArray) ∧ Below w.heap.size w w' := by
  have hsc := fun W => sched_any b hb W
  rw [← hS] at hsc
  have hbl : (bs b).length = 64 := by rw [bs_length, hb]
  have hSl : (wvs S).length = 64 := by rw [wvs_length, hS, sched_length]
  have HS := Lib.hid hS; clear hS
  have HC := Lib.hid hC; clear hC
  have HB := Lib.hid hb; clear hb
  have HV := Lib.hid hV; clear hV
  have HK := Lib.hid hK; clear hK
  have HSC := Lib.hid hsc; clear hsc
  have hblk : Blk (((w.alloc (.cells (wvs V).toArray 83)).alloc (.cells (bs b).toArray 84)).alloc (.cells (wvs (List.replicate 8 0)).toArray 83)) (w.heap.size + 1) (bs b) 84 := by
    have := (Blk.new (w.alloc (.cells (wvs V).toArray 83)) (bs b) 84).alloc (.cells (wvs (List.replicate 8 0)).toArray 83)
    simp only [World.size_alloc] at this
    exact this
  have hlb : ((bs b).drop 0).take 64 = bs b := by rw [List.drop_zero, ← hbl, List.take_length]
  have HBL := Lib.hid hbl; clear hbl
  have HSL := Lib.hid hSl; clear hSl
  have HBK := Lib.hid hblk; clear hblk
  have HLB := Lib.hid hlb; clear hlb
  go_enter Tryd.func79, Tryd.ntmps79
  go_wp2_with (first | (refine wpList_load_blk rfl 84 (.tmp 3) rfl _ 0 rfl HBK.out _ Tryd.underlying84 rfl 64 Tryd.size31 (by rw [HBL.out]; exact Nat.le_refl _) ?_; rw [HLB.out]) | ((with_reducible refine (HSC.out _).mono ?_); rintro e w' ⟨rfl, hb1⟩; have HB1 := Lib.hid hb1; clear hb1) | (refine wpList_store_blk rfl 119 (.tmp 5) (.tmp 20) rfl _ 0 rfl (wvs S) rfl (Blk.new' _ (wvs (List.replicate 64 0)) _ 119 rfl) 64 Tryd.size54 HSL.out (by rw [wvs_length, List.length_replicate]; exact Nat.le_refl _) (wvs_one S) ?_; intro w1 hst1; have HCI := Lib.hid (CI.make (V := V) (b := b) HB1.out (by rw [List.take_zero, List.nil_append, List.drop_of_length_le (by rw [wvs_length, List.length_replicate]; exact Nat.le_refl _), List.append_nil]) hst1); clear hst1))
  clear HB1
  have hM : Hid (w.heap.size + 1 + 1 < w'.heap.size) := Lib.hid HCI.out.2.2.2.1
  generalize w'.heap.size = M at HCI hM ⊢
  clear HBK HLB HBL HSL HSC HB
  obtain ⟨v0, h0⟩ : ∃ v, v = V.getD 0 0 := ⟨_, rfl⟩
  obtain ⟨v1, h1⟩ : ∃ v, v = V.getD 1 0 := ⟨_, rfl⟩
  obtain ⟨v2, h2⟩ : ∃ v, v = V.getD 2 0 := ⟨_, rfl⟩
  obtain ⟨v3, h3⟩ : ∃ v, v = V.getD 3 0 := ⟨_, rfl⟩
  obtain ⟨v4, h4⟩ : ∃ v, v = V.getD 4 0 := ⟨_, rfl⟩
  obtain ⟨v5, h5⟩ : ∃ v, v = V.getD 5 0 := ⟨_, rfl⟩
  obtain ⟨v6, h6⟩ : ∃ v, v = V.getD 6 0 := ⟨_, rfl⟩
  obtain ⟨v7, h7⟩ : ∃ v, v = V.getD 7 0 := ⟨_, rfl⟩
  have hofL : ofL V = ⟨v0, v1, v2, v3, v4, v5, v6, v7⟩ := by rw [h0, h1, h2, h3, h4, h5, h6, h7]; rfl
  have c0 := HCI.out.1.cell (wvs_get V 0 (by rw [HV.out]; omega))
  have c1 := HCI.out.1.cell (wvs_get V 1 (by rw [HV.out]; omega))
  have c2 := HCI.out.1.cell (wvs_get V 2 (by rw [HV.out]; omega))
  have c3 := HCI.out.1.cell (wvs_get V 3 (by rw [HV.out]; omega))
  have c4 := HCI.out.1.cell (wvs_get V 4 (by rw [HV.out]; omega))
  have c5 := HCI.out.1.cell (wvs_get V 5 (by rw [HV.out]; omega))
  have c6 := HCI.out.1.cell (wvs_get V 6 (by rw [HV.out]; omega))
  have c7 := HCI.out.1.cell (wvs_get V 7 (by rw [HV.out]; omega))
  rw [← h0] at c0
  rw [← h1] at c1
  rw [← h2] at c2
  rw [← h3] at c3
  rw [← h4] at c4
  rw [← h5] at c5
  rw [← h6] at c6
  rw [← h7] at c7
  have HOF := Lib.hid hofL
  clear h0 h1 h2 h3 h4 h5 h6 h7 hofL
  go_wp2_with fail
  go_quiet (fail)
  clear c0 c1 c2 c3 c4 c5 c6 c7
  go_wp2_with fail
  go_loopg [6, 7, 8, 9, 10, 11, 12, 13, 37] 64 (fun g s6 s7 s8 s9 s10 s11 s12 s13 s37 wr => ∃ t : Nat, t + g = 64 ∧ s37 = .int .i64 t ∧ (∃ s : S8, s = rnds S t (ofL V) ∧ s6 = .int .u32 s.a.toNat ∧ s7 = .int .u32 s.b.toNat ∧ s8 = .int .u32 s.c.toNat ∧ s9 = .int .u32 s.d.toNat ∧ s10 = .int .u32 s.e.toNat ∧ s11 = .int .u32 s.f.toNat ∧ s12 = .int .u32 s.g.toNat ∧ s13 = .int .u32 s.h.toNat) ∧ CI S w M V wr)
  case atStart => exact ⟨0, rfl, rfl, ⟨⟨v0, v1, v2, v3, v4, v5, v6, v7⟩, HOF.out.symm.trans (rnds_zero _ _).symm, rfl, rfl, rfl, rfl, rfl, rfl, rfl, rfl⟩, HCI.out.drewN _⟩
  case round =>
    clear HCI HOF
    obtain ⟨t, ht, rfl, ⟨s, hs, rfl, rfl, rfl, rfl, rfl, rfl, rfl, rfl⟩, hCI⟩ := hrel
    by_cases hlt : t < 64
    · obtain ⟨g, rfl⟩ : ∃ g, gk = g + 1 := ⟨gk - 1, by omega⟩
      have hcK := (HK.out.below hCI.below HK.out.2).cell t hlt
      have hcS := hCI.2.2.1.cell (wvs_get S t (by have := HS.out; rw [this, sched_length]; exact hlt))
      obtain ⟨k, hk⟩ : ∃ k, k = Kt t := ⟨_, rfl⟩
      obtain ⟨x, hx⟩ : ∃ x, x = S.getD t 0 := ⟨_, rfl⟩
      rw [← hk] at hcK
      rw [← hx] at hcS
      have HH := Lib.hid (And.intro hs (And.intro hk hx))
      have HCI := Lib.hid hCI
      clear hs hk hx hCI
      obtain ⟨a, b', c, d, e, f, g', hh⟩ := s
      dsimp only
      go_wp2_with fail
      go_quiet ((go_at_call 87; (first | (refine quiet_one (fun W => rotr_q _ 6 _ ?_ (by omega) (by omega) W); rfl) | (refine quiet_one (fun W => rotr_q _ 11 _ ?_ (by omega) (by omega) W); rfl) | (refine quiet_one (fun W => rotr_q _ 25 _ ?_ (by omega) (by omega) W); rfl))))
      go_wp2_with (first | ((with_reducible refine (rotr_2 _ _).mono ?_); rintro e w' ⟨rfl, rfl⟩) | ((with_reducible refine (rotr_13 _ _).mono ?_); rintro e w' ⟨rfl, rfl⟩) | ((with_reducible refine (rotr_22 _ _).mono ?_); rintro e w' ⟨rfl, rfl⟩))
      go_roundg g
      case rel => exact ⟨t + 1, by omega, by go_num, ⟨⟨xx e f g' hh k x + yy a b' c, a, b', c, d + xx e f g' hh k x, e, f, g'⟩, by rw [rnds_succ, ← HH.out.1, ← HH.out.2.1, ← HH.out.2.2]; rfl, by simp only [max_w, xor_w, and_w, not_w', sumA]; rfl, rfl, rfl, rfl, by simp only [max_w, xor_w, and_w, not_w', sumD]; rfl, rfl, rfl, rfl⟩, HCI.out.drewN _⟩
      case measure => omega
    · obtain rfl : t = 64 := by omega
      obtain ⟨X, hX⟩ : ∃ X, X = toL s := ⟨_, rfl⟩
      have hXl : X.length = 8 := by rw [hX]; rfl
      have hres : C = addL V X := by rw [HC.out, comp, hX, hs, ← HS.out]
      have HX := Lib.hid hX; clear hX
      have HXL := Lib.hid hXl; clear hXl
      have HRES := Lib.hid hres; clear hres
      have HCI := Lib.hid hCI; clear hCI
      clear hs
      obtain ⟨a, b', c, d, e, f, g', hh⟩ := s
      dsimp only
      go_wp2_with fail
      go_loopg [109] 8 (fun g s109 wr => ∃ i : Nat, i + g = 8 ∧ s109 = .int .i64 i ∧ CI S w M (mix i V X) wr)
      case atStart => exact ⟨0, rfl, rfl, by rw [mix_zero]; exact HCI.out⟩
      case round =>
        clear HCI
        obtain ⟨i, hi, rfl, hCI⟩ := hrel
        by_cases hlt : i < 8
        · obtain ⟨g, rfl⟩ : ∃ g, gk = g + 1 := ⟨gk - 1, by omega⟩
          have hc := hCI.1.cell (wvs_get _ i (by rw [mix_length i V X HV.out HXL.out (by omega)]; exact hlt))
          have hf := hCI.1.frozen i
          rw [mix_get i V X HV.out HXL.out hlt] at hc
          have hxi := fun w' => index_val (P := Tryd.prog) Tryd.underlying83 Tryd.size29 Tryd.agg29 #[.int .u32 a.toNat, .int .u32 b'.toNat, .int .u32 c.toNat, .int .u32 d.toNat, .int .u32 e.toNat, .int .u32 f.toNat, .int .u32 g'.toNat, .int .u32 hh.toNat] .i64 i hlt (.int .u32 (X.getD i 0).toNat) (by
            have := wvs_get X i (by rw [HXL.out]; exact hlt)
            rw [HX.out] at this ⊢
            simpa [wvs, toL, wv] using this) w'
          obtain ⟨p, hp⟩ : ∃ p, p = V.getD i 0 := ⟨_, rfl⟩
          obtain ⟨q, hq⟩ : ∃ q, q = X.getD i 0 := ⟨_, rfl⟩
          rw [← hp] at hc
          rw [← hq] at hxi
          have HCI := Lib.hid hCI; clear hCI
          have HPQ := Lib.hid (And.intro hp hq); clear hp hq
          go_wp2_with fail
          rw [sum2]
          have HN : Hid (CI S w M (mix (i + 1) V X) (wr.setCell ⟨w.heap.size, i, none⟩ (.int .u32 ((p + q).toNat : Int)))) := by
            have := HCI.out.set i (p + q)
            rw [HPQ.out.1, HPQ.out.2, mix_set i V X HV.out HXL.out hlt] at this
            rw [HPQ.out.1, HPQ.out.2]
            exact this
          go_roundg g
          case rel => exact ⟨i + 1, by omega, by go_num, HN.out⟩
          case measure => omega
        · obtain rfl : i = 8 := by omega
          rw [mix_eight V X HV.out HXL.out, ← HRES.out] at hCI
          have hCl : (wvs C).length = 8 := by rw [wvs_length, HRES.out, addL_length _ _ HV.out HXL.out]
          have hD : ((wvs C).drop 0).take 8 = wvs C := by rw [List.drop_zero, ← hCl, List.take_length]
          have hsz : (Tryd.prog.info? 83).map (·.size) = some (wvs C).length := by rw [hCl]; exact Tryd.size30
          have HD := Lib.hid hD
          have HCL := Lib.hid hCl
          have HSZ := Lib.hid hsz
          have HCI := Lib.hid hCI
          clear hD hCl hsz hCI
          go_wp2_with (first | (refine wpList_load_blk rfl 83 (.tmp 2) rfl _ 0 rfl HCI.out.1 _ Tryd.underlying83 rfl 8 Tryd.size30 (by rw [HCL.out]; exact Nat.le_refl _) ?_; rw [HD.out]) | (refine wpList_store_blk rfl 83 (.tmp 4) (.tmp 120) rfl _ 0 rfl (wvs C) rfl HCI.out.2.1 8 Tryd.size30 HCL.out (by rw [wvs_length, List.length_replicate]; exact Nat.le_refl _) (wvs_one C) ?_; intro w1 hst1; rw [List.take_zero, List.nil_append, List.drop_of_length_le (by rw [wvs_length, List.length_replicate]; omega), List.append_nil] at hst1; have HST := Lib.hid hst1; clear hst1))
          refine ret_blk rfl _ rfl HST.out.1 _ Tryd.underlying83 rfl HSZ.out rfl ⟨rfl, HST.out.below HCI.out.below (by omega)⟩
theorem comp_any (V : List U) (b : List UInt8) (hV : V.length = 8) (hb : b.length = 64) (w : World) (hK : KH w) :
    Calls Tryd.prog 79 #[.agg (wvs V).toArray, .agg (bs b).toArray] w fun e w' => e = .returned (.agg (wvs (comp V b)).toArray) ∧ Below w.heap.size w w' :=
  comp_aux V (sched b) _ b hV hb rfl rfl w hK
end Go.Proofs.YtkaaejfochdjcaaDoor
