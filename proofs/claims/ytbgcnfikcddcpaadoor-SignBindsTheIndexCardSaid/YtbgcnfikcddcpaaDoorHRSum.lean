/-
  The reference's Sum, walked.
-/
import Derived.Test.YtbgcnfikcddcpaaDoorHRWords
namespace Go.Proofs.YtbgcnfikcddcpaaDoor
open Go.RowKit
open Sha
set_option linter.unusedVariables false
/-- The reference's table of constants. -/
def KR (w : World) : Prop := w.rangeAt 0 0 (wvs K) ∧ 0 < w.heap.size
theorem KR.below {w w' : World} {n : Nat} (h : KR w) (hb : Below n w w') (hn : 0 < n) : KR w' :=
  ⟨fun j v hv => (hb.cell (p := ⟨0, 0 + j, none⟩) hn).trans (h.1 j v hv), Nat.lt_of_lt_of_le h.2 hb.size⟩
theorem KR.of {w W : World} (hK : KR w) (hb : Below w.heap.size w W) : KR W := hK.below hb hK.2
theorem KR.cell {w : World} (h : KR w) (t : Nat) (ht : t < 64) : w.cell? ⟨0, t, none⟩ = some (.int .u32 (Kt t).toNat) := by
  have := h.1 t _ (wvs_get K t (by rw [K_length]; exact ht))
  rw [Nat.zero_add] at this
  exact this
theorem slice_sl {P : Program} {t e : TypeId} {i : TypeInfo} (h : P.underlying t = some (.slice e)) (hi : P.info? e = some i) (hs : i.size = 1) (b n c l k : Nat) (hlk : l < k) (hk : k ≤ c) (L H : Int) (hL : L = (l : Int)) (hH : H = (k : Int)) (w : World) :
    (Instr.slice t (.slice (some ⟨b, 0, none⟩) n c) (some (.int .i64 L)) (some (.int .i64 H)) none).run P w = .ok (.slice (some ⟨b, l, none⟩) (k - l) (c - l)) w := by
  subst hL hH
  have h1 : (0 : Int) ≤ (l : Int) := by omega
  have hne : ¬ c = l := by omega
  have hlk' : l ≤ k := by omega
  simp [Instr.slice, Instr.sliceBounds, Instr.sliceBound, asIntOf, run_underlying h, sizeOf, typeInfo, hi, h1, hk, hlk', hne, hs, Addr.add_mid, go_sem]
theorem rd_sub {w : World} {g : Nat} {P : List UInt8} (h : Rd w (some ⟨g, 0, none⟩) (bs P)) (o n : Nat) (hn : 0 < n) (ho : o + n ≤ P.length) : Rd w (some ⟨g, o, none⟩) (bs ((P.drop o).take n)) := by
  obtain ⟨b', o', he, hc⟩ := h.open (by intro e; have := congrArg List.length e; rw [bs_length, List.length_nil] at this; omega)
  obtain ⟨rfl, rfl⟩ : g = b' ∧ 0 = o' := by simpa using he
  refine .inr ⟨g, o, rfl, fun k v hv => ?_⟩
  have hk : k < n := by have := (List.getElem?_eq_some_iff.1 hv).1; rw [bs_length, List.length_take] at this; omega
  have h1 := hc (o + k) v (by
    rw [← hv, bs, bs, List.getElem?_map, List.getElem?_map, List.getElem?_take_of_lt hk, List.getElem?_drop])
  rw [Nat.zero_add] at h1
  exact h1
theorem padded_length (m : List UInt8) : (padded m).length = 64 * ((padded m).length / 64) := by
  have : (padded m).length = m.length + 1 + gap m.length + 8 := by rw [pad_bytes]; simp [len8_length]; omega
  rw [this]
  unfold gap
  omega
theorem padded_le (m : List UInt8) : (padded m).length ≤ m.length + 72 := by
  have : (padded m).length = m.length + 1 + gap m.length + 8 := by rw [pad_bytes]; simp [len8_length]; omega
  have := gap_lt m.length
  omega
/-- What lies in memory while the reference's Sum runs. -/
def RT (w : World) (V : List U) (wr : World) : Prop := Blk wr w.heap.size (bs (List.replicate 32 0)) 98 ∧ Blk wr (w.heap.size + 1) (wvs V) 90 ∧ Below w.heap.size w wr
theorem RT.next {w wr wr' : World} {V : List U} (h : RT w V wr) (hb : Below wr.heap.size wr wr') : RT w V wr' := ⟨h.1.below hb h.1.lt, h.2.1.below hb h.2.1.lt, below_next h.2.2 hb⟩
theorem RT.drewN {w wr : World} {V : List U} (h : RT w V wr) (a : Nat) : RT w V (wr.drewN a) := ⟨h.1, h.2.1, below_drewN h.2.2 a⟩
theorem RT.alloc {w wr : World} {V : List U} (h : RT w V wr) (o : Obj) : RT w V (wr.alloc o) := ⟨h.1.alloc o, h.2.1.alloc o, h.2.2.alloc h.2.2.size o⟩

theorem rd_block {w w' : World} {g0 : Nat} {xs : List Value} (h : Rd w (some ⟨g0, 0, none⟩) xs) (hb : w'.heap[g0]? = w.heap[g0]?) : Rd w' (some ⟨g0, 0, none⟩) xs := by
  rcases h with h | ⟨b, o, he, hc⟩
  · exact .inl h
  · obtain ⟨rfl, rfl⟩ : g0 = b ∧ 0 = o := by simpa using he
    exact .inr ⟨g0, 0, rfl, fun k v hv => (World.cell?_of_block (w := w) hb).trans (hc k v hv)⟩
/-- Where the padded message lies. -/
def PI (w : World) (g0 : Nat) (Pd : List UInt8) (wr : World) : Prop := Rd wr (some ⟨g0, 0, none⟩) (bs Pd) ∧ w.heap.size + 1 < g0 ∧ g0 < wr.heap.size
theorem PI.next {w wr wr' : World} {g0 : Nat} {Pd : List UInt8} (h : PI w g0 Pd wr) (hb : Below wr.heap.size wr wr') : PI w g0 Pd wr' := ⟨rd_block h.1 (hb.block g0 h.2.2), h.2.1, Nat.lt_of_lt_of_le h.2.2 hb.size⟩
theorem PI.alloc {w wr : World} {g0 : Nat} {Pd : List UInt8} (h : PI w g0 Pd wr) (o : Obj) : PI w g0 Pd (wr.alloc o) := h.next (below_a1 wr o)
theorem PI.stored {w wr wr' : World} {g0 g : Nat} {Pd : List UInt8} {D : List Value} {T : TypeId} (h : PI w g0 Pd wr) (hs : Stored wr wr' g D T) (hne : g0 ≠ g) : PI w g0 Pd wr' := ⟨rd_block h.1 (hs.2.1 g0 hne), h.2.1, by rw [hs.2.2.1]; exact h.2.2⟩
theorem PI.drewN {w wr : World} {g0 : Nat} {Pd : List UInt8} (h : PI w g0 Pd wr) (a : Nat) : PI w g0 Pd (wr.drewN a) := h

set_option maxRecDepth 100000 in
set_option maxHeartbeats 4000000 in
theorem rsum_aux (m R Pd : List UInt8) (hR : R = sha m) (hPd : Pd = padded m) (A : Option Addr) (c : Nat) (hA : A = none → m = []) (hl : m.length ≤ 1099511627776) (w : World) (hr : Rd w A (bs m)) (hK : KR w) :
    Calls Tryd.prog 71 #[.slice A m.length c] w fun e w' => e = .returned (.agg (bs R).toArray) ∧ Below w.heap.size w w' := by
  obtain ⟨i5, hi5, hz50, hz51, hz52⟩ := info_parts Tryd.info5
  have hpadl := padded_length m
  have hpadle := padded_le m
  rw [← hPd] at hpadl hpadle
  obtain ⟨N, hN⟩ : ∃ N, N = Pd.length / 64 := ⟨_, rfl⟩
  rw [← hN] at hpadl
  have hRP : R = outb (hvN N IV Pd) := by rw [hR, sha, hv, hN, hPd]
  have HPAD : Hid (∀ W, Rd W A (bs m) → Calls Tryd.prog 74 #[.slice A m.length c] W fun e w' => ∃ v', e = .returned v' ∧ w'.ownsRow W.heap.size 5 1 v' Pd.length (bs Pd) ∧ Below W.heap.size W w') := Lib.hid fun W h => by rw [hPd]; exact rpad_any m A _ c rfl hA (by omega) W h
  have HPL := Lib.hid (And.intro hpadl hpadle); clear hpadl hpadle hN
  have HRP := Lib.hid (And.intro hRP hPd); clear hRP hPd hR
  have HRD := Lib.hid hr; clear hr
  have HK := Lib.hid hK; clear hK
  have HRT0 : Hid (RT w IV ((w.alloc (.cells (bs (List.replicate 32 0)).toArray 98)).alloc (.cells (wvs IV).toArray 90))) := Lib.hid ⟨(Blk.new _ _ _).alloc _, by
    have := Blk.new (w.alloc (.cells (bs (List.replicate 32 0)).toArray 98)) (wvs IV) 90
    simp only [World.size_alloc] at this
    exact this, ((Below.refl _ _).alloc (Nat.le_refl _) _).alloc (by simp) _⟩
  go_enter Tryd.func71, Tryd.ntmps71
  go_wp2_with fail
  refine (HPAD.out _ (HRD.out.below HRT0.out.2.2)).mono ?_
  rintro e w1 ⟨v1, rfl, hown1, hb1⟩
  have HRT1 : Hid (RT w IV w1) := Lib.hid (HRT0.out.next hb1)
  obtain ⟨Ap, cap, rfl, hrd1, hcap, hcm⟩ := Rd.of_own hown1
  have hPn : 0 < Pd.length ∧ (bs Pd).length = Pd.length := by
    have := hown1.1
    constructor
    · have h1 : Pd.length = m.length + 1 + gap m.length + 8 := by rw [HRP.out.2, pad_bytes]; simp [len8_length]; omega
      omega
    · exact bs_length Pd
  obtain ⟨g0, o0, rfl, _⟩ := hrd1.open (by intro e; have := congrArg List.length e; rw [hPn.2, List.length_nil] at this; omega)
  have ho0 : o0 = 0 := by
    rcases hown1.2 with ⟨h1, _⟩ | ⟨_, _, _, h1, _⟩
    · simp at h1
    · simpa using (congrArg (fun v => match v with | Value.slice (some a) _ _ => a.off | _ => 0) h1)
  subst ho0
  have hg0 := hown1.lt g0 rfl
  have HP1 : Hid (PI w g0 Pd w1) := Lib.hid ⟨hrd1, by have := hg0.1; simp only [World.size_alloc] at this; omega, hg0.2⟩
  clear hrd1 hg0 hown1 hb1 hPn HRT0
  obtain ⟨F, hF⟩ : ∃ F, F = hvN N IV Pd := ⟨_, rfl⟩
  have HRF : Hid (R = outb F) := Lib.hid (by rw [hF]; exact HRP.out.1)
  have HF := Lib.hid hF; clear hF
  obtain ⟨n, hn⟩ : ∃ n, n = Pd.length := ⟨_, rfl⟩
  rw [← hn] at hcap ⊢
  have hnN : n = 64 * N := by rw [hn]; exact HPL.out.1
  have hn1 : n ≤ 1099511627776 + 72 := by rw [hn]; have := HPL.out.2; omega
  have HNN := Lib.hid hnN; clear hnN
  have HNP := Lib.hid hn; clear hn
  unfold maxLen at hcm
  go_wp2_with fail
  go_loopg [5] N (fun g s5 wr => ∃ t q : Nat, t = 64 * q ∧ q + g = N ∧ s5 = .int .i64 t ∧ (∃ V, V.length = 8 ∧ hvN g V (Pd.drop t) = F ∧ RT w V wr) ∧ PI w g0 Pd wr)
  case atStart => exact ⟨0, 0, rfl, by omega, rfl, ⟨IV, rfl, by rw [List.drop_zero]; exact HF.out.symm, HRT1.out⟩, HP1.out⟩
  case round =>
    clear HRT1 HP1
    obtain ⟨t, q, htq, hq, rfl, ⟨V, hV, hF, hT⟩, hB1⟩ := hrel
    by_cases hlt : q < N
    · obtain ⟨g, rfl⟩ : ∃ g, gk = g + 1 := ⟨gk - 1, by omega⟩
      have hn64 := HNN.out
      have hlt' : t < n := by omega
      have ht64 : t + 64 ≤ n := by omega
      obtain ⟨B, hBe⟩ : ∃ B, B = (Pd.drop t).take 64 := ⟨_, rfl⟩
      have hBl : B.length = 64 := by rw [hBe, List.length_take, List.length_drop, ← HNP.out]; omega
      obtain ⟨S, hS⟩ : ∃ S, S = sched B := ⟨_, rfl⟩
      have hSl : (wvs S).length = 64 := by rw [wvs_length, hS, sched_length]
      have hF' : hvN g (comp V B) (Pd.drop (t + 64)) = F := by
        rw [hvN_succ, ← hBe, List.drop_drop] at hF
        exact hF
      have hrdB : Rd wr (some ⟨g0, t, none⟩) (bs B) := by rw [hBe]; exact rd_sub hB1.1 t 64 (by omega) (by rw [← HNP.out]; exact ht64)
      have hsl := fun w' => slice_sl (P := Tryd.prog) (t := 58) Tryd.underlying58 hi5 hz51 g0 n cap t (t + 64) (by omega) (by omega) (t : Int) ((t : Int) + 64) rfl (by omega) w'
      rw [Nat.add_sub_cancel_left] at hsl
      have HWD : Hid (Calls Tryd.prog 75 #[.slice (some ⟨g0, t, none⟩) 64 (cap - t)] wr fun e w' => e = .returned (.agg (wvs S).toArray) ∧ Below wr.heap.size wr w') := Lib.hid (by rw [hS]; exact rwords_any B hBl g0 t 64 (cap - t) rfl wr hrdB hB1.2.2)
      have HQ := Lib.hid (And.intro htq hq); clear htq hq
      have HT := Lib.hid hT; clear hT
      have HB1 := Lib.hid hB1; clear hB1
      have HF' := Lib.hid hF'; clear hF' hF
      have HBB := Lib.hid (And.intro hBe hBl); clear hBe hBl hrdB
      have HV := Lib.hid hV; clear hV
      have HSL := Lib.hid hSl; clear hSl
      have HS := Lib.hid hS; clear hS
      clear hn64
      go_wp2_with (first
        | ((with_reducible refine (HWD.out).mono ?_); rintro e x1 ⟨rfl, hbx⟩; have HX1 : Hid (RT w V x1 ∧ PI w g0 Pd x1) := Lib.hid ⟨HT.out.next hbx, HB1.out.next hbx⟩; clear hbx)
        | (refine wpList_store_blk rfl 111 (.tmp 6) (.tmp 34) rfl _ 0 rfl (wvs S) rfl (Blk.new' _ (wvs (List.replicate 64 0)) _ 111 rfl) 64 Tryd.size54 HSL.out (by rw [wvs_length, List.length_replicate]; exact Nat.le_refl _) (wvs_one S) ?_; intro x2 hst2; rw [List.take_zero, List.nil_append, List.drop_of_length_le (by rw [wvs_length, List.length_replicate]; exact Nat.le_refl _), List.append_nil] at hst2; have HX2 : Hid (RT w V x2 ∧ Blk x2 x1.heap.size (wvs S) 111 ∧ PI w g0 Pd x2 ∧ w.heap.size + 1 < x1.heap.size) := Lib.hid ⟨⟨hst2.other (HX1.out.1.1.alloc _) (by have := HX1.out.1.1.lt; omega), hst2.other (HX1.out.1.2.1.alloc _) (by have := HX1.out.1.2.1.lt; omega), hst2.below (HX1.out.1.2.2.alloc HX1.out.1.2.2.size _) HX1.out.1.2.2.size⟩, hst2.1, (HX1.out.2.alloc _).stored hst2 (by have := HX1.out.2.2.2; omega), HX1.out.1.2.1.lt⟩; clear hst2))
      clear HX1 hsl
      have hM : Hid (w.heap.size + 1 < x1.heap.size) := Lib.hid HX2.out.2.2.2
      generalize x1.heap.size = M at HX2 hM ⊢
      obtain ⟨v0, h0⟩ : ∃ v, v = V.getD 0 0 := ⟨_, rfl⟩
      obtain ⟨v1, h1⟩ : ∃ v, v = V.getD 1 0 := ⟨_, rfl⟩
      obtain ⟨v2, h2⟩ : ∃ v, v = V.getD 2 0 := ⟨_, rfl⟩
      obtain ⟨v3, h3⟩ : ∃ v, v = V.getD 3 0 := ⟨_, rfl⟩
      obtain ⟨v4, h4⟩ : ∃ v, v = V.getD 4 0 := ⟨_, rfl⟩
      obtain ⟨v5, h5⟩ : ∃ v, v = V.getD 5 0 := ⟨_, rfl⟩
      obtain ⟨v6, h6⟩ : ∃ v, v = V.getD 6 0 := ⟨_, rfl⟩
      obtain ⟨v7, h7⟩ : ∃ v, v = V.getD 7 0 := ⟨_, rfl⟩
      have hcells : ∀ W : World, RT w V W → W.cell? ⟨w.heap.size + 1, 0, none⟩ = some (.int .u32 v0.toNat) ∧ W.cell? ⟨w.heap.size + 1, 1, none⟩ = some (.int .u32 v1.toNat) ∧ W.cell? ⟨w.heap.size + 1, 2, none⟩ = some (.int .u32 v2.toNat) ∧ W.cell? ⟨w.heap.size + 1, 3, none⟩ = some (.int .u32 v3.toNat) ∧ W.cell? ⟨w.heap.size + 1, 4, none⟩ = some (.int .u32 v4.toNat) ∧ W.cell? ⟨w.heap.size + 1, 5, none⟩ = some (.int .u32 v5.toNat) ∧ W.cell? ⟨w.heap.size + 1, 6, none⟩ = some (.int .u32 v6.toNat) ∧ W.cell? ⟨w.heap.size + 1, 7, none⟩ = some (.int .u32 v7.toNat) := fun W hW => by
        rw [h0, h1, h2, h3, h4, h5, h6, h7]
        have hc : ∀ j, j < 8 → W.cell? ⟨w.heap.size + 1, j, none⟩ = some (.int .u32 (V.getD j 0).toNat) := fun j hj => hW.2.1.cell (wvs_get V j (by rw [HV.out]; omega))
        exact ⟨hc 0 (by omega), hc 1 (by omega), hc 2 (by omega), hc 3 (by omega), hc 4 (by omega), hc 5 (by omega), hc 6 (by omega), hc 7 (by omega)⟩
      have hofL : ofL V = ⟨v0, v1, v2, v3, v4, v5, v6, v7⟩ := by rw [h0, h1, h2, h3, h4, h5, h6, h7]; rfl
      have hVl : V = [v0, v1, v2, v3, v4, v5, v6, v7] := by
        have hl := HV.out
        rw [h0, h1, h2, h3, h4, h5, h6, h7]
        match V, hl with
        | [a, b, c, d, e, f, g, h], _ => rfl
      have HOF := Lib.hid (And.intro hofL hVl)
      have HCS := Lib.hid hcells
      clear h0 h1 h2 h3 h4 h5 h6 h7 hofL hVl hcells
      obtain ⟨c0, c1, c2, c3, c4, c5, c6, c7⟩ := HCS.out x2 HX2.out.1
      go_wp2_with fail
      go_quiet (fail)
      clear c0 c1 c2 c3 c4 c5 c6 c7
      go_wp2_with fail
      go_loopg [7, 8, 9, 10, 11, 12, 13, 14, 15] 64 (fun g s7 s8 s9 s10 s11 s12 s13 s14 s15 wr => ∃ t : Nat, t + g = 64 ∧ s15 = .int .i64 t ∧ (∃ s : S8, s = rnds S t (ofL V) ∧ s7 = .int .u32 s.a.toNat ∧ s8 = .int .u32 s.b.toNat ∧ s9 = .int .u32 s.c.toNat ∧ s10 = .int .u32 s.d.toNat ∧ s11 = .int .u32 s.e.toNat ∧ s12 = .int .u32 s.f.toNat ∧ s13 = .int .u32 s.g.toNat ∧ s14 = .int .u32 s.h.toNat) ∧ RT w V wr ∧ Blk wr M (wvs S) 111 ∧ PI w g0 Pd wr)
      case atStart => exact ⟨0, rfl, rfl, ⟨⟨v0, v1, v2, v3, v4, v5, v6, v7⟩, HOF.out.1.symm.trans (rnds_zero _ _).symm, rfl, rfl, rfl, rfl, rfl, rfl, rfl, rfl⟩, HX2.out.1.drewN _, HX2.out.2.1, HX2.out.2.2.1.drewN _⟩
      case round =>
        clear HX2
        obtain ⟨u, hu, rfl, ⟨s, hs, rfl, rfl, rfl, rfl, rfl, rfl, rfl, rfl⟩, hCI⟩ := hrel
        by_cases hltu : u < 64
        · obtain ⟨g', rfl⟩ : ∃ g', gk = g' + 1 := ⟨gk - 1, by omega⟩
          have hcK := (HK.out.of hCI.1.2.2).cell u hltu
          have hcS := hCI.2.1.cell (wvs_get S u (by have := HSL.out; rw [wvs_length] at this; omega))
          obtain ⟨k, hk⟩ : ∃ k, k = Kt u := ⟨_, rfl⟩
          obtain ⟨x, hx⟩ : ∃ x, x = S.getD u 0 := ⟨_, rfl⟩
          rw [← hk] at hcK
          rw [← hx] at hcS
          have HH := Lib.hid (And.intro hs (And.intro hk hx))
          have HCI := Lib.hid hCI
          clear hs hk hx hCI
          obtain ⟨a, b', c', d, e, f, g2, hh⟩ := s
          dsimp only
          go_wp2_with fail
          go_quiet ((go_at_call 76; (first | (refine quiet_one (fun W => rrotr_i _ 6 _ ?_ (by omega) (by omega) W); rfl) | (refine quiet_one (fun W => rrotr_i _ 11 _ ?_ (by omega) (by omega) W); rfl) | (refine quiet_one (fun W => rrotr_i _ 25 _ ?_ (by omega) (by omega) W); rfl))))
          go_wp2_with (first | ((with_reducible refine (rrotr_i _ 2 _ ?_ (by omega) (by omega) _).mono ?_); rfl; rintro e w' ⟨rfl, m1, rfl⟩) | ((with_reducible refine (rrotr_i _ 13 _ ?_ (by omega) (by omega) _).mono ?_); rfl; rintro e w' ⟨rfl, m2, rfl⟩) | ((with_reducible refine (rrotr_i _ 22 _ ?_ (by omega) (by omega) _).mono ?_); rfl; rintro e w' ⟨rfl, m3, rfl⟩))
          go_roundg g'
          case rel => exact ⟨u + 1, by omega, by go_num, ⟨⟨xx e f g2 hh k x + yy a b' c', a, b', c', d + xx e f g2 hh k x, e, f, g2⟩, by rw [rnds_succ, ← HH.out.1, ← HH.out.2.1, ← HH.out.2.2]; rfl, by simp only [xor_w, and_w, not_w, sumX, sum2]; rfl, rfl, rfl, rfl, by simp only [xor_w, and_w, not_w, sumX, sum2]; rfl, rfl, rfl, rfl⟩, HCI.out.1.drewN _, HCI.out.2.1, HCI.out.2.2.drewN _⟩
          case measure => omega
        · obtain rfl : u = 64 := by omega
          obtain ⟨C, hC⟩ : ∃ C, C = comp V B := ⟨_, rfl⟩
          have hCe : C = addL V (toL s) := by rw [hC, comp, hs, ← HS.out]
          have HC := Lib.hid hC; clear hC
          have HX := Lib.hid hCI; clear hCI
          clear hs
          obtain ⟨a, b', c', d, e, f, g2, hh⟩ := s
          dsimp only
          have hDC : [Value.int .u32 (((v0.toNat : Int) + (a.toNat : Int)) % 4294967296), .int .u32 (((v1.toNat : Int) + (b'.toNat : Int)) % 4294967296), .int .u32 (((v2.toNat : Int) + (c'.toNat : Int)) % 4294967296), .int .u32 (((v3.toNat : Int) + (d.toNat : Int)) % 4294967296), .int .u32 (((v4.toNat : Int) + (e.toNat : Int)) % 4294967296), .int .u32 (((v5.toNat : Int) + (f.toNat : Int)) % 4294967296), .int .u32 (((v6.toNat : Int) + (g2.toNat : Int)) % 4294967296), .int .u32 (((v7.toNat : Int) + (hh.toNat : Int)) % 4294967296)] = wvs C := by
            rw [hCe, HOF.out.2]
            simp only [sum2]
            rfl
          have HDC := Lib.hid hDC
          clear hDC hCe
          obtain ⟨c0, c1, c2, c3, c4, c5, c6, c7⟩ := HCS.out wr HX.out.1
          have hCl : C.length = 8 := by rw [HC.out]; exact comp_length V B HV.out
          have HCL := Lib.hid hCl; clear hCl
          go_wp2_with (refine wpList_store_blk rfl 90 (.tmp 3) (.tmp 146) rfl _ 0 rfl [Value.int .u32 (((v0.toNat : Int) + (a.toNat : Int)) % 4294967296), .int .u32 (((v1.toNat : Int) + (b'.toNat : Int)) % 4294967296), .int .u32 (((v2.toNat : Int) + (c'.toNat : Int)) % 4294967296), .int .u32 (((v3.toNat : Int) + (d.toNat : Int)) % 4294967296), .int .u32 (((v4.toNat : Int) + (e.toNat : Int)) % 4294967296), .int .u32 (((v5.toNat : Int) + (f.toNat : Int)) % 4294967296), .int .u32 (((v6.toNat : Int) + (g2.toNat : Int)) % 4294967296), .int .u32 (((v7.toNat : Int) + (hh.toNat : Int)) % 4294967296)] rfl HX.out.1.2.1 8 Tryd.size30 rfl (by rw [wvs_length, HV.out]; exact Nat.le_refl _) (by rw [HDC.out]; exact wvs_one C) ?_; intro w2 hst2; rw [HDC.out, List.take_zero, List.nil_append, List.drop_of_length_le (by rw [wvs_length, HV.out]; exact Nat.le_refl _), List.append_nil] at hst2; have HN : Hid (RT w C w2 ∧ PI w g0 Pd w2) := Lib.hid ⟨⟨hst2.other HX.out.1.1 (by omega), hst2.1, hst2.below HX.out.1.2.2 (by omega)⟩, HX.out.2.2.stored hst2 (by have := HX.out.2.2.2.1; omega)⟩; clear hst2)
          clear c0 c1 c2 c3 c4 c5 c6 c7
          go_roundg g
          case rel => exact ⟨t + 64, q + 1, by have := HQ.out.1; omega, by have := HQ.out.2; omega, by go_num, ⟨C, HCL.out, by rw [HC.out]; exact HF'.out, HN.out.1⟩, HN.out.2⟩
          case measure => omega
    · obtain ⟨rfl, rfl⟩ : q = N ∧ gk = 0 := by omega
      obtain rfl : V = F := by rw [hvN_zero] at hF; exact hF
      have HT := Lib.hid hT; clear hT
      have HV := Lib.hid hV; clear hV
      have hge : ¬ t < n := by have := HNN.out; omega
      clear hF hB1 htq hq
      have HN5 : Hid (w.heap.size + 1 < wr.heap.size) := Lib.hid HT.out.2.1.lt
      have HS5 : Hid (Blk (wr.alloc (.cells (bs (List.replicate 32 0)).toArray 98)) wr.heap.size (bs (List.replicate 32 0)) 98) := Lib.hid (Blk.new wr _ _)
      have HT5 : Hid (RT w V (wr.alloc (.cells (bs (List.replicate 32 0)).toArray 98))) := Lib.hid (HT.out.alloc _)
      go_wp2_with fail
      generalize wr.heap.size = S at HN5 HS5 ⊢
      go_loopg [19] 32 (fun g s19 wr => ∃ i : Nat, i + g = 32 ∧ s19 = .int .i64 i ∧ RT w V wr ∧ Blk wr S (bs (out i V)) 98)
      case atStart => exact ⟨0, rfl, rfl, HT5.out, by rw [show out 0 V = List.replicate 32 0 from by rw [out]; rfl]; exact HS5.out⟩
      case round =>
        clear HT5 HS5 HT
        obtain ⟨i, hi, rfl, hT, hO⟩ := hrel
        by_cases hlt : i < 32
        · obtain ⟨g, rfl⟩ : ∃ g, gk = g + 1 := ⟨gk - 1, by omega⟩
          have hc := hT.2.1.cell (wvs_get V (i / 4) (by rw [HV.out]; omega))
          obtain ⟨v, hv⟩ : ∃ v, v = V.getD (i / 4) 0 := ⟨_, rfl⟩
          rw [← hv] at hc
          obtain ⟨sh, hsh⟩ : ∃ sh : Nat, (24 : Int) - 8 * ((i : Int) % 4) = (sh : Int) := ⟨24 - 8 * (i % 4), by omega⟩
          have hshN : sh = 24 - 8 * (i % 4) := by omega
          have hsh1 : sh ≤ 24 := by omega
          have HSH := Lib.hid hshN; clear hshN
          have HVV := Lib.hid hv; clear hv
          have HT := Lib.hid hT; clear hT
          have HO := Lib.hid hO; clear hO
          have hq4 : ((i : Int) / 4).toNat = i / 4 := by omega
          obtain ⟨x, hce⟩ : ∃ x, x = obyte V i := ⟨_, rfl⟩
          have HCE := Lib.hid hce; clear hce
          have hu8 : ((v.toNat : Int) / 2 ^ sh) % 256 = (x.toNat : Int) := by
            rw [HCE.out, obyte, ← HVV.out, ← HSH.out]
            have : (v.toNat : Int) / 2 ^ sh = ((v.toNat / 2 ^ sh : Nat) : Int) := by simp
            rw [this]
            simp
          have HU8 := Lib.hid hu8; clear hu8
          have hw32 := w32_lt v
          go_wp2_with (refine wpList_store_int rfl 5 (.tmp 162) (.tmp 161) rfl S i rfl .u8 ((v.toNat : Int) / 2 ^ sh % 256) rfl HO.out (by rw [bs_length, out_length i V (by omega)]; omega) Tryd.size1 ?_; intro w2 hst1; rw [HU8.out, bs_set, HCE.out, out_set i V hlt] at hst1; have HST1 := Lib.hid hst1; clear hst1)
          go_roundg g
          case rel => exact ⟨i + 1, by omega, by go_num, ⟨HST1.out.other HT.out.1 (by have := HN5.out; omega), HST1.out.other HT.out.2.1 (by have := HN5.out; omega), HST1.out.below HT.out.2.2 (by have := HN5.out; omega)⟩, HST1.out.1⟩
          case measure => omega
        · obtain rfl : i = 32 := by omega
          rw [out_all, ← HRF.out] at hO
          have hRl : (bs R).length = 32 := by rw [HRF.out, bs_length, outb_length]
          have HRL := Lib.hid hRl; clear hRl
          have HT := Lib.hid hT; clear hT
          have HO := Lib.hid hO; clear hO
          go_wp2_with (first
            | (refine wpList_load_blk rfl 98 (.tmp 18) rfl _ 0 rfl HO.out _ Tryd.underlying98 rfl 32 Tryd.size24 (by rw [HRL.out]; omega) ?_; rw [List.drop_zero, List.take_of_length_le (by rw [HRL.out]; omega)])
            | (refine wpList_store_blk rfl 98 (.tmp 2) (.tmp 163) rfl _ 0 rfl (bs R) rfl HT.out.1 32 Tryd.size24 HRL.out (by rw [bs_length, List.length_replicate]; omega) (bs_one _) ?_; intro w6 hst6; rw [List.take_zero, List.nil_append, List.drop_of_length_le (by rw [bs_length, List.length_replicate]; omega), List.append_nil] at hst6; have HST6 := Lib.hid hst6; clear hst6))
          refine ret_blk rfl _ rfl HST6.out.1 _ Tryd.underlying98 rfl (by rw [HRL.out]; exact Tryd.size24) rfl ⟨rfl, HST6.out.below HT.out.2.2 (by omega)⟩
theorem rsum_any (m : List UInt8) (A : Option Addr) (n c : Nat) (hn : n = m.length) (hA : A = none → m = []) (hl : m.length ≤ 1099511627776) (w : World) (hr : Rd w A (bs m)) (hK : KR w) :
    Calls Tryd.prog 71 #[.slice A n c] w fun e w' => e = .returned (.agg (bs (sha m)).toArray) ∧ Below w.heap.size w w' := by
  subst hn
  exact rsum_aux m _ _ rfl rfl A c hA hl w hr hK
end Go.Proofs.YtbgcnfikcddcpaaDoor
