/-
  HashStreamsAgree: for every list of pieces, every other string and every number, the law returns true and leaves them as they are; the two tables of constants are as the program's text lays them (the card ties them).
-/
import Derived.Test.YtpidddafbehmpaaDoorHLaw3
import Derived.Test.YtpidddafbehmpaaDoorHJoin
import Derived.Deep.RegionHeld3
namespace Go.Proofs.YtpidddafbehmpaaDoor
open Go.ChangeShapes Go.WideShapes Go.ChangeAt Go.RowKit Go.ChangeMaps
open Sha
set_option linter.unusedVariables false
set_option linter.unusedSimpArgs false
namespace L2
theorem w64 (x : UInt8) : wrap64 (x.toNat : Int) = (x.toNat : Int) := by
  have := x.toNat_lt
  unfold wrap64
  omega
theorem run_cut {P : Program} {t e : TypeId} {i : TypeInfo} (h : P.underlying t = some (.slice e)) (hi : P.info? e = some i) (A : Option Addr) (n k c : Nat) (hk : k ≤ c) (w : World) :
    (Instr.slice t (.slice A n c) none (some (.int .i64 (k : Int))) none).run P w = .ok (.slice A k c) w := by
  have h2 : (k : Int) ≤ (c : Int) := by omega
  have h3 : ((k : Int)).toNat = k := by omega
  cases A <;> simp [Instr.slice, Instr.sliceBounds, Instr.sliceBound, asIntOf, run_underlying h, sizeOf, typeInfo, hi, h2, go_sem] <;> (intro h; omega)
theorem wpList_load_all_if {P : Program} {w : World} {ops : Array Oper} {rest : List Oper} {o : Oper} {a : Act} {Q : Exit → Act → World → Prop} (hw : Region.wanted o (yielded ops a.tmps) = true) (ty : TypeId) (x : Operand) (ho : o.op = .load ty x)
    (g : Nat) (hx : a.eval x = .pointer (some ⟨g, 0, none⟩)) {C : List Value} {T : TypeId} (hb : Blk w g C T) (d : TypeDesc) (hu : P.underlying ty = some d) (hd : d.isRow = true) (hi : (P.info? ty).map (·.size) = some C.length)
    (h : wpList P ops Q rest (a.put o.dst (.agg C.toArray)) w) : wpList P ops Q (o :: rest) a w :=
  wpList_step fun K hK => by
    rw [if_pos hw]
    have hr : w.rangeAt g 0 C := by
      have := hb.range 0 C.length
      rwa [List.drop_zero, List.take_of_length_le (Nat.le_refl _)] at this
    exact wp_load_mid ty x ho g 0 hx _ d hr hu hd hi (hK _ _ h)
theorem rd_take {W : World} {A : Option Addr} {l : List (List UInt8)} (h : Rd W A (l.map fun p => .string (sb p))) (i : Nat) : Rd W A ((l.take i).map fun p => .string (sb p)) := by
  rcases h with h | ⟨b, o, rfl, hc⟩
  · left
    rw [List.map_eq_nil_iff] at h
    subst h
    simp
  · refine .inr ⟨b, o, rfl, fun k v hv => hc k v ?_⟩
    rw [List.map_take, List.getElem?_take] at hv
    split at hv
    · exact hv
    · cases hv
/-- The message of the first i pieces. -/
def pre (l : List (List UInt8)) (i : Nat) : List UInt8 := (l.take i).flatten
theorem pre_zero (l : List (List UInt8)) : pre l 0 = [] := by simp [pre]
theorem pre_all (l : List (List UInt8)) : pre l l.length = l.flatten := by rw [pre, List.take_length]
theorem pre_step (l : List (List UInt8)) (i : Nat) (h : i < l.length) : pre l i ++ l[i] = pre l (i + 1) := by
  rw [pre, pre, List.take_succ_eq_append_getElem h, List.flatten_append]
  simp
theorem pre_le (l : List (List UInt8)) (hl : l.length ≤ 12) (h : ∀ p ∈ l, p.length ≤ 400) (i : Nat) : (pre l i).length ≤ 4800 := by
  have h1 := join_le (l.take i) fun p hp => h p (List.mem_of_mem_take hp)
  have h2 : (l.take i).length ≤ 12 := by rw [List.length_take]; omega
  rw [pre]
  omega
attribute [irreducible] pre
/-- What the worlds behind the streams keep. -/
def Wq (w : World) (B9 B11 B13 : Nat) (SA SB SC : List Value) (wr : World) : Prop := Below w.heap.size w wr ∧ Blk wr B9 SA 34 ∧ Blk wr B11 SB 34 ∧ Blk wr B13 SC 34
theorem Wq.next {w : World} {B9 B11 B13 : Nat} {SA SB SC : List Value} {wr w' : World} (h : Wq w B9 B11 B13 SA SB SC wr) (hb : Below wr.heap.size wr w') : Wq w B9 B11 B13 SA SB SC w' :=
  ⟨below_next h.1 hb, h.2.1.below hb h.2.1.lt, h.2.2.1.below hb h.2.2.1.lt, h.2.2.2.below hb h.2.2.2.lt⟩

set_option maxRecDepth 100000 in
set_option maxHeartbeats 2000000 in
theorem walk_aux (l : List (List UInt8)) (q : List UInt8) (at_ : UInt8) (A : Option Addr) (ca : Nat) (hca : l.length ≤ ca) (hma : ca ≤ maxLen) (hl : l.length ≤ 17592186044416) (hp : ∀ p ∈ l, p.length ≤ 140737488355328) (hq : q.length ≤ 140737488355328) (w : World) (hr : Rd w A (l.map fun p => .string (sb p))) (hK : KH w) (hKR : KR w) :
    Calls Tryd.prog 4 #[.slice A l.length ca, .string (sb q), .int .u8 at_.toNat] w fun e w' => e = .returned (.bool true) ∧ Below w.heap.size w w' := by
  have HFA : Hid (∀ W, Rd W A (l.map fun p => .string (sb p)) → Calls Tryd.prog 13 #[.slice A l.length ca] W fun e w' => e = .returned (.bool (fewB l)) ∧ W = w') := Lib.hid fun W h => few_any l A _ ca rfl (by omega) hp W h
  have HK := Lib.hid (And.intro hK (And.intro hKR hr)); clear hK hKR hr
  have hsq := sb_size q
  cases hfa : fewB l with
  | false =>
    rw [hfa] at HFA
    go_enter Tryd.func4, Tryd.ntmps4
    go_wp2_with (first
      | (refine (sanity_any _ HK.out.1).mono ?_; rintro e w1 ⟨rfl, hb1⟩; have HB1 := Lib.hid hb1; clear hb1)
      | ((with_reducible refine (HFA.out _ ?_).mono ?_); exact (HK.out.2.2.below HB1.out); rintro e w2 ⟨rfl, rfl⟩))
    go_ret
    exact ⟨rfl, HB1.out⟩
  | true =>
    rw [hfa] at HFA
    by_cases hqs : q.length ≤ 400
    · have hqd : decide ((400 : Int) < (q.length : Int)) = false := by simp; omega
      have hF := few_length hfa
      have hl12 : l.length ≤ 12 := hF.1
      obtain ⟨kk, hKd⟩ : ∃ kk, kk = at_.toNat % (l.length + 1) := ⟨_, rfl⟩
      have hKl : kk ≤ l.length := by have := Nat.mod_lt at_.toNat (by omega : 0 < l.length + 1); omega
      have hmod : ((at_.toNat : Int)).tmod ((l.length : Int) + 1) = (kk : Int) := by rw [hKd, Int.tmod_eq_emod_of_nonneg (by omega)]; exact (Int.natCast_emod at_.toNat (l.length + 1)).symm
      have hmod2 : ((at_.toNat : Int)) % ((l.length : Int) + 1) = (kk : Int) := by rw [hKd]; exact (Int.natCast_emod at_.toNat (l.length + 1)).symm
      have hwx := w64 at_
      have hne0 : ¬ ((l.length : Int) + 1 = 0) := by omega
      obtain ⟨S0, hS0⟩ : ∃ S, S = Str [] := ⟨_, rfl⟩
      have HBG : Hid (∀ W, Calls Tryd.prog 14 #[] W fun e w' => e = .returned (.agg S0.toArray) ∧ Below W.heap.size W w') := Lib.hid fun W => by rw [hS0]; exact begin_str W
      have HS0 : Hid (S0 = Str (pre l 0) ∧ S0.length = 73 ∧ ∀ v ∈ S0, v.oneCell' = true) := Lib.hid ⟨by rw [hS0, pre_zero], by rw [hS0, Str_length], by rw [hS0]; exact strm_one _ _ _⟩
      have HPL : Hid (∀ i, (pre l i).length ≤ 4800) := Lib.hid fun i => pre_le l hl12 hF.2 i
      have HF := Lib.hid hF
      clear hF hS0 hKd
      have hz := (zero_of_info Tryd.zero34).1
      go_enter Tryd.func4, Tryd.ntmps4
      go_wp2_with (first
        | (refine (sanity_any _ HK.out.1).mono ?_; rintro e w1 ⟨rfl, hb1⟩; have HB1 := Lib.hid hb1; clear hb1)
        | ((with_reducible refine (HFA.out _ ?_).mono ?_); exact (HK.out.2.2.below HB1.out); rintro e w2 ⟨rfl, rfl⟩)
        | ((with_reducible refine (HBG.out _).mono ?_); rintro e w3 ⟨rfl, hb3⟩; have HB3 : Hid (Below w.heap.size w w3) := Lib.hid (below_next HB1.out hb3); clear hb3)
        | (refine wpList_store_blk rfl 34 (.tmp 9) (.tmp 32) rfl _ 0 rfl S0 rfl (Blk.new' w3 (strm Z8 Z64 0) _ 34 rfl) 73 Tryd.size34 HS0.out.2.1 (by rw [strm_length rfl Z64_length]; omega) HS0.out.2.2 ?_; intro w4 hst; rw [List.take_zero, List.nil_append, List.drop_of_length_le (by rw [strm_length rfl Z64_length]; omega), List.append_nil] at hst; have HX4 : Hid (Below w.heap.size w w4 ∧ Blk w4 w3.heap.size S0 34 ∧ w.heap.size ≤ w3.heap.size) := Lib.hid ⟨hst.below (al HB3.out _) HB3.out.size, hst.1, HB3.out.size⟩; clear hst; generalize w3.heap.size = B9 at HX4 ⊢))
      go_loopg [10] kk (fun g s10 wr => ∃ i : Nat, i + g = kk ∧ i ≤ kk ∧ s10 = .int .i64 i ∧ Blk wr B9 (Str (pre l i)) 34 ∧ Below w.heap.size w wr)
      case atStart => exact ⟨0, by omega, by omega, rfl, by rw [← HS0.out.1]; exact HX4.out.2.1, HX4.out.1⟩
      case round =>
        have hN9 := HX4.out.2.2
        clear HX4
        obtain ⟨i, hi, hiK, rfl, hBS, hBl⟩ := hrel
        by_cases hlt : i < kk
        · obtain ⟨g, rfl⟩ : ∃ g, gk = g + 1 := ⟨gk - 1, by omega⟩
          have hil : i < l.length := by omega
          obtain ⟨b1, o1, rfl, hc1⟩ := strs_cell (HK.out.2.2.below hBl) i hil
          obtain ⟨p, hpe⟩ : ∃ p, p = l[i] := ⟨_, rfl⟩
          rw [← hpe] at hc1
          have HCL : Hid (∀ W, Below w.heap.size w W → W.cell? ⟨b1, o1 + i, none⟩ = some (.string (sb p))) := Lib.hid fun W hb => by
            obtain ⟨b', o', e, h⟩ := strs_cell (HK.out.2.2.below hb) i hil
            injection e with e
            injection e with e1 e2
            rw [hpe, e1, e2]
            exact h
          clear hc1
          obtain ⟨M, hM⟩ : ∃ M, M = pre l i := ⟨_, rfl⟩
          obtain ⟨SM, hSM⟩ : ∃ S, S = Str M := ⟨_, rfl⟩
          obtain ⟨SN, hSN⟩ : ∃ S, S = Str (M ++ p) := ⟨_, rfl⟩
          have hpl : p.length ≤ 400 := HF.out.2 p (by rw [hpe]; exact List.getElem_mem _)
          have HADD : Hid (∀ W, KH W → Calls Tryd.prog 15 #[.agg SM.toArray, .string (sb p)] W fun e w' => e = .returned (.agg SN.toArray) ∧ Below W.heap.size W w') := Lib.hid fun W hk => by rw [hSM, hSN]; exact add_any M p (by have := HPL.out i; rw [hM]; omega) W hk
          rw [← hM, ← hSM] at hBS
          have HNX : Hid (SN = Str (pre l (i + 1)) ∧ SN.length = SM.length ∧ (∀ v ∈ SN, v.oneCell' = true) ∧ SM.length = 73) := Lib.hid ⟨by rw [hSN, hM, hpe, pre_step l i hil], by rw [hSN, hSM, Str_length, Str_length], by rw [hSN]; exact strm_one _ _ _, by rw [hSM, Str_length]⟩
          have HB := Lib.hid (And.intro hBS hBl)
          have hszM : (Tryd.prog.info? 34).map (·.size) = some SM.length := by rw [HNX.out.2.2.2]; exact Tryd.size34
          clear hSM hSN hM hpe hpl hBS hBl
          go_wp2_with fail
          refine wp_region_held_drew (S := fun w' => w'.cell? ⟨b1, o1 + i, none⟩ = some (.string (sb p))) (by kernel_rfl) (HCL.out _ (HB.out.2.drew)) (fun hS0 => ?_)
          refine wpAnyH_take (i := 1) (oi := { dst := some 39, op := Op.move (Operand.tmp 0), type := 27, pos := "law.go:50", after := #[], guard := none }) (v := ?_) rfl (by kernel_rfl) (by kernel_rfl) (by kernel_rfl) (fun _ _ _ h => h) (Or.inl ⟨by rfl, ?_⟩) (by assumption) ?_
          rotate_left
          · (intro w' hSw; (try dsimp only at hSw); go_simp; try with_reducible rfl)
          try simp only [Act.put, List.setIfInBounds_toArray, List.set_cons_zero, List.set_cons_succ]
          refine wpAnyH_take (i := 2) (oi := { dst := some 40, op := Op.move (Operand.tmp 10), type := 3, pos := "law.go:50", after := #[], guard := none }) (v := ?_) rfl (by kernel_rfl) (by kernel_rfl) (by kernel_rfl) (fun _ _ _ h => h) (Or.inl ⟨by rfl, ?_⟩) (by assumption) ?_
          rotate_left
          · (intro w' hSw; (try dsimp only at hSw); go_simp; try with_reducible rfl)
          try simp only [Act.put, List.setIfInBounds_toArray, List.set_cons_zero, List.set_cons_succ]
          refine wpAnyH_take (i := 3) (oi := { dst := some 41, op := Op.indexAddr 27 (Operand.tmp 39) (Operand.tmp 40), type := 0, pos := "law.go:50", after := #[{ on := 1, ground := Ground.data }, { on := 2, ground := Ground.data }], guard := none }) (v := ?_) rfl (by kernel_rfl) (by kernel_rfl) (by kernel_rfl) (fun _ _ _ h => h) (Or.inl ⟨by rfl, ?_⟩) (by assumption) ?_
          rotate_left
          · (intro w' hSw; (try dsimp only at hSw); go_simp; try with_reducible rfl)
          try simp only [Act.put, List.setIfInBounds_toArray, List.set_cons_zero, List.set_cons_succ]
          refine wpAnyH_take (i := 4) (oi := { dst := some 42, op := Op.load 9 (Operand.tmp 41), type := 9, pos := "law.go:50", after := #[{ on := 3, ground := Ground.data }], guard := none }) (v := ?_) rfl (by kernel_rfl) (by kernel_rfl) (by kernel_rfl) (fun _ _ _ h => h) (Or.inl ⟨by rfl, ?_⟩) (by assumption) ?_
          rotate_left
          · (intro w' hSw; (try dsimp only at hSw); go_simp; try with_reducible rfl)
          try simp only [Act.put, List.setIfInBounds_toArray, List.set_cons_zero, List.set_cons_succ]
          refine wpAnyH_ready (rs := [0]) (by kernel_rfl) (by simp) ?_
          refine AllReadyH.cons (o := { dst := some 38, op := Op.load 34 (Operand.tmp 9), type := 34, pos := "law.go:50", after := #[], guard := none }) rfl (fun K hK => ?_) AllReadyH.nil
          refine step_load_blk rfl 34 (.tmp 9) rfl B9 0 rfl HB.out.1.drew _ Tryd.underlying34 rfl 73 Tryd.size34 (by rw [HNX.out.2.2.2]; omega) ?_
          rw [List.drop_zero, List.take_of_length_le (by rw [HNX.out.2.2.2]; omega)]
          refine hK.out _ _ hS0 (fun _ => ?_)
          clear hK K
          try simp only [Act.put, List.setIfInBounds_toArray, List.set_cons_zero, List.set_cons_succ]
          refine wpAnyH_ready (rs := [5]) (by kernel_rfl) (by simp) ?_
          refine AllReadyH.cons (o := { dst := some 43, op := Op.call { callee := Callee.value (Operand.func 15), args := #[Operand.tmp 38, Operand.tmp 42], argTypes := #[34, 9] }, type := 34, pos := "law.go:50", after := #[{ on := 0, ground := Ground.data }, { on := 4, ground := Ground.data }], guard := none }) rfl (fun K hK => ?_) AllReadyH.nil
          go_simp
          go_at_call 15
          refine (HADD.out _ ?_).mono ?_
          · exact (HK.out.1.of (below_drewN HB.out.2 _))
          rintro e x2 ⟨rfl, hb2⟩
          have HX2 : Hid (Blk x2 B9 SM 34 ∧ Below w.heap.size w x2) := Lib.hid ⟨HB.out.1.drew.below hb2 HB.out.1.lt, below_next HB.out.2.drew hb2⟩
          have HC2 : Hid (x2.cell? ⟨b1, o1 + i, none⟩ = some (.string (sb p))) := Lib.hid (HCL.out _ (below_next HB.out.2.drew hb2))
          clear hb2
          refine hK.out _ _ HC2.out (fun hS1 => ?_)
          clear hK K hS0
          try simp only [Act.put, List.setIfInBounds_toArray, List.set_cons_zero, List.set_cons_succ]
          refine wpAnyH_ready (rs := [6]) (by kernel_rfl) (by simp) ?_
          refine AllReadyH.cons (o := { dst := none, op := Op.store 34 (Operand.tmp 9) (Operand.tmp 43), type := 0, pos := "law.go:50", after := #[{ on := 5, ground := Ground.data }, { on := 5, ground := Ground.chain }, { on := 0, ground := Ground.phase }, { on := 1, ground := Ground.phase }, { on := 2, ground := Ground.phase }, { on := 3, ground := Ground.phase }, { on := 4, ground := Ground.phase }, { on := 5, ground := Ground.phase }], guard := none }) rfl (fun K hK => ?_) AllReadyH.nil
          obtain ⟨x3, hst3, hs3⟩ := blk_store_all (P := Tryd.prog) HX2.out.1 SN HNX.out.2.1 HNX.out.2.2.1
          have HX3 : Hid (Blk x3 B9 SN 34 ∧ Below w.heap.size w x3) := Lib.hid ⟨hs3.1, hs3.below HX2.out.2 (by omega)⟩
          clear hs3
          have hSNl : SN.length = 73 := HNX.out.2.1.trans HNX.out.2.2.2
          go_simp
          refine hK.out _ _ (HCL.out _ HX3.out.2) (fun _ => ?_)
          clear hK K hS1 hst3 hSNl
          try simp only [Act.put, List.setIfInBounds_toArray, List.set_cons_zero, List.set_cons_succ]
          refine wpAnyH_done (by kernel_rfl) ?_ _
          go_wp2_with fail
          go_roundg g
          case rel => exact ⟨i + 1, by omega, by omega, by go_num, by rw [← HNX.out.1]; exact HX3.out.1, HX3.out.2⟩
          case measure => omega
        · obtain rfl : i = kk := by omega
          obtain ⟨SB, hSB⟩ : ∃ S, S = Str (pre l i) := ⟨_, rfl⟩
          rw [← hSB] at hBS
          have HSB : Hid (SB = Str (pre l i) ∧ SB.length = 73 ∧ ∀ v ∈ SB, v.oneCell' = true) := Lib.hid ⟨hSB, by rw [hSB, Str_length], by rw [hSB]; exact strm_one _ _ _⟩
          have HB := Lib.hid (And.intro hBS hBl)
          clear hSB hBS hBl
          go_wp2_with (first
            | (refine wpList_load_blk rfl 34 (.tmp 9) rfl B9 0 rfl HB.out.1 _ Tryd.underlying34 rfl 73 Tryd.size34 (by rw [HSB.out.2.1]; omega) ?_; rw [List.drop_zero, List.take_of_length_le (by rw [HSB.out.2.1]; omega)])
            | (refine wpList_store_blk rfl 34 (.tmp 11) (.tmp 44) rfl _ 0 rfl SB rfl (Blk.new' wr (strm Z8 Z64 0) _ 34 rfl) 73 Tryd.size34 HSB.out.2.1 (by rw [strm_length rfl Z64_length]; omega) HSB.out.2.2 ?_; intro w5 hst; rw [List.take_zero, List.nil_append, List.drop_of_length_le (by rw [strm_length rfl Z64_length]; omega), List.append_nil] at hst; have HX5 : Hid (Below w.heap.size w w5 ∧ Blk w5 B9 SB 34 ∧ Blk w5 wr.heap.size SB 34 ∧ B9 < wr.heap.size) := Lib.hid ⟨hst.below (al HB.out.2 _) HB.out.2.size, hst.other (HB.out.1.alloc _) (by have := HB.out.1.lt; omega), hst.1, HB.out.1.lt⟩; clear hst; generalize wr.heap.size = B11 at HX5 ⊢))
          go_loopg [12] (l.length - i) (fun g s12 wz => ∃ j : Nat, j + g = l.length ∧ i ≤ j ∧ s12 = .int .i64 j ∧ Blk wz B9 (Str (pre l j)) 34 ∧ Blk wz B11 SB 34 ∧ Below w.heap.size w wz)
          case atStart => exact ⟨i, by omega, by omega, rfl, by rw [← HSB.out.1]; exact HX5.out.2.1, HX5.out.2.2.1, HX5.out.1⟩
          case round =>
            have hBne := HX5.out.2.2.2
            clear HX5
            obtain ⟨j, hi, hiK, rfl, hBS, hBQ, hBl⟩ := hrel
            by_cases hlt : j < l.length
            · obtain ⟨g, rfl⟩ : ∃ g, gk = g + 1 := ⟨gk - 1, by omega⟩
              have hil : j < l.length := by omega
              obtain ⟨b1, o1, rfl, hc1⟩ := strs_cell (HK.out.2.2.below hBl) j hil
              obtain ⟨p, hpe⟩ : ∃ p, p = l[j] := ⟨_, rfl⟩
              rw [← hpe] at hc1
              have HCL : Hid (∀ W, Below w.heap.size w W → W.cell? ⟨b1, o1 + j, none⟩ = some (.string (sb p))) := Lib.hid fun W hb => by
                obtain ⟨b', o', e, h⟩ := strs_cell (HK.out.2.2.below hb) j hil
                injection e with e
                injection e with e1 e2
                rw [hpe, e1, e2]
                exact h
              clear hc1
              obtain ⟨M, hM⟩ : ∃ M, M = pre l j := ⟨_, rfl⟩
              obtain ⟨SM, hSM⟩ : ∃ S, S = Str M := ⟨_, rfl⟩
              obtain ⟨SN, hSN⟩ : ∃ S, S = Str (M ++ p) := ⟨_, rfl⟩
              have hpl : p.length ≤ 400 := HF.out.2 p (by rw [hpe]; exact List.getElem_mem _)
              have HADD : Hid (∀ W, KH W → Calls Tryd.prog 15 #[.agg SM.toArray, .string (sb p)] W fun e w' => e = .returned (.agg SN.toArray) ∧ Below W.heap.size W w') := Lib.hid fun W hk => by rw [hSM, hSN]; exact add_any M p (by have := HPL.out j; rw [hM]; omega) W hk
              rw [← hM, ← hSM] at hBS
              have HNX : Hid (SN = Str (pre l (j + 1)) ∧ SN.length = SM.length ∧ (∀ v ∈ SN, v.oneCell' = true) ∧ SM.length = 73) := Lib.hid ⟨by rw [hSN, hM, hpe, pre_step l j hil], by rw [hSN, hSM, Str_length, Str_length], by rw [hSN]; exact strm_one _ _ _, by rw [hSM, Str_length]⟩
              have HB := Lib.hid (And.intro hBS (And.intro hBQ hBl))
              have hszM : (Tryd.prog.info? 34).map (·.size) = some SM.length := by rw [HNX.out.2.2.2]; exact Tryd.size34
              clear hSM hSN hM hpe hpl hBS hBl hBQ
              go_wp2_with fail
              refine wp_region_held_drew (S := fun w' => w'.cell? ⟨b1, o1 + j, none⟩ = some (.string (sb p))) (by kernel_rfl) (HCL.out _ (HB.out.2.2.drew)) (fun hS0 => ?_)
              refine wpAnyH_take (i := 1) (oi := { dst := some 53, op := Op.move (Operand.tmp 0), type := 27, pos := "law.go:54", after := #[], guard := none }) (v := ?_) rfl (by kernel_rfl) (by kernel_rfl) (by kernel_rfl) (fun _ _ _ h => h) (Or.inl ⟨by rfl, ?_⟩) (by assumption) ?_
              rotate_left
              · (intro w' hSw; (try dsimp only at hSw); go_simp; try with_reducible rfl)
              try simp only [Act.put, List.setIfInBounds_toArray, List.set_cons_zero, List.set_cons_succ]
              refine wpAnyH_take (i := 2) (oi := { dst := some 54, op := Op.move (Operand.tmp 12), type := 3, pos := "law.go:54", after := #[], guard := none }) (v := ?_) rfl (by kernel_rfl) (by kernel_rfl) (by kernel_rfl) (fun _ _ _ h => h) (Or.inl ⟨by rfl, ?_⟩) (by assumption) ?_
              rotate_left
              · (intro w' hSw; (try dsimp only at hSw); go_simp; try with_reducible rfl)
              try simp only [Act.put, List.setIfInBounds_toArray, List.set_cons_zero, List.set_cons_succ]
              refine wpAnyH_take (i := 3) (oi := { dst := some 55, op := Op.indexAddr 27 (Operand.tmp 53) (Operand.tmp 54), type := 0, pos := "law.go:54", after := #[{ on := 1, ground := Ground.data }, { on := 2, ground := Ground.data }], guard := none }) (v := ?_) rfl (by kernel_rfl) (by kernel_rfl) (by kernel_rfl) (fun _ _ _ h => h) (Or.inl ⟨by rfl, ?_⟩) (by assumption) ?_
              rotate_left
              · (intro w' hSw; (try dsimp only at hSw); go_simp; try with_reducible rfl)
              try simp only [Act.put, List.setIfInBounds_toArray, List.set_cons_zero, List.set_cons_succ]
              refine wpAnyH_take (i := 4) (oi := { dst := some 56, op := Op.load 9 (Operand.tmp 55), type := 9, pos := "law.go:54", after := #[{ on := 3, ground := Ground.data }], guard := none }) (v := ?_) rfl (by kernel_rfl) (by kernel_rfl) (by kernel_rfl) (fun _ _ _ h => h) (Or.inl ⟨by rfl, ?_⟩) (by assumption) ?_
              rotate_left
              · (intro w' hSw; (try dsimp only at hSw); go_simp; try with_reducible rfl)
              try simp only [Act.put, List.setIfInBounds_toArray, List.set_cons_zero, List.set_cons_succ]
              refine wpAnyH_ready (rs := [0]) (by kernel_rfl) (by simp) ?_
              refine AllReadyH.cons (o := { dst := some 52, op := Op.load 34 (Operand.tmp 9), type := 34, pos := "law.go:54", after := #[], guard := none }) rfl (fun K hK => ?_) AllReadyH.nil
              refine step_load_blk rfl 34 (.tmp 9) rfl B9 0 rfl HB.out.1.drew _ Tryd.underlying34 rfl 73 Tryd.size34 (by rw [HNX.out.2.2.2]; omega) ?_
              rw [List.drop_zero, List.take_of_length_le (by rw [HNX.out.2.2.2]; omega)]
              refine hK.out _ _ hS0 (fun _ => ?_)
              clear hK K
              try simp only [Act.put, List.setIfInBounds_toArray, List.set_cons_zero, List.set_cons_succ]
              refine wpAnyH_ready (rs := [5]) (by kernel_rfl) (by simp) ?_
              refine AllReadyH.cons (o := { dst := some 57, op := Op.call { callee := Callee.value (Operand.func 15), args := #[Operand.tmp 52, Operand.tmp 56], argTypes := #[34, 9] }, type := 34, pos := "law.go:54", after := #[{ on := 0, ground := Ground.data }, { on := 4, ground := Ground.data }], guard := none }) rfl (fun K hK => ?_) AllReadyH.nil
              go_simp
              go_at_call 15
              refine (HADD.out _ ?_).mono ?_
              · exact (HK.out.1.of (below_drewN HB.out.2.2 _))
              rintro e x2 ⟨rfl, hb2⟩
              have HX2 : Hid (Blk x2 B9 SM 34 ∧ Blk x2 B11 SB 34 ∧ Below w.heap.size w x2) := Lib.hid ⟨HB.out.1.drew.below hb2 HB.out.1.lt, HB.out.2.1.drew.below hb2 HB.out.2.1.lt, below_next HB.out.2.2.drew hb2⟩
              have HC2 : Hid (x2.cell? ⟨b1, o1 + j, none⟩ = some (.string (sb p))) := Lib.hid (HCL.out _ (below_next HB.out.2.2.drew hb2))
              clear hb2
              refine hK.out _ _ HC2.out (fun hS1 => ?_)
              clear hK K hS0
              try simp only [Act.put, List.setIfInBounds_toArray, List.set_cons_zero, List.set_cons_succ]
              refine wpAnyH_ready (rs := [6]) (by kernel_rfl) (by simp) ?_
              refine AllReadyH.cons (o := { dst := none, op := Op.store 34 (Operand.tmp 9) (Operand.tmp 57), type := 0, pos := "law.go:54", after := #[{ on := 5, ground := Ground.data }, { on := 5, ground := Ground.chain }, { on := 0, ground := Ground.phase }, { on := 1, ground := Ground.phase }, { on := 2, ground := Ground.phase }, { on := 3, ground := Ground.phase }, { on := 4, ground := Ground.phase }, { on := 5, ground := Ground.phase }], guard := none }) rfl (fun K hK => ?_) AllReadyH.nil
              obtain ⟨x3, hst3, hs3⟩ := blk_store_all (P := Tryd.prog) HX2.out.1 SN HNX.out.2.1 HNX.out.2.2.1
              have HX3 : Hid (Blk x3 B9 SN 34 ∧ Blk x3 B11 SB 34 ∧ Below w.heap.size w x3) := Lib.hid ⟨hs3.1, hs3.other HX2.out.2.1 (by omega), hs3.below HX2.out.2.2 (by omega)⟩
              clear hs3
              have hSNl : SN.length = 73 := HNX.out.2.1.trans HNX.out.2.2.2
              go_simp
              refine hK.out _ _ (HCL.out _ HX3.out.2.2) (fun _ => ?_)
              clear hK K hS1 hst3 hSNl
              try simp only [Act.put, List.setIfInBounds_toArray, List.set_cons_zero, List.set_cons_succ]
              refine wpAnyH_done (by kernel_rfl) ?_ _
              go_wp2_with fail
              go_roundg g
              case rel => exact ⟨j + 1, by omega, by omega, by go_num, by rw [← HNX.out.1]; exact HX3.out.1, HX3.out.2.1, HX3.out.2.2⟩
              case measure => omega
            · obtain rfl : j = l.length := by omega
              obtain ⟨WH, hWH⟩ : ∃ W, W = pre l l.length := ⟨_, rfl⟩
              obtain ⟨HM, hHM⟩ : ∃ W, W = pre l i := ⟨_, rfl⟩
              obtain ⟨TQ, hTQ⟩ : ∃ W, W = HM ++ q := ⟨_, rfl⟩
              obtain ⟨SA, hSA⟩ : ∃ S, S = Str WH := ⟨_, rfl⟩
              obtain ⟨SC, hSC⟩ : ∃ S, S = Str TQ := ⟨_, rfl⟩
              obtain ⟨GA, hGA⟩ : ∃ S, S = sha WH := ⟨_, rfl⟩
              obtain ⟨GB, hGB⟩ : ∃ S, S = sha HM := ⟨_, rfl⟩
              obtain ⟨GC, hGC⟩ : ∃ S, S = sha TQ := ⟨_, rfl⟩
              have hWl : WH.length ≤ 4800 := by rw [hWH]; exact HPL.out _
              have hHl : HM.length ≤ 4800 := by rw [hHM]; exact HPL.out _
              have hTl : TQ.length ≤ 5200 := by rw [hTQ, List.length_append]; omega
              have hSB' : SB = Str HM := by rw [HSB.out.1, hHM]
              have HADQ : Hid (∀ W, KH W → Calls Tryd.prog 15 #[.agg SB.toArray, .string (sb q)] W fun e w' => e = .returned (.agg SC.toArray) ∧ Below W.heap.size W w') := Lib.hid fun W hk => by rw [hSB', hSC, hTQ]; exact add_any HM q (by omega) W hk
              have HSA : Hid (∀ W, KH W → Calls Tryd.prog 17 #[.agg SA.toArray] W fun e w' => e = .returned (.agg (bs GA).toArray) ∧ Below W.heap.size W w') := Lib.hid fun W hk => by rw [hSA, hGA]; exact sum_any WH (by omega) W hk
              have HSBB : Hid (∀ W, KH W → Calls Tryd.prog 17 #[.agg SB.toArray] W fun e w' => e = .returned (.agg (bs GB).toArray) ∧ Below W.heap.size W w') := Lib.hid fun W hk => by rw [hSB', hGB]; exact sum_any HM (by omega) W hk
              have HSCC : Hid (∀ W, KH W → Calls Tryd.prog 17 #[.agg SC.toArray] W fun e w' => e = .returned (.agg (bs GC).toArray) ∧ Below W.heap.size W w') := Lib.hid fun W hk => by rw [hSC, hGC]; exact sum_any TQ (by omega) W hk
              have HRS : Hid (∀ (m G : List UInt8), m.length ≤ 5200 → G = sha m → ∀ (B : Addr) (n d : Nat) (W : World), n = (sb m).size → Rd W (some B) (bs m) → KR W → Calls Tryd.prog 12 #[.slice (some B) n d] W fun e w' => e = .returned (.agg (bs G).toArray) ∧ Below W.heap.size W w') := Lib.hid fun m G hm hG B n d W hn h hk => by rw [hG]; exact rsum_any m (some B) n d (by rw [hn]; exact sb_size m) (by simp) (by omega) W h hk
              have HHS : Hid (∀ (B : Addr) (n d : Nat) (W : World), n = (sb WH).size → Rd W (some B) (bs WH) → KH W → Calls Tryd.prog 11 #[.slice (some B) n d] W fun e w' => e = .returned (.agg (bs GA).toArray) ∧ Below W.heap.size W w') := Lib.hid fun B n d W hn h hk => by rw [hGA]; exact hsum_any WH (some B) n d (by rw [hn]; exact sb_size WH) (by omega) W h hk
              have HJW : Hid (∀ W, Rd W A (l.map fun p => .string (sb p)) → Calls Tryd.prog 16 #[.slice A l.length ca] W fun e w' => e = .returned (.string (sb WH)) ∧ W = w') := Lib.hid fun W h => by rw [hWH, pre_all]; exact joined_any l A _ ca rfl hl12 HF.out.2 W h
              have HJH : Hid (∀ W, Rd W A (l.map fun p => .string (sb p)) → Calls Tryd.prog 16 #[.slice A i ca] W fun e w' => e = .returned (.string (sb HM)) ∧ W = w') := Lib.hid fun W h => by
                rw [hHM, pre]
                exact joined_any (l.take i) A _ ca (by rw [List.length_take]; omega) (by rw [List.length_take]; omega) (fun p hp => HF.out.2 p (List.mem_of_mem_take hp)) W (rd_take h i)
              have eA := fun W => eq24 GA GA (by rw [hGA, sha_length]) (by rw [hGA, sha_length]) W
              have eB := fun W => eq24 GB GB (by rw [hGB, sha_length]) (by rw [hGB, sha_length]) W
              have eC := fun W => eq24 GC GC (by rw [hGC, sha_length]) (by rw [hGC, sha_length]) W
              simp only [eqB_refl] at eA eB eC
              have hsa : sb HM ++ sb q = sb TQ := by rw [hTQ, sb_append]
              have hszh := sb_size HM
              have HGS : Hid (GA = sha WH ∧ GB = sha HM ∧ GC = sha TQ ∧ WH.length ≤ 5200 ∧ HM.length ≤ 5200 ∧ TQ.length ≤ 5200) := Lib.hid ⟨hGA, hGB, hGC, by omega, by omega, by omega⟩
              have HLN : Hid (SA.length = 73 ∧ SC.length = 73 ∧ (∀ v ∈ SC, v.oneCell' = true) ∧ SB.length = 73) := Lib.hid ⟨by rw [hSA, Str_length], by rw [hSC, Str_length], by rw [hSC]; exact strm_one _ _ _, HSB.out.2.1⟩
              obtain ⟨ti0, hi0⟩ : ∃ ti, Tryd.prog.info? 9 = some ti := ⟨_, rfl⟩
              have hcut := run_cut (P := Tryd.prog) (t := 27) Tryd.underlying27 hi0 A l.length i ca (by omega)
              rw [← hWH, ← hSA] at hBS
              have HB := Lib.hid (And.intro hBS (And.intro hBQ hBl))
              clear hBS hBQ hBl hWH hHM hTQ hSA hSC hGA hGB hGC hSB' hi0
              go_wp2_with (first
                | (refine wpList_load_blk rfl 34 (.tmp 11) rfl B11 0 rfl HB.out.2.1 _ Tryd.underlying34 rfl 73 Tryd.size34 (by rw [HLN.out.2.2.2]; omega) ?_; rw [List.drop_zero, List.take_of_length_le (by rw [HLN.out.2.2.2]; omega)])
                | ((with_reducible refine (HADQ.out _ ?_).mono ?_); exact (HK.out.1.of HB.out.2.2); rintro e w6 ⟨rfl, hb6⟩; have HX6 : Hid (Below w.heap.size w w6 ∧ Blk w6 B9 SA 34 ∧ Blk w6 B11 SB 34) := Lib.hid ⟨below_next HB.out.2.2 hb6, HB.out.1.below hb6 HB.out.1.lt, HB.out.2.1.below hb6 HB.out.2.1.lt⟩; clear hb6)
                | (refine wpList_store_blk rfl 34 (.tmp 13) (.tmp 60) rfl _ 0 rfl SC rfl (Blk.new' w6 (strm Z8 Z64 0) _ 34 rfl) 73 Tryd.size34 HLN.out.2.1 (by rw [strm_length rfl Z64_length]; omega) HLN.out.2.2.1 ?_; intro w7 hst; rw [List.take_zero, List.nil_append, List.drop_of_length_le (by rw [strm_length rfl Z64_length]; omega), List.append_nil] at hst; have hb7 := hst.below (below_a1 w6 _) (Nat.le_refl _); have HX : Hid (Wq w B9 B11 w6.heap.size SA SB SC w7) := Lib.hid ⟨below_next HX6.out.1 hb7, HX6.out.2.1.below hb7 HX6.out.2.1.lt, HX6.out.2.2.below hb7 HX6.out.2.2.lt, hst.1⟩; clear hst hb7; generalize w6.heap.size = B13 at HX ⊢)
                | ((with_reducible refine (HJW.out _ ?_).mono ?_); exact (HK.out.2.2.below HX.out.1); rintro e w8 ⟨rfl, rfl⟩)
                | ((with_reducible refine (HJH.out _ ?_).mono ?_); exact (HK.out.2.2.below HX.out.1); rintro e w8 ⟨rfl, rfl⟩)
                | (refine wpList_load_all_if (by rfl) 34 (.tmp 9) rfl B9 rfl HX.out.2.1 _ Tryd.underlying34 rfl (by rw [HLN.out.1]; exact Tryd.size34) ?_)
                | (refine wpList_load_all_if (by rfl) 34 (.tmp 11) rfl B11 rfl HX.out.2.2.1 _ Tryd.underlying34 rfl (by rw [HLN.out.2.2.2]; exact Tryd.size34) ?_)
                | (refine wpList_load_all_if (by rfl) 34 (.tmp 13) rfl B13 rfl HX.out.2.2.2 _ Tryd.underlying34 rfl (by rw [HLN.out.2.1]; exact Tryd.size34) ?_)
                | ((with_reducible refine (HSA.out _ ?_).mono ?_); exact (HK.out.1.of HX.out.1); rintro e v1 ⟨rfl, hb⟩; replace HX : Hid (Wq w B9 B11 B13 SA SB SC v1) := Lib.hid (HX.out.next hb); clear hb; obtain ⟨cc, v2, hcv, hrd, hbl⟩ := conv_back (P := Tryd.prog) (src := 9) (dst := 22) Tryd.underlying9 Tryd.underlying22 Tryd.underlying5 v1 (sb WH); rw [sb_list] at hrd; have HRV : Hid (Rd v2 (some ⟨v1.heap.size, 0, none⟩) (bs WH) ∧ WH.length ≤ 5200) := Lib.hid ⟨hrd, by first | exact HGS.out.2.2.2.1 | exact HGS.out.2.2.2.2.1 | exact HGS.out.2.2.2.2.2⟩; replace HX : Hid (Wq w B9 B11 B13 SA SB SC v2) := Lib.hid (HX.out.next hbl); clear hrd hbl)
                | ((with_reducible refine (HSBB.out _ ?_).mono ?_); exact (HK.out.1.of HX.out.1); rintro e v1 ⟨rfl, hb⟩; replace HX : Hid (Wq w B9 B11 B13 SA SB SC v1) := Lib.hid (HX.out.next hb); clear hb; obtain ⟨cc, v2, hcv, hrd, hbl⟩ := conv_back (P := Tryd.prog) (src := 9) (dst := 22) Tryd.underlying9 Tryd.underlying22 Tryd.underlying5 v1 (sb HM); rw [sb_list] at hrd; have HRV : Hid (Rd v2 (some ⟨v1.heap.size, 0, none⟩) (bs HM) ∧ HM.length ≤ 5200) := Lib.hid ⟨hrd, by first | exact HGS.out.2.2.2.1 | exact HGS.out.2.2.2.2.1 | exact HGS.out.2.2.2.2.2⟩; replace HX : Hid (Wq w B9 B11 B13 SA SB SC v2) := Lib.hid (HX.out.next hbl); clear hrd hbl)
                | ((with_reducible refine (HSCC.out _ ?_).mono ?_); exact (HK.out.1.of HX.out.1); rintro e v1 ⟨rfl, hb⟩; replace HX : Hid (Wq w B9 B11 B13 SA SB SC v1) := Lib.hid (HX.out.next hb); clear hb; obtain ⟨cc, v2, hcv, hrd, hbl⟩ := conv_back (P := Tryd.prog) (src := 9) (dst := 22) Tryd.underlying9 Tryd.underlying22 Tryd.underlying5 v1 (sb TQ); rw [sb_list] at hrd; have HRV : Hid (Rd v2 (some ⟨v1.heap.size, 0, none⟩) (bs TQ) ∧ TQ.length ≤ 5200) := Lib.hid ⟨hrd, by first | exact HGS.out.2.2.2.1 | exact HGS.out.2.2.2.2.1 | exact HGS.out.2.2.2.2.2⟩; replace HX : Hid (Wq w B9 B11 B13 SA SB SC v2) := Lib.hid (HX.out.next hbl); clear hrd hbl)
                | (go_at_call 12; (first | refine (HRS.out _ _ HRV.out.2 HGS.out.1 _ _ _ _ rfl HRV.out.1 (HK.out.2.1.of HX.out.1)).mono ?_ | refine (HRS.out _ _ HRV.out.2 HGS.out.2.1 _ _ _ _ rfl HRV.out.1 (HK.out.2.1.of HX.out.1)).mono ?_ | refine (HRS.out _ _ HRV.out.2 HGS.out.2.2.1 _ _ _ _ rfl HRV.out.1 (HK.out.2.1.of HX.out.1)).mono ?_); rintro e v3 ⟨rfl, hb⟩; replace HX : Hid (Wq w B9 B11 B13 SA SB SC v3) := Lib.hid (HX.out.next hb); clear hb)
                | (go_at_call 11; refine (HHS.out _ _ _ _ rfl HRV.out.1 (HK.out.1.of HX.out.1)).mono ?_; rintro e v3 ⟨rfl, hb⟩; replace HX : Hid (Wq w B9 B11 B13 SA SB SC v3) := Lib.hid (HX.out.next hb); clear hb))
              go_ret
              exact ⟨rfl, HX.out.1⟩


    · have hqd : decide ((400 : Int) < (q.length : Int)) = true := by simp; omega
      go_enter Tryd.func4, Tryd.ntmps4
      go_wp2_with (first
        | (refine (sanity_any _ HK.out.1).mono ?_; rintro e w1 ⟨rfl, hb1⟩; have HB1 := Lib.hid hb1; clear hb1)
        | ((with_reducible refine (HFA.out _ ?_).mono ?_); exact (HK.out.2.2.below HB1.out); rintro e w2 ⟨rfl, rfl⟩))
      go_ret
      exact ⟨rfl, HB1.out⟩
set_option maxRecDepth 100000 in
theorem contract (H : Type) (enc : TypeId × Value → H) (W : World) (base : Nat) (args : Array Value) (ds gs : List (DataW H)) (before : List MemPlace)
    (hval : ∀ (j : Nat) t v, Tryd.f4.params[j]? = some t → args[j]? = some v → Value.okWide Tryd.prog W .any base t v)
    (hW : DataW.Whole enc Tryd.prog Tryd.f4.params.toList Rows.hashStreamsAgreeSpec.vars false W args.toList ds gs before)
    (hsz : (DataW.weightsEach Tryd.prog (Tryd.f4.params.toList ++ Rows.hashStreamsAgreeSpec.plain.varTypes Tryd.prog) (ds ++ gs)).all (· ≤ reachBytes) = true) (hK : KH W ∧ KR W) :
    Calls Tryd.prog 4 args W fun e W' => ∃ v, e = .returned v ∧ Rows.hashStreamsAgreeSpec.post enc Tryd.prog Tryd.f4 false true false false W args v W' := by
  have hW' := hW
  obtain ⟨p, q, hA0, hV, rfl, hfz, hnd⟩ := hW
  have hA : DataW.TrodAll enc Tryd.prog W 0 (fun _ => true) true Tryd.f4.params.toList args.toList ds p := hA0
  rw [Tryd.params4] at hA hval hsz
  obtain ⟨v0, v1, v2, d0, d1, d2, p0, p1, p2, rfl, rfl, rfl, h0, h1, h2⟩ := trodAll_three hA
  obtain ⟨rfl, rfl⟩ := trodVars_none hV
  obtain ⟨A, l, c, rfl, hr, hc, hm, hreach⟩ := open_parts (hval 0 27 v0 rfl rfl) h0
  obtain ⟨hl, hp⟩ := hreach hsz (j := 0) rfl rfl
  obtain ⟨s1, rfl, rfl, rfl, ws1⟩ := open_string Tryd.underlying9 (hval 1 9 v1 rfl rfl) h1
  have hs1 := sized_string hsz (j := 1) (t := 9) rfl rfl
  obtain ⟨n, rfl, rfl, rfl, hn⟩ := open_int Tryd.underlying5 (hval 2 5 v2 rfl rfl) h2
  obtain ⟨u, rfl⟩ : ∃ u : UInt8, n = (u.toNat : Int) := by
    have h1 : IntKind.u8.min = 0 := rfl
    have h2 : IntKind.u8.max = 255 := rfl
    simp only [Lit.wf, Bool.and_eq_true, decide_eq_true_eq, h1, h2] at hn
    refine ⟨UInt8.ofNat n.toNat, ?_⟩
    have e : (UInt8.ofNat n.toNat).toNat = n.toNat := UInt8.toNat_ofNat_of_lt' (by have : UInt8.size = 256 := rfl; omega)
    rw [e]
    omega
  have hqq : s1.data.toList.length ≤ 140737488355328 := Nat.le_trans (m := 140737488351232) (by simpa [reachBytes] using hs1) (by omega)
  refine (walk_aux l s1.data.toList u A c hc hm hl hp hqq W hr hK.1 hK.2).mono fun e W' ⟨he, hb⟩ => ⟨_, he, ?_⟩
  exact law_post rfl rfl (by kernel_rfl) hW' rfl hb

set_option maxRecDepth 100000 in
theorem lifted (os : Os) (started : os.Started) (H : Type) (enc : TypeId × Value → H) :
    ReturnsInHanded {} Tryd.checked os 4 .any (fun w args => (Rows.hashStreamsAgreeSpec.pre enc Tryd.prog Tryd.f4 [] false w args ∧ laidMetH Tryd.prog laid2 w) ∧ sizedMet enc Tryd.prog Tryd.f4 (OpenSpec.ofChange Rows.hashStreamsAgreeSpec) false w args)
      (Rows.hashStreamsAgreeSpec.post enc Tryd.prog Tryd.f4 false true false false) := by
  refine returnsInHanded_of_change_and (C := Tryd.checked) (X := fun w _ => laidMetH Tryd.prog laid2 w) (fun _ _ _ hh h => h.of_heap hh) Tryd.own started (by kernel_rfl) Tryd.func4
    (ChangeSpec.witness_shaped (enc := enc) (C := Tryd.checked) (os := os) (X := fun w _ => laidMetH Tryd.prog laid2 w) false (World.doorLaid Tryd.prog 400 os) #[.slice none 0 0, .string ByteArray.empty, .int .u8 0] 8 rfl (World.shaped_of_RefB (by kernel_rfl) (by kernel_rfl)) (by kernel_rfl) (by kernel_rfl) (by kernel_rfl) (door_met2 os _)) ?_
  intro W base args ds gs before hval hW _ hsz hL _
  exact contract H enc W base args ds gs before hval hW hsz (of_laid2 hL)

theorem row : Rows.HashStreamsAgreeSaid :=
  OpenClaim.holds_of_wide 4 Tryd.f4 rfl rfl rfl rfl rfl rfl rfl ⟨rfl, rfl, rfl, rfl, rfl⟩ rfl rfl rfl rfl rfl (by kernel_rfl) Tryd.func4 (by kernel_rfl)
    (of_decide_eq_true (by kernel_rfl)) (by unfold Func.isWrapper; first | (rw [if_pos (by decide +kernel)]; kernel_rfl) | (rw [if_neg (by decide +kernel)]; exact ⟨rfl, rfl⟩))
    (fun os started H enc _ => lifted os started H enc)

theorem proved : Rows.HashStreamsAgreeCardSaid :=
  Claim7.holds_tied_plain_at .later [] [.data, .data] true (true, "6fa3fdd116d3381a5e582ac1ee652fca5a46acc6e7226d526a164f01037ac487") false
    row (fun _ h => by cases h) (by kernel_rfl) (fun _ h => by cases h) hashStreamsAgree_row_tie rfl ⟨rfl, rfl⟩ (by kernel_rfl) rfl
    (fun f fn hf hfn => by
      obtain rfl : f = 4 := Option.some.inj ((show Tryd.prog.funcNamed "wordbook/wordbooklaw02.HashStreamsAgree" = some 4 by kernel_rfl).symm.trans hf) |>.symm
      obtain rfl : fn = Tryd.f4 := (Option.some.inj (Tryd.func4.symm.trans hfn)).symm
      exact ⟨by kernel_rfl, fun j t ht => by
        rw [Tryd.params4] at ht
        have hm : t ∈ [27, 9, 5] := by simpa using Array.mem_of_getElem? ht
        have hall : ([27, 9, 5].all fun u => !Tryd.prog.wantsStandIn u) = true := by kernel_rfl
        exact (show Tryd.prog.wantsStandIn t = false by simpa using List.all_eq_true.1 hall t hm)⟩)
    (by kernel_rfl)
end L2
end Go.Proofs.YtpidddafbehmpaaDoor
