/-
  The walk of hash.Of.
-/
import Derived.Test.YtkaaejfochdjcaaDoorHText
import Derived.Deep.DeepCutAuto
import Derived.Deep.RegionLaw
namespace Go.Proofs.YtkaaejfochdjcaaDoor
open Go.RowKit
set_option linter.unusedVariables false
namespace Sha
def tagb (tag : Int) : UInt8 := UInt8.ofNat (tag % 256).toNat
def input (tag : Int) (parts : List (List UInt8)) : List UInt8 := tagb tag :: parts.flatMap eB
def dig (tag : Int) (parts : List (List UInt8)) : List UInt8 := (sha (input tag parts)).take 16
theorem dig_length (tag : Int) (parts : List (List UInt8)) : (dig tag parts).length = 16 := by rw [dig, List.length_take, sha_length]; rfl
theorem tagb_toNat (tag : Int) : ((tagb tag).toNat : Int) = tag % 256 := by
  have h1 := Int.emod_nonneg tag (by omega : (256 : Int) ≠ 0)
  have h2 := Int.emod_lt_of_pos tag (by omega : (0 : Int) < 256)
  simp [tagb]
  omega
attribute [irreducible] dig input
end Sha
open Sha
theorem len_prefix (tb : UInt8) (parts : List (List UInt8)) (i : Nat) (h : i < parts.length) : (tb :: (parts.take i).flatMap eB ++ eB parts[i]).length ≤ (tb :: parts.flatMap eB).length := by
  have e : parts = parts.take i ++ parts[i] :: parts.drop (i + 1) := by rw [← List.drop_eq_getElem_cons h, List.take_append_drop]
  have e2 : (parts.flatMap eB).length = ((parts.take i).flatMap eB).length + (eB parts[i]).length + ((parts.drop (i + 1)).flatMap eB).length := by
    conv => lhs; rw [e]
    simp only [List.flatMap_append, List.flatMap_cons, List.length_append]
    omega
  simp only [List.cons_append, List.length_cons, List.length_append]
  omega
theorem step_load_blk {P : Program} {w : World} {ops : Array Oper} {o : Oper} {a : Act} {K : Act → World → Prop} {Q : Exit → Act → World → Prop} {E : Prop} (hgd : o.guard = none) (ty : TypeId) (x : Operand) (ho : o.op = .load ty x)
    (g j : Nat) (hx : a.eval x = .pointer (some ⟨g, j, none⟩)) {C : List Value} {T : TypeId} (hb : Blk w g C T) (d : TypeDesc) (hu : P.underlying ty = some d) (hd : d.isRow = true) (n : Nat) (hi : (P.info? ty).map (·.size) = some n) (hn : j + n ≤ C.length)
    (h : K (a.put o.dst (.agg ((C.drop j).take n).toArray)) w) :
    if Region.wanted o (yielded ops a.tmps) = true then Oper.wp P o a w K Q else E := by
  rw [if_pos (by simp [Region.wanted, hgd])]
  exact wp_load_mid ty x ho g j hx _ d (hb.range j n) hu hd (by rw [hi, List.length_take, List.length_drop]; congr 1; omega) h
theorem Tryd.size44 : (Tryd.prog.info? 58).map (·.size) = some 16 := by kernel_rfl
theorem slice_arr_h {P : Program} {t e : TypeId} {n : Nat} (hu : P.underlying t = some (.array n e)) (hs : (P.info? e).map (·.size) = some 1) (b h : Nat) (hh : h ≤ n) (kh : IntKind) (H : Int) (hH : H = (h : Int)) (w : World) :
    (Instr.sliceAt t (.pointer (some ⟨b, 0, none⟩)) none (some (.int kh H)) none).run P w = .ok (.slice (some ⟨b, 0, none⟩) h n) w := by
  subst hH
  cases hq : P.info? e with
  | none => simp [hq] at hs
  | some i => simp [Instr.sliceAt, Instr.sureAddr, run_underlying hu, Instr.sliceBounds, run_sliceBound, sizeOf, typeInfo, hq, hh, Addr.add_mid]
theorem sl24_16 (b : Nat) (w : World) : (Instr.sliceAt 91 (.pointer (some ⟨b, 0, none⟩)) none (some (.int .i64 16)) none).run Tryd.prog w = .ok (.slice (some ⟨b, 0, none⟩) 16 32) w :=
  slice_arr_h (P := Tryd.prog) (t := 91) Tryd.underlying91 Tryd.size1 b 16 (by omega) .i64 16 rfl w
theorem arr44 (b : Nat) (w : World) : (Instr.arrayAt 58 (.slice (some ⟨b, 0, none⟩) 16 32)).run Tryd.prog w = .ok (.pointer (some ⟨b, 0, none⟩)) w := by
  simp [Instr.arrayAt, run_underlying Tryd.underlying58]
theorem al {w cur : World} (h : Below w.heap.size w cur) (o : Obj) : Below w.heap.size w (cur.alloc o) := h.alloc h.size o
/-- A new stream variable. -/
def Nst (w v : World) (B : Nat) : Prop := w.heap.size < B ∧ Blk v B (strm Z8 Z64 0) 87
theorem Nst.step {w v v' : World} {B : Nat} (h : Nst w v B) (hb : Below v.heap.size v v') : Nst w v' B := ⟨h.1, h.2.below hb h.2.lt⟩
theorem Nst.new {w v : World} {B : Nat} (h : w.heap.size < v.heap.size) (hB : B = v.heap.size) : Nst w (v.alloc (.cells (strm Z8 Z64 0).toArray 87)) B := by subst hB; exact ⟨h, Blk.new v _ _⟩
theorem Nst.al {w v : World} {B : Nat} (h : Nst w v B) (o : Obj) : Nst w (v.alloc o) B := ⟨h.1, h.2.alloc o⟩
/-- A new slice of the tag alone. -/
def Ntg (v : World) (B : Nat) (b : UInt8) : Prop := Blk v B (bs [b]) 5
theorem Ntg.step {v v' : World} {B : Nat} {b : UInt8} (h : Ntg v B b) (hb : Below v.heap.size v v') : Ntg v' B b := h.below hb h.lt
theorem Ntg.new (v : World) (B : Nat) (b : UInt8) (hB : B = v.heap.size) : Ntg (v.alloc (.cells #[.int .u8 b.toNat] 5)) B b := by subst hB; exact Blk.new' v (bs [b]) _ _ rfl
theorem Ntg.al {v : World} {B : Nat} {b : UInt8} (h : Ntg v B b) (o : Obj) : Ntg (v.alloc o) B b := h.alloc o
theorem conv_tg {v : World} {B : Nat} {b : UInt8} (h : Ntg v B b) : (convert 53 9 (.slice (some ⟨B, 0, none⟩) 1 1)).run Tryd.prog v = .ok (.string (sb [b])) v := conv_blk (n := 1) (l := [b]) 1 h rfl

set_option maxRecDepth 100000 in
set_option maxHeartbeats 4000000 in
theorem of_aux (tag : Int) (parts : List (List UInt8)) (A : Option Addr) (c : Nat) (R G : List UInt8) (hG : G = sha (input tag parts)) (hR : R = dig tag parts) (hc : parts.length ≤ c) (hm : c ≤ maxLen) (hp : ∀ p ∈ parts, p.length ≤ 1099511627776) (hlen : (input tag parts).length < 288230376151711744) (w : World) (hr : Rd w A (parts.map fun p => .string (sb p))) (hK : KH w) :
    Calls Tryd.prog 35 #[.int .i64 tag, .slice A parts.length c] w fun e w' => e = .returned (.agg (bs R).toArray) ∧ Below w.heap.size w w' := by
  have hz := (zero_of_info Tryd.zero34).1
  obtain ⟨tb, htb⟩ : ∃ b, b = tagb tag := ⟨_, rfl⟩
  have htn := tagb_toNat tag
  rw [← htb] at htn
  have hwr : IntKind.u8.wrap tag = (tb.toNat : Int) := by rw [IntKind.wrap_u8, htn]
  have htn' := htn.symm
  clear htn
  obtain ⟨S0, hS0⟩ : ∃ S, S = Str [] := ⟨_, rfl⟩
  obtain ⟨S1, hS1⟩ : ∃ S, S = Str [tb] := ⟨_, rfl⟩
  have HBG := Lib.hid (fun W => by have := begin_str W; rw [← hS0] at this; exact this)
  have HA1 := Lib.hid (fun W hk => by have := begin_add [tb] (by simp) W hk; rw [← hS0, ← hS1] at this; exact this)
  have hS1l : S1.length = 73 := by rw [hS1, Str_length]
  have hS1o : ∀ v ∈ S1, v.oneCell' = true := by rw [hS1]; exact strm_one _ _ _
  have HS1 := Lib.hid (And.intro hS1 (And.intro hS1l hS1o)); clear hS0 hS1 hS1l hS1o
  have HH := Lib.hid (And.intro hG (And.intro hR (And.intro hp (And.intro hlen htb)))); clear hG hR hp hlen htb
  have HRD := Lib.hid hr; clear hr
  have HK := Lib.hid hK; clear hK
  have HC : Hid (Below w.heap.size w (w.alloc (.cells #[.int .u8 0, .int .u8 0, .int .u8 0, .int .u8 0, .int .u8 0, .int .u8 0, .int .u8 0, .int .u8 0, .int .u8 0, .int .u8 0, .int .u8 0, .int .u8 0, .int .u8 0, .int .u8 0, .int .u8 0, .int .u8 0] 58))) := Lib.hid (below_a1 w _)
  have HD : Hid (Blk (w.alloc (.cells #[.int .u8 0, .int .u8 0, .int .u8 0, .int .u8 0, .int .u8 0, .int .u8 0, .int .u8 0, .int .u8 0, .int .u8 0, .int .u8 0, .int .u8 0, .int .u8 0, .int .u8 0, .int .u8 0, .int .u8 0, .int .u8 0] 58)) w.heap.size (bs (List.replicate 16 0)) 58) := Lib.hid (Blk.new' w _ _ _ rfl)
  go_enter Tryd.func35, Tryd.ntmps35
  go_upto_region 1 with fail
  go_cut [5] (fun s5 wx => ∃ B, s5 = .pointer (some ⟨B, 0, none⟩) ∧ w.heap.size < B ∧ Blk wx B (Str [tb]) 87 ∧ Blk wx w.heap.size (bs (List.replicate 16 0)) 58 ∧ Below w.heap.size w wx)
  case first =>
    generalize w.alloc (.cells #[.int .u8 0, .int .u8 0, .int .u8 0, .int .u8 0, .int .u8 0, .int .u8 0, .int .u8 0, .int .u8 0, .int .u8 0, .int .u8 0, .int .u8 0, .int .u8 0, .int .u8 0, .int .u8 0, .int .u8 0, .int .u8 0] 58) = W0 at HC HD ⊢
    have HC0 : Hid (Below w.heap.size w W0.drew) := Lib.hid HC.out.drew
    have HD0 : Hid (Blk W0.drew w.heap.size (bs (List.replicate 16 0)) 58) := Lib.hid HD.out.drew
    have hcvA : ∀ (v : World) (g : Nat), g = v.heap.size → (convert 53 9 (.slice (some ⟨g, 0, none⟩) 1 1)).run Tryd.prog (v.alloc (.cells #[.int .u8 tb.toNat] 5)) = .ok (.string (sb [tb])) (v.alloc (.cells #[.int .u8 tb.toNat] 5)) := fun v g h => conv_tg (Ntg.new v g tb h)
    have hcvB : ∀ (v : World) (g : Nat) (o : Obj), g = v.heap.size → (convert 53 9 (.slice (some ⟨g, 0, none⟩) 1 1)).run Tryd.prog ((v.alloc (.cells #[.int .u8 tb.toNat] 5)).alloc o) = .ok (.string (sb [tb])) ((v.alloc (.cells #[.int .u8 tb.toNat] 5)).alloc o) := fun v g o h => conv_tg ((Ntg.new v g tb h).al o)
    have hcvA' : ∀ (v : World) (g : Nat), g = v.heap.size → (convert 53 9 (.slice (some ⟨g, 0, none⟩) 1 1)).run Tryd.prog (v.alloc (.cells #[.int .u8 tb.toNat] 5)).drew = .ok (.string (sb [tb])) (v.alloc (.cells #[.int .u8 tb.toNat] 5)).drew := fun v g h => conv_tg (Ntg.new v g tb h)
    have hcvB' : ∀ (v : World) (g : Nat) (o : Obj), g = v.heap.size → (convert 53 9 (.slice (some ⟨g, 0, none⟩) 1 1)).run Tryd.prog ((v.alloc (.cells #[.int .u8 tb.toNat] 5)).alloc o).drew = .ok (.string (sb [tb])) ((v.alloc (.cells #[.int .u8 tb.toNat] 5)).alloc o).drew := fun v g o h => conv_tg ((Ntg.new v g tb h).al o)
    have hl73 := HS1.out.2.1
    have HSL : Hid (S1.length = (strm Z8 Z64 0).length) := Lib.hid (by rw [strm_length rfl Z64_length, hl73])
    go_region_with (first
  | (go_at_call 60; refine (HBG.out _).mono ?_; rintro e v1 ⟨rfl, hbx⟩; have HC1 : Hid (Below w.heap.size w v1) := Lib.hid (by first | exact below_next HC0.out hbx | exact below_next (al HC0.out _) hbx | exact below_next (al (al HC0.out _) _) hbx); have HD1 : Hid (Blk v1 w.heap.size (bs (List.replicate 16 0)) 58) := Lib.hid (by first | exact HD0.out.below hbx HD0.out.lt | exact (HD0.out.alloc _).below hbx (HD0.out.alloc _).lt | exact ((HD0.out.alloc _).alloc _).below hbx ((HD0.out.alloc _).alloc _).lt); (first | (have HT1 := Lib.hid ((Ntg.new W0.drew W0.heap.size tb rfl).step hbx); have hcvt1 := conv_tg HT1.out; have hcvs1 := fun o => conv_tg (HT1.out.al o)) | (have HT1 := Lib.hid (((Ntg.new W0.drew W0.heap.size tb rfl).al _).step hbx); have hcvt1 := conv_tg HT1.out; have hcvs1 := fun o => conv_tg (HT1.out.al o)) | (have HT1 := Lib.hid ((Ntg.new (W0.drew.alloc (.cells (strm Z8 Z64 0).toArray 87)) (W0.heap.size + 1) tb (by simp)).step hbx); have hcvt1 := conv_tg HT1.out; have hcvs1 := fun o => conv_tg (HT1.out.al o)) | skip); (first | (have HL1 := Lib.hid ((Nst.new (B := W0.heap.size) HD0.out.lt rfl).step hbx)) | (have HL1 := Lib.hid (((Nst.new (B := W0.heap.size) HD0.out.lt rfl).al _).step hbx)) | (have HL1 := Lib.hid ((Nst.new (B := W0.heap.size + 1) (HD0.out.alloc _).lt (by simp)).step hbx)) | skip); clear hbx)
  | (go_at_call 61; (with_reducible refine (HA1.out _ ?_).mono ?_); (first | exact (HK.out.below HC1.out HK.out.2) | exact (HK.out.below (al HC1.out _) HK.out.2) | exact (HK.out.below (al (al HC1.out _) _) HK.out.2)); rintro e v2 ⟨rfl, hbx⟩; have HC2 : Hid (Below w.heap.size w v2) := Lib.hid (by first | exact below_next HC1.out hbx | exact below_next (al HC1.out _) hbx | exact below_next (al (al HC1.out _) _) hbx); have HD2 : Hid (Blk v2 w.heap.size (bs (List.replicate 16 0)) 58) := Lib.hid (by first | exact HD1.out.below hbx HD1.out.lt | exact (HD1.out.alloc _).below hbx (HD1.out.alloc _).lt | exact ((HD1.out.alloc _).alloc _).below hbx ((HD1.out.alloc _).alloc _).lt); (first | (have HT2 := Lib.hid (HT1.out.step hbx); have hcvt2 := conv_tg HT2.out; have hcvs2 := fun o => conv_tg (HT2.out.al o)) | (have HT2 := Lib.hid ((HT1.out.al _).step hbx); have hcvt2 := conv_tg HT2.out; have hcvs2 := fun o => conv_tg (HT2.out.al o)) | (have HT2 := Lib.hid ((Ntg.new v1 v1.heap.size tb rfl).step hbx); have hcvt2 := conv_tg HT2.out; have hcvs2 := fun o => conv_tg (HT2.out.al o)) | (have HT2 := Lib.hid (((Ntg.new v1 v1.heap.size tb rfl).al _).step hbx); have hcvt2 := conv_tg HT2.out; have hcvs2 := fun o => conv_tg (HT2.out.al o)) | (have HT2 := Lib.hid ((Ntg.new (v1.alloc (.cells (strm Z8 Z64 0).toArray 87)) (v1.heap.size + 1) tb (by simp)).step hbx); have hcvt2 := conv_tg HT2.out; have hcvs2 := fun o => conv_tg (HT2.out.al o)) | skip); (first | (have HL2 := Lib.hid (HL1.out.step hbx)) | (have HL2 := Lib.hid ((HL1.out.al _).step hbx)) | (have HL2 := Lib.hid ((Nst.new (B := v1.heap.size) HD1.out.lt rfl).step hbx)) | (have HL2 := Lib.hid (((Nst.new (B := v1.heap.size) HD1.out.lt rfl).al _).step hbx)) | (have HL2 := Lib.hid ((Nst.new (B := v1.heap.size + 1) (HD1.out.alloc _).lt (by simp)).step hbx)) | skip); (first | (obtain ⟨w3, hst3, hs3⟩ := blk_store_all (P := Tryd.prog) HL2.out.2 S1 HSL.out HS1.out.2.2; have HF : Hid (w.heap.size < _ ∧ Blk w3 _ S1 _ ∧ Blk w3 w.heap.size (bs (List.replicate 16 0)) 58 ∧ Below w.heap.size w w3)   := Lib.hid ⟨HL2.out.1, hs3.1, hs3.other HD2.out (by have := HL2.out.1; omega), hs3.below HC2.out (Nat.le_of_lt HL2.out.1)⟩) | (obtain ⟨w3, hst3, hs3⟩ := blk_store_all (P := Tryd.prog) (Nst.new (B := v2.heap.size) HD2.out.lt rfl).2 S1 HSL.out HS1.out.2.2; have HF : Hid (w.heap.size < _ ∧ Blk w3 _ S1 _ ∧ Blk w3 w.heap.size (bs (List.replicate 16 0)) 58 ∧ Below w.heap.size w w3) := Lib.hid ⟨HD2.out.lt, hs3.1, hs3.other (HD2.out.alloc _) (by have := HD2.out.lt; omega), hs3.below (al HC2.out _) HC2.out.size⟩)); clear hs3; clear hbx))
    all_goals (go_wp2_with fail; go_meet; exact ⟨_, rfl, HF.out.1, by rw [← HS1.out.1]; exact HF.out.2.1, HF.out.2.2.1, HF.out.2.2.2⟩)
  case rest =>
    obtain ⟨B, rfl, hBN, hBS, hBD, hBl⟩ := hcut
    have hpl : parts.length ≤ 9223372036854775807 := by unfold maxLen at hm; omega
    clear HBG HA1 HS1 HD HC hwr htn' hz
    have H0 := Lib.hid (And.intro hBS (And.intro hBD hBl)); clear hBS hBD hBl
    have hm2 := HH.out.2.2.2.1
    go_wp2_with fail
    go_loopg [17] parts.length (fun g s17 wr => ∃ i : Nat, i + g = parts.length ∧ s17 = .int .i64 i ∧ Blk wr B (Str (tb :: (parts.take i).flatMap eB)) 87 ∧ Blk wr w.heap.size (bs (List.replicate 16 0)) 58 ∧ Below w.heap.size w wr)
    case atStart => exact ⟨0, by omega, rfl, H0.out.1, H0.out.2.1, H0.out.2.2⟩
    case round =>
      clear H0
      obtain ⟨i, hi, rfl, hBS, hBD, hBl⟩ := hrel
      obtain ⟨M, hM⟩ : ∃ M, M = tb :: (parts.take i).flatMap eB := ⟨_, rfl⟩
      rw [← hM] at hBS
      by_cases hlt : i < parts.length
      · obtain ⟨g, rfl⟩ : ∃ g, gk = g + 1 := ⟨gk - 1, by omega⟩
        obtain ⟨b, o, hA, hcell⟩ := (HRD.out.below hBl).open (by intro e; have := congrArg List.length e; rw [List.length_map, List.length_nil] at this; omega)
        obtain ⟨p, hpe⟩ : ∃ p, p = parts[i] := ⟨_, rfl⟩
        have hcp : wr.cell? ⟨b, o + i, none⟩ = some (.string (sb p)) := hcell i _ (by rw [List.getElem?_map, List.getElem?_eq_getElem hlt, hpe]; rfl)
        clear hcell
        subst hA
        obtain ⟨SM, hSM⟩ : ∃ S, S = Str M := ⟨_, rfl⟩
        obtain ⟨SN, hSN⟩ : ∃ S, S = Str (M ++ eB p) := ⟨_, rfl⟩
        have hMl : M.length + (eB p).length < 4611686018427387904 := by
          have h1 : (M ++ eB p).length ≤ (input tag parts).length := by
            rw [hM, hpe, input, HH.out.2.2.2.2]
            exact len_prefix _ _ _ hlt
          have h2 := HH.out.2.2.2.1
          rw [List.length_append] at h1
          omega
        have hadd := fun W hk => add_any M (eB p) hMl W hk
        rw [← hSM, ← hSN] at hadd
        have hby := fun W => bytes_any (sb p) W (by rw [sb_size]; exact HH.out.2.2.1 p (by rw [hpe]; exact List.getElem_mem _))
        rw [sb_list] at hby
        rw [← hSM] at hBS
        have HSN : Hid (SN = Str (M ++ eB p) ∧ M = tb :: (parts.take i).flatMap eB ∧ p = parts[i] ∧ SN.length = SM.length ∧ ∀ v ∈ SN, v.oneCell' = true) := Lib.hid ⟨hSN, hM, hpe, by rw [hSN, hSM, Str_length, Str_length], by rw [hSN]; exact strm_one _ _ _⟩
        have HNX : Hid (SN = Str (tb :: (parts.take (i + 1)).flatMap eB)) := Lib.hid (by rw [hSN, hM, hpe, List.take_succ_eq_append_getElem hlt, List.flatMap_append]; simp)
        have HSM : Hid (SM.length = 73) := Lib.hid (by rw [hSM, Str_length])
        have HBS := Lib.hid hBS
        have HBD := Lib.hid hBD
        have HBL := Lib.hid hBl
        have HADD := Lib.hid hadd
        have HBY := Lib.hid hby
        clear hSM hSN hM hpe hMl hadd hby hBS hBD hBl
        go_wp2_with fail
        refine wp_region_any (by kernel_rfl) ?_
        change wpAny _ _ _ _ _ _ _ (World.drew _)
        refine wpAny_take (i := 1) (v := .string (sb p)) rfl (by kernel_rfl) (by kernel_rfl) (by kernel_rfl) (fun _ _ _ h => h) (Or.inl ⟨by rfl, fun w => by go_simp⟩) ?_
        refine wpAny_ready (rs := [0, 2]) (by kernel_rfl) (by simp) ?_
        refine AllReady.cons rfl (fun K hK => ?_) ?_
        · refine step_load_blk rfl 87 (.tmp 5) rfl B 0 rfl HBS.out.drew _ Tryd.underlying87 rfl 73 Tryd.size34 (by rw [HSM.out]; omega) ?_
          rw [List.drop_zero, List.take_of_length_le (by rw [HSM.out]; omega)]
          refine hK _ _ ?_
          clear hK K
          refine wpAny_ready (rs := [2]) (by kernel_rfl) (by simp) ?_
          refine AllReady.cons rfl (fun K hK => ?_) AllReady.nil
          go_simp
          go_at_call 62
          refine (HBY.out _).mono ?_
          rintro e x1 ⟨u1, rfl, hown1, hb1⟩
          obtain ⟨A1, c1, rfl, hrd1, hc1, hm1⟩ := Rd.of_own hown1
          have hcv1 := conv_sb c1 rfl hrd1
          have HX1 : Hid (Blk x1 B SM 87 ∧ Blk x1 w.heap.size (bs (List.replicate 16 0)) 58 ∧ Below w.heap.size w x1) := Lib.hid ⟨HBS.out.drew.below hb1 HBS.out.lt, HBD.out.drew.below hb1 HBD.out.lt, below_next HBL.out.drew hb1⟩
          clear hb1 hrd1 hown1 hc1 hm1
          go_wp2_with fail
          refine wpAny_ready (rs := [3]) (by kernel_rfl) (by simp) ?_
          refine AllReady.cons rfl (fun K hK => ?_) AllReady.nil
          go_simp
          refine hK _ _ ?_
          clear hK K hcv1
          refine wpAny_ready (rs := [4]) (by kernel_rfl) (by simp) ?_
          refine AllReady.cons rfl (fun K hK => ?_) AllReady.nil
          go_simp
          go_at_call 61
          refine (HADD.out _ (HK.out.below HX1.out.2.2 HK.out.2)).mono ?_
          rintro e x2 ⟨rfl, hb2⟩
          have HX2 : Hid (Blk x2 B SM 87 ∧ Blk x2 w.heap.size (bs (List.replicate 16 0)) 58 ∧ Below w.heap.size w x2) := Lib.hid ⟨HX1.out.1.below hb2 HX1.out.1.lt, HX1.out.2.1.below hb2 HX1.out.2.1.lt, below_next HX1.out.2.2 hb2⟩
          clear hb2
          go_wp2_with fail
          refine wpAny_ready (rs := [5]) (by kernel_rfl) (by simp) ?_
          refine AllReady.cons rfl (fun K hK => ?_) AllReady.nil
          obtain ⟨x3, hst3, hs3⟩ := blk_store_all (P := Tryd.prog) HX2.out.1 SN HSN.out.2.2.2.1 HSN.out.2.2.2.2
          have HX3 : Hid (Blk x3 B SN 87 ∧ Blk x3 w.heap.size (bs (List.replicate 16 0)) 58 ∧ Below w.heap.size w x3) := Lib.hid ⟨hs3.1, hs3.other HX2.out.2.1 (by omega), hs3.below HX2.out.2.2 (by omega)⟩
          clear hs3
          have hSNl : SN.length = 73 := HSN.out.2.2.2.1.trans HSM.out
          go_simp
          refine hK _ _ ?_
          clear hK K hst3 hSNl
          refine wpAny_done (by kernel_rfl) ?_ _
          go_wp2_with fail
          go_roundg g
          case rel => exact ⟨i + 1, by omega, by go_num, by rw [← HNX.out]; exact HX3.out.1, HX3.out.2.1, HX3.out.2.2⟩
          case measure => omega
        refine AllReady.cons rfl (fun K hK => ?_) AllReady.nil
        go_simp
        go_at_call 62
        refine (HBY.out _).mono ?_
        rintro e x1 ⟨u1, rfl, hown1, hb1⟩
        obtain ⟨A1, c1, rfl, hrd1, hc1, hm1⟩ := Rd.of_own hown1
        have hcv1 := conv_sb c1 rfl hrd1
        have HX1 : Hid (Blk x1 B SM 87 ∧ Blk x1 w.heap.size (bs (List.replicate 16 0)) 58 ∧ Below w.heap.size w x1) := Lib.hid ⟨HBS.out.drew.below hb1 HBS.out.lt, HBD.out.drew.below hb1 HBD.out.lt, below_next HBL.out.drew hb1⟩
        clear hb1 hrd1 hown1 hc1 hm1
        go_wp2_with fail
        refine wpAny_ready (rs := [0, 3]) (by kernel_rfl) (by simp) ?_
        refine AllReady.cons rfl (fun K hK => ?_) ?_
        · refine step_load_blk rfl 87 (.tmp 5) rfl B 0 rfl HX1.out.1 _ Tryd.underlying87 rfl 73 Tryd.size34 (by rw [HSM.out]; omega) ?_
          rw [List.drop_zero, List.take_of_length_le (by rw [HSM.out]; omega)]
          refine hK _ _ ?_
          clear hK K
          refine wpAny_ready (rs := [3]) (by kernel_rfl) (by simp) ?_
          refine AllReady.cons rfl (fun K hK => ?_) AllReady.nil
          go_simp
          refine hK _ _ ?_
          clear hK K hcv1
          refine wpAny_ready (rs := [4]) (by kernel_rfl) (by simp) ?_
          refine AllReady.cons rfl (fun K hK => ?_) AllReady.nil
          go_simp
          go_at_call 61
          refine (HADD.out _ (HK.out.below HX1.out.2.2 HK.out.2)).mono ?_
          rintro e x2 ⟨rfl, hb2⟩
          have HX2 : Hid (Blk x2 B SM 87 ∧ Blk x2 w.heap.size (bs (List.replicate 16 0)) 58 ∧ Below w.heap.size w x2) := Lib.hid ⟨HX1.out.1.below hb2 HX1.out.1.lt, HX1.out.2.1.below hb2 HX1.out.2.1.lt, below_next HX1.out.2.2 hb2⟩
          clear hb2
          go_wp2_with fail
          refine wpAny_ready (rs := [5]) (by kernel_rfl) (by simp) ?_
          refine AllReady.cons rfl (fun K hK => ?_) AllReady.nil
          obtain ⟨x3, hst3, hs3⟩ := blk_store_all (P := Tryd.prog) HX2.out.1 SN HSN.out.2.2.2.1 HSN.out.2.2.2.2
          have HX3 : Hid (Blk x3 B SN 87 ∧ Blk x3 w.heap.size (bs (List.replicate 16 0)) 58 ∧ Below w.heap.size w x3) := Lib.hid ⟨hs3.1, hs3.other HX2.out.2.1 (by omega), hs3.below HX2.out.2.2 (by omega)⟩
          clear hs3
          have hSNl : SN.length = 73 := HSN.out.2.2.2.1.trans HSM.out
          go_simp
          refine hK _ _ ?_
          clear hK K hst3 hSNl
          refine wpAny_done (by kernel_rfl) ?_ _
          go_wp2_with fail
          go_roundg g
          case rel => exact ⟨i + 1, by omega, by go_num, by rw [← HNX.out]; exact HX3.out.1, HX3.out.2.1, HX3.out.2.2⟩
          case measure => omega
        refine AllReady.cons rfl (fun K hK => ?_) AllReady.nil
        go_simp
        refine hK _ _ ?_
        clear hK K hcv1
        refine wpAny_ready (rs := [0]) (by kernel_rfl) (by simp) ?_
        refine AllReady.cons rfl (fun K hK => ?_) AllReady.nil
        refine step_load_blk rfl 87 (.tmp 5) rfl B 0 rfl HX1.out.1 _ Tryd.underlying87 rfl 73 Tryd.size34 (by rw [HSM.out]; omega) ?_
        rw [List.drop_zero, List.take_of_length_le (by rw [HSM.out]; omega)]
        refine hK _ _ ?_
        clear hK K
        refine wpAny_ready (rs := [4]) (by kernel_rfl) (by simp) ?_
        refine AllReady.cons rfl (fun K hK => ?_) AllReady.nil
        go_simp
        go_at_call 61
        refine (HADD.out _ (HK.out.below HX1.out.2.2 HK.out.2)).mono ?_
        rintro e x2 ⟨rfl, hb2⟩
        have HX2 : Hid (Blk x2 B SM 87 ∧ Blk x2 w.heap.size (bs (List.replicate 16 0)) 58 ∧ Below w.heap.size w x2) := Lib.hid ⟨HX1.out.1.below hb2 HX1.out.1.lt, HX1.out.2.1.below hb2 HX1.out.2.1.lt, below_next HX1.out.2.2 hb2⟩
        clear hb2
        go_wp2_with fail
        refine wpAny_ready (rs := [5]) (by kernel_rfl) (by simp) ?_
        refine AllReady.cons rfl (fun K hK => ?_) AllReady.nil
        obtain ⟨x3, hst3, hs3⟩ := blk_store_all (P := Tryd.prog) HX2.out.1 SN HSN.out.2.2.2.1 HSN.out.2.2.2.2
        have HX3 : Hid (Blk x3 B SN 87 ∧ Blk x3 w.heap.size (bs (List.replicate 16 0)) 58 ∧ Below w.heap.size w x3) := Lib.hid ⟨hs3.1, hs3.other HX2.out.2.1 (by omega), hs3.below HX2.out.2.2 (by omega)⟩
        clear hs3
        have hSNl : SN.length = 73 := HSN.out.2.2.2.1.trans HSM.out
        go_simp
        refine hK _ _ ?_
        clear hK K hst3 hSNl
        refine wpAny_done (by kernel_rfl) ?_ _
        go_wp2_with fail
        go_roundg g
        case rel => exact ⟨i + 1, by omega, by go_num, by rw [← HNX.out]; exact HX3.out.1, HX3.out.2.1, HX3.out.2.2⟩
        case measure => omega
      · obtain rfl : i = parts.length := by omega
        have hMI : M = input tag parts := by rw [hM, List.take_length, input, HH.out.2.2.2.2]
        clear hM
        obtain ⟨SM, hSM⟩ : ∃ S, S = Str M := ⟨_, rfl⟩
        rw [← hSM] at hBS
        have hsum := fun W hk => sum_any M (by rw [hMI]; have := HH.out.2.2.2.1; omega) W hk
        rw [← hSM, hMI, ← HH.out.1] at hsum
        have hGl : (bs G).length = 32 := by rw [bs_length, HH.out.1, sha_length]
        have hRG : (bs G).drop 0 = bs G := by rw [List.drop_zero]
        have hRt : ((bs G).drop 0).take 16 = bs R := by rw [List.drop_zero, bs_take, HH.out.1, HH.out.2.1, dig]
        have hRl : (bs R).length = 16 := by rw [bs_length, HH.out.2.1, dig_length]
        have HSM : Hid (SM.length = 73) := Lib.hid (by rw [hSM, Str_length])
        have HG := Lib.hid (And.intro hGl (And.intro hRt hRl))
        have HSUM := Lib.hid hsum
        have HBS := Lib.hid hBS
        have HBD := Lib.hid hBD
        have HBL := Lib.hid hBl
        clear hSM hMI hsum hGl hRt hRl hBS hBD hBl hRG
        go_wp2_with (first
          | (refine wpList_load_blk rfl 87 (.tmp 5) rfl B 0 rfl HBS.out _ Tryd.underlying87 rfl 73 Tryd.size34 (by rw [HSM.out]; omega) ?_; rw [List.drop_zero, List.take_of_length_le (by rw [HSM.out]; omega)])
          | (refine (HSUM.out _ (HK.out.below HBL.out HK.out.2)).mono ?_; rintro e x1 ⟨rfl, hb1⟩; have HX1 : Hid (Blk x1 w.heap.size (bs (List.replicate 16 0)) 58 ∧ Below w.heap.size w x1) := Lib.hid ⟨HBD.out.below hb1 HBD.out.lt, below_next HBL.out hb1⟩; clear hb1)
          | (refine wpList_store_blk rfl 91 (.tmp 8) (.tmp 28) rfl x1.heap.size 0 rfl (bs G) rfl (Blk.new' x1 (bs (List.replicate 32 0)) _ 91 rfl) 32 Tryd.size24 HG.out.1 (by rw [bs_length, List.length_replicate]; omega) (bs_one _) ?_; intro x2 hst2; rw [List.take_zero, List.nil_append, List.drop_of_length_le (by rw [bs_length, List.length_replicate]; omega), List.append_nil] at hst2; have HX2 : Hid (Blk x2 x1.heap.size (bs G) 91 ∧ Blk x2 w.heap.size (bs (List.replicate 16 0)) 58 ∧ Below w.heap.size w x2 ∧ w.heap.size < x1.heap.size) := Lib.hid ⟨hst2.1, hst2.other (HX1.out.1.alloc _) (by have := HX1.out.1.lt; omega), hst2.below (al HX1.out.2 _) HX1.out.2.size, HX1.out.1.lt⟩; have hsl := sl24_16 x1.heap.size; have harr := arr44 x1.heap.size; clear hst2)
          | (refine wpList_load_blk rfl 58 (.tmp 30) rfl x1.heap.size 0 rfl HX2.out.1 _ Tryd.underlying58 rfl 16 Tryd.size44 (by rw [HG.out.1]; omega) ?_; rw [HG.out.2.1])
          | (refine wpList_store_blk rfl 58 (.tmp 4) (.tmp 31) rfl w.heap.size 0 rfl (bs R) rfl HX2.out.2.1 16 Tryd.size44 HG.out.2.2 (by rw [bs_length, List.length_replicate]; omega) (bs_one _) ?_; intro x3 hst3; rw [List.take_zero, List.nil_append, List.drop_of_length_le (by rw [bs_length, List.length_replicate]; omega), List.append_nil] at hst3; have HX3 := Lib.hid hst3; clear hst3))
        refine ret_blk rfl _ rfl HX3.out.1 _ Tryd.underlying58 rfl (by rw [HG.out.2.2]; exact Tryd.size44) rfl ⟨rfl, HX3.out.below HX2.out.2.2.1 (Nat.le_refl _)⟩
theorem of_any (tag : Int) (parts : List (List UInt8)) (A : Option Addr) (n c : Nat) (hn : n = parts.length) (hc : parts.length ≤ c) (hm : c ≤ maxLen) (hp : ∀ p ∈ parts, p.length ≤ 1099511627776) (hlen : (input tag parts).length < 288230376151711744) (w : World) (hr : Rd w A (parts.map fun p => .string (sb p))) (hK : KH w) :
    Calls Tryd.prog 35 #[.int .i64 tag, .slice A n c] w fun e w' => e = .returned (.agg (bs (dig tag parts)).toArray) ∧ Below w.heap.size w w' := by
  subst hn
  exact of_aux tag parts A c _ _ rfl rfl hc hm hp hlen w hr hK
end Go.Proofs.YtkaaejfochdjcaaDoor
