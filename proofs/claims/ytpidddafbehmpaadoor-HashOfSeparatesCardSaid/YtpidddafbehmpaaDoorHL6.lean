/-
  HashOfSeparates: for every two tags and every two lists of parts, the law returns true and leaves them as they are; the table of constants is as the program's text lays it (the card ties it).
-/
import Derived.Test.YtpidddafbehmpaaDoorHLaw3
import Derived.Test.YtpidddafbehmpaaDoorHInj
namespace Go.Proofs.YtpidddafbehmpaaDoor
open Go.ChangeShapes Go.WideShapes Go.ChangeAt Go.RowKit Go.ChangeMaps
open Sha
set_option linter.unusedVariables false
namespace L6
/-- What the first loop has found out when it has compared i parts. -/
def sm (x y : UInt8) (a b : List (List UInt8)) (i : Nat) : Bool := decide (x = y) && decide (a.length = b.length) && decide (a.take i = b.take i)
theorem sm_zero (x y : UInt8) (a b : List (List UInt8)) : sm x y a b 0 = (decide (x = y) && decide (a.length = b.length)) := by simp [sm]
theorem sm_true {x y : UInt8} {a b : List (List UInt8)} {i : Nat} (h : sm x y a b i = true) : x = y ∧ a.length = b.length ∧ a.take i = b.take i := by simpa [sm, and_assoc] using h
theorem sm_all (x y : UInt8) (a b : List (List UInt8)) : sm x y a b a.length = decide (x = y ∧ a = b) := by
  rw [Bool.eq_iff_iff, sm]
  simp only [Bool.and_eq_true, decide_eq_true_eq, List.take_length]
  constructor
  · rintro ⟨⟨h1, h2⟩, h3⟩
    exact ⟨h1, by rw [h2, List.take_length] at h3; exact h3⟩
  · rintro ⟨h1, h2⟩
    subst h2
    exact ⟨⟨h1, rfl⟩, by rw [List.take_length]⟩
theorem sm_not {x y : UInt8} {a b : List (List UInt8)} {i : Nat} (h : sm x y a b i = false) : ¬ (x = y ∧ a = b) := by
  rintro ⟨h1, h2⟩
  subst h1 h2
  simp [sm] at h
theorem sm_step {x y : UInt8} {a b : List (List UInt8)} {i : Nat} (h : sm x y a b i = true) (hi : i < a.length) (hb : i < b.length) : sm x y a b (i + 1) = eqB a[i] b[i] := by
  obtain ⟨h1, h2, h3⟩ := sm_true h
  rw [Bool.eq_iff_iff, eqB_iff, sm]
  simp only [Bool.and_eq_true, decide_eq_true_eq, List.take_succ_eq_append_getElem hi, List.take_succ_eq_append_getElem hb, h3]
  constructor
  · rintro ⟨_, h⟩
    have h' := List.append_cancel_left h
    simpa using h'
  · intro h
    exact ⟨⟨h1, h2⟩, by rw [h]⟩
attribute [irreducible] sm
theorem sm_fin {x y : UInt8} {a b : List (List UInt8)} {i : Nat} (hi : i ≤ a.length) (h : ¬ (i < a.length ∧ sm x y a b i = true)) : sm x y a b i = decide (x = y ∧ a = b) := by
  by_cases hl : i < a.length
  · have hS : sm x y a b i = false := by
      cases hs : sm x y a b i with
      | false => rfl
      | true => exact absurd ⟨hl, hs⟩ h
    rw [hS, decide_eq_false (sm_not hS)]
  · obtain rfl : i = a.length := by omega
    exact sm_all x y a b
theorem tag_eq (x y : UInt8) : decide ((x.toNat : Int) = (y.toNat : Int)) = decide (x = y) := by
  rw [Bool.eq_iff_iff, decide_eq_true_eq, decide_eq_true_eq, ← UInt8.toNat_inj]
  omega

theorem w64 (x : UInt8) : wrap64 (x.toNat : Int) = (x.toNat : Int) := by
  have := x.toNat_lt
  unfold wrap64
  omega
/-- The first i bytes of two sums are the same. -/
def cl (G H : List UInt8) (i : Nat) : Bool := decide (G.take i = H.take i)
theorem cl_zero (G H : List UInt8) : cl G H 0 = true := by simp [cl]
theorem cl_step (G H : List UInt8) (i : Nat) (hg : i < G.length) (hh : i < H.length) : cl G H (i + 1) = (cl G H i && decide (G.getD i 0 = H.getD i 0)) := by
  rw [Bool.eq_iff_iff, Bool.and_eq_true, cl, cl, decide_eq_true_eq, decide_eq_true_eq, decide_eq_true_eq, List.take_succ_eq_append_getElem hg, List.take_succ_eq_append_getElem hh]
  have e1 : G.getD i 0 = G[i] := by simp [List.getD, hg]
  have e2 : H.getD i 0 = H[i] := by simp [List.getD, hh]
  rw [e1, e2]
  constructor
  · intro h
    have h1 := List.append_inj h (by simp; omega)
    exact ⟨h1.1, by simpa using h1.2⟩
  · rintro ⟨h1, h2⟩
    rw [h1, h2]
theorem eq_cl (G H : List UInt8) : eqB (G.take 16) (H.take 16) = cl G H 16 := by
  rw [Bool.eq_iff_iff, eqB_iff, cl, decide_eq_true_eq]
attribute [irreducible] cl
theorem wpList_load_all_if {P : Program} {w : World} {ops : Array Oper} {rest : List Oper} {o : Oper} {a : Act} {Q : Exit → Act → World → Prop} (hw : Region.wanted o (yielded ops a.tmps) = true) (ty : TypeId) (x : Operand) (ho : o.op = .load ty x)
    (g : Nat) (hx : a.eval x = .pointer (some ⟨g, 0, none⟩)) {C : List Value} {T : TypeId} (hb : Blk w g C T) (d : TypeDesc) (hu : P.underlying ty = some d) (hd : d.isRow = true) (hi : (P.info? ty).map (·.size) = some C.length)
    (h : wpList P ops Q rest (a.put o.dst (.agg C.toArray)) w) : wpList P ops Q (o :: rest) a w :=
  wpList_step fun K hK => by
    rw [if_pos hw]
    have hr : w.rangeAt g 0 C := by
      have := hb.range 0 C.length
      rwa [List.drop_zero, List.take_of_length_le (Nat.le_refl _)] at this
    exact wp_load_mid ty x ho g 0 hx _ d hr hu hd hi (hK _ _ h)
/-- What a world behind the two inputs keeps. -/
def Wst (x y : UInt8) (A3 A4 : Option Addr) (I J : List UInt8) (w wr : World) : Prop := Below w.heap.size w wr ∧ Blk wr w.heap.size (bs [x, y]) 48 ∧ Rd wr A3 (bs I) ∧ Rd wr A4 (bs J)
section
variable {x y : UInt8} {A3 A4 : Option Addr} {I J : List UInt8} {w wr w' : World}
theorem Wst.next (h : Wst x y A3 A4 I J w wr) (hb : Below wr.heap.size wr w') : Wst x y A3 A4 I J w w' := ⟨below_next h.1 hb, h.2.1.below hb h.2.1.lt, h.2.2.1.below hb, h.2.2.2.below hb⟩
theorem Wst.cx (h : Wst x y A3 A4 I J w wr) : wr.cell? ⟨w.heap.size, 0, none⟩ = some (.int .u8 x.toNat) := h.2.1.cell (j := 0) rfl
theorem Wst.cy (h : Wst x y A3 A4 I J w wr) : wr.cell? ⟨w.heap.size, 1, none⟩ = some (.int .u8 y.toNat) := h.2.1.cell (j := 1) rfl
end

set_option maxRecDepth 100000 in
set_option maxHeartbeats 2000000 in
theorem walk_aux (x y : UInt8) (a b : List (List UInt8)) (A B : Option Addr) (ca cb : Nat) (hca : a.length ≤ ca) (hcb : b.length ≤ cb) (hma : ca ≤ maxLen) (hmb : cb ≤ maxLen) (hla : a.length ≤ 17592186044416) (hlb : b.length ≤ 17592186044416) (hpa : ∀ p ∈ a, p.length ≤ 140737488355328) (hpb : ∀ p ∈ b, p.length ≤ 140737488355328) (w : World) (hra : Rd w A (a.map fun p => .string (sb p))) (hrb : Rd w B (b.map fun p => .string (sb p))) (hK : KH w) :
    Calls Tryd.prog 8 #[.agg #[.int .u8 x.toNat, .int .u8 y.toNat], .slice A a.length ca, .slice B b.length cb] w fun e w' => e = .returned (.bool true) ∧ Below w.heap.size w w' := by
  have HFA : Hid (∀ W, Rd W A (a.map fun p => .string (sb p)) → Calls Tryd.prog 13 #[.slice A a.length ca] W fun e w' => e = .returned (.bool (fewB a)) ∧ W = w') := Lib.hid fun W h => few_any a A _ ca rfl (by omega) hpa W h
  have HFB : Hid (∀ W, Rd W B (b.map fun p => .string (sb p)) → Calls Tryd.prog 13 #[.slice B b.length cb] W fun e w' => e = .returned (.bool (fewB b)) ∧ W = w') := Lib.hid fun W h => few_any b B _ cb rfl (by omega) hpb W h
  have HK := Lib.hid (And.intro hK (And.intro hra hrb)); clear hK hra hrb
  have HW0 : Hid (Below w.heap.size w (w.alloc (.cells #[.int .u8 x.toNat, .int .u8 y.toNat] 48)) ∧ Blk (w.alloc (.cells #[.int .u8 x.toNat, .int .u8 y.toNat] 48)) w.heap.size (bs [x, y]) 48) := Lib.hid ⟨below_a1 _ _, Blk.new' w (bs [x, y]) _ _ rfl⟩
  cases hfa : fewB a with
  | false =>
    rw [hfa] at HFA
    go_enter Tryd.func8, Tryd.ntmps8
    go_wp2_with (first
      | (refine (sanity_any _ (HK.out.1.of HW0.out.1)).mono ?_; rintro e w1 ⟨rfl, hb1⟩; have HB1 : Hid (Below w.heap.size w w1) := Lib.hid (below_next HW0.out.1 hb1); clear hb1)
      | ((with_reducible refine (HFA.out _ ?_).mono ?_); exact (HK.out.2.1.below HB1.out); rintro e w2 ⟨rfl, rfl⟩))
    go_ret
    exact ⟨rfl, HB1.out⟩
  | true =>
    rw [hfa] at HFA
    cases hfb : fewB b with
    | false =>
      rw [hfb] at HFB
      go_enter Tryd.func8, Tryd.ntmps8
      go_wp2_with (first
        | (refine (sanity_any _ (HK.out.1.of HW0.out.1)).mono ?_; rintro e w1 ⟨rfl, hb1⟩; have HB1 : Hid (Below w.heap.size w w1) := Lib.hid (below_next HW0.out.1 hb1); clear hb1)
        | ((with_reducible refine (HFA.out _ ?_).mono ?_); exact (HK.out.2.1.below HB1.out); rintro e w2 ⟨rfl, rfl⟩)
        | ((with_reducible refine (HFB.out _ ?_).mono ?_); exact (HK.out.2.2.below HB1.out); rintro e w2 ⟨rfl, rfl⟩))
      go_ret
      exact ⟨rfl, HB1.out⟩
    | true =>
      rw [hfb] at HFB
      cases hT : decide (x = y) with
      | false =>
        have htag : (((x.toNat : Int)) == ((y.toNat : Int))) = false := by rw [show (((x.toNat : Int)) == ((y.toNat : Int))) = decide ((x.toNat : Int) = (y.toNat : Int)) from rfl, tag_eq, hT]
        obtain ⟨Q, hQ⟩ : ∃ Q, Q = decide (a.length = b.length) := ⟨_, rfl⟩
        have hlen : (((a.length : Int)) == ((b.length : Int))) = Q := by rw [hQ, show (((a.length : Int)) == ((b.length : Int))) = decide ((a.length : Int) = (b.length : Int)) from rfl]; simp; omega
        have HS0 : Hid (false = sm x y a b 0) := Lib.hid (by rw [sm_zero, hT, ← hQ]; rfl)
        have HQ := Lib.hid hQ; clear hQ
        go_enter Tryd.func8, Tryd.ntmps8
        go_wp2_with (first
          | (refine (sanity_any _ (HK.out.1.of HW0.out.1)).mono ?_; rintro e w1 ⟨rfl, hb1⟩; have HB1 : Hid (Below w.heap.size w w1 ∧ Blk w1 w.heap.size (bs [x, y]) 48) := Lib.hid ⟨below_next HW0.out.1 hb1, HW0.out.2.below hb1 HW0.out.2.lt⟩; have hcx := HB1.out.2.cell (j := 0) (v := .int .u8 x.toNat) rfl; have hcy := HB1.out.2.cell (j := 1) (v := .int .u8 y.toNat) rfl; clear hb1)
          | ((with_reducible refine (HFA.out _ ?_).mono ?_); exact (HK.out.2.1.below HB1.out.1); rintro e w2 ⟨rfl, rfl⟩)
          | ((with_reducible refine (HFB.out _ ?_).mono ?_); exact (HK.out.2.2.below HB1.out.1); rintro e w2 ⟨rfl, rfl⟩))
        clear htag hlen
        go_loopg [8, 9] a.length (fun g s8 s9 wr => ∃ i : Nat, i + g = a.length ∧ s9 = .int .i64 i ∧ s8 = .bool (sm x y a b i) ∧ Below w.heap.size w wr ∧ Blk wr w.heap.size (bs [x, y]) 48)
        case atStart => exact ⟨0, by omega, rfl, by rw [← HS0.out], HB1.out.1, HB1.out.2⟩
        case round =>
          clear HB1 HS0 hcx hcy
          obtain ⟨i, hi, rfl, rfl, hB1, hB2⟩ := hrel
          have HB := Lib.hid (And.intro hB1 hB2)
          have hcx := hB2.cell (j := 0) (v := .int .u8 x.toNat) rfl
          have hcy := hB2.cell (j := 1) (v := .int .u8 y.toNat) rfl
          by_cases hgo : i < a.length ∧ sm x y a b i = true
          · obtain ⟨hlt, hS⟩ := hgo
            obtain ⟨g, rfl⟩ : ∃ g, gk = g + 1 := ⟨gk - 1, by omega⟩
            have hltb : i < b.length := by have := (sm_true hS).2.1; omega
            have hnx := sm_step hS hlt hltb
            obtain ⟨b1, o1, rfl, hc1⟩ := strs_cell (HK.out.2.1.below hB1) i hlt
            obtain ⟨b2, o2, rfl, hc2⟩ := strs_cell (HK.out.2.2.below hB1) i hltb
            obtain ⟨p, hp⟩ : ∃ p, p = a[i] := ⟨_, rfl⟩
            obtain ⟨q, hq⟩ : ∃ q, q = b[i] := ⟨_, rfl⟩
            rw [← hp] at hc1
            rw [← hq] at hc2
            rw [← hp, ← hq] at hnx
            have hcmp : ((sb p).toList == (sb q).toList) = sm x y a b (i + 1) := by
              rw [hnx, Bool.eq_iff_iff, eqB_iff, beq_iff_eq, ByteArray.toList_eq, ByteArray.toList_eq]
              exact Iff.rfl
            obtain ⟨Z, hZ⟩ : ∃ Z, Z = sm x y a b (i + 1) := ⟨_, rfl⟩
            rw [← hZ] at hcmp
            have HZ := Lib.hid hZ
            rw [hS]
            clear hZ hnx hp hq hS hB1 hB2 hcx hcy
            go_wp2_with fail
            go_quiet (fail)
            go_wp2_with fail
            go_roundg g
            case rel => exact ⟨i + 1, by omega, by go_num, by rw [← HZ.out], below_drewN HB.out.1 _, HB.out.2⟩
            case measure => omega
          · have hfin := sm_fin (by omega) hgo
            cases hF : decide (x = y ∧ a = b) with
            | true =>
              rw [hF] at hfin
              have hia : i = a.length := by
                have : ¬ i < a.length := fun hl => hgo ⟨hl, hfin⟩
                omega
              have hge : ¬ i < a.length := by omega
              obtain ⟨hxy, hab⟩ := of_decide_eq_true hF
              subst hxy hab
              rw [hfin]
              obtain ⟨I, hI⟩ : ∃ I, I = input (x.toNat : Int) a := ⟨_, rfl⟩
              have HIN : Hid (∀ (A : Option Addr) (ca : Nat) W, Rd W A (a.map fun p => .string (sb p)) → Calls Tryd.prog 23 #[.int .i64 x.toNat, .slice A a.length ca] W fun e w' => ∃ v', e = .returned v' ∧ w'.ownsRow W.heap.size 5 1 v' I.length (bs I) ∧ Below W.heap.size W w') := Lib.hid fun A ca W h => by rw [hI]; exact rinput_any _ a A _ ca rfl hfa W h
              clear hI hF hfin hgo hB1 hB2 hi
              have hwx := w64 x
              go_wp2_with (first
                | ((with_reducible refine (HIN.out _ _ _ ?_).mono ?_); exact (HK.out.2.1.below HB.out.1); rintro e w3 ⟨v3, rfl, hown3, hb3⟩; obtain ⟨A3, c3, rfl, hrd3, hne3⟩ := own_rd hown3; have HX3 : Hid (Below w.heap.size w w3 ∧ Rd w3 A3 (bs I) ∧ Blk w3 w.heap.size (bs [x, x]) 48) := Lib.hid ⟨below_next HB.out.1 hb3, hrd3, HB.out.2.below hb3 HB.out.2.lt⟩; have hcy := HX3.out.2.2.cell (j := 1) (v := .int .u8 x.toNat) rfl; clear hb3 hown3 hrd3 hne3)
                | ((with_reducible refine (HIN.out _ _ _ ?_).mono ?_); exact (HK.out.2.2.below HX3.out.1); rintro e w4 ⟨v4, rfl, hown4, hb4⟩; obtain ⟨A4, c4, rfl, hrd4, hne4⟩ := own_rd hown4; have HX4 : Hid (Below w.heap.size w w4) := Lib.hid (below_next HX3.out.1 hb4); have hcv3 := conv_sb (A := A3) (l := I) (n := I.length) (w := w4) c3 rfl (HX3.out.2.1.below hb4); have hcv4 := conv_sb (A := A4) (l := I) (n := I.length) (w := w4) c4 rfl hrd4; clear hb4 hown4 hrd4 hne4))
              go_ret
              exact ⟨rfl, HX4.out⟩
            | false =>
              rw [hF] at hfin
              rw [hfin]
              have hnot : ¬ (x = y ∧ a = b) := of_decide_eq_false hF
              obtain ⟨I, hI⟩ : ∃ I, I = input (x.toNat : Int) a := ⟨_, rfl⟩
              obtain ⟨J, hJ⟩ : ∃ J, J = input (y.toNat : Int) b := ⟨_, rfl⟩
              obtain ⟨D, hD⟩ : ∃ D, D = dig (x.toNat : Int) a := ⟨_, rfl⟩
              obtain ⟨E, hE⟩ : ∃ E, E = dig (y.toNat : Int) b := ⟨_, rfl⟩
              obtain ⟨G, hG⟩ : ∃ G, G = sha I := ⟨_, rfl⟩
              obtain ⟨H, hH⟩ : ∃ H, H = sha J := ⟨_, rfl⟩
              have hIJ : I ≠ J := fun h => hnot (input_inj x y a b hfa hfb (by rw [← hI, ← hJ, h]))
              have hIl := few_input hfa (x.toNat : Int)
              have hJl := few_input hfb (y.toNat : Int)
              have hA3 := few_length hfa
              have hB3 := few_length hfb
              have HIN : Hid (∀ W, Rd W A (a.map fun p => .string (sb p)) → Calls Tryd.prog 23 #[.int .i64 x.toNat, .slice A a.length ca] W fun e w' => ∃ v', e = .returned v' ∧ w'.ownsRow W.heap.size 5 1 v' I.length (bs I) ∧ Below W.heap.size W w') := Lib.hid fun W h => by rw [hI]; exact rinput_any _ a A _ ca rfl hfa W h
              have HJN : Hid (∀ W, Rd W B (b.map fun p => .string (sb p)) → Calls Tryd.prog 23 #[.int .i64 y.toNat, .slice B b.length cb] W fun e w' => ∃ v', e = .returned v' ∧ w'.ownsRow W.heap.size 5 1 v' J.length (bs J) ∧ Below W.heap.size W w') := Lib.hid fun W h => by rw [hJ]; exact rinput_any _ b B _ cb rfl hfb W h
              have HOD : Hid (∀ W, Rd W A (a.map fun p => .string (sb p)) → KH W → Calls Tryd.prog 21 #[.int .i64 x.toNat, .slice A a.length ca] W fun e w' => e = .returned (.agg (bs D).toArray) ∧ Below W.heap.size W w') := Lib.hid fun W h hk => by rw [hD]; exact of_any _ a A _ ca rfl hca hma (fun p hp => by have := hA3.2 p hp; omega) (by omega) W h hk
              have HOE : Hid (∀ W, Rd W B (b.map fun p => .string (sb p)) → KH W → Calls Tryd.prog 21 #[.int .i64 y.toNat, .slice B b.length cb] W fun e w' => e = .returned (.agg (bs E).toArray) ∧ Below W.heap.size W w') := Lib.hid fun W h hk => by rw [hE]; exact of_any _ b B _ cb rfl hcb hmb (fun p hp => by have := hB3.2 p hp; omega) (by omega) W h hk
              have HSG : Hid (∀ (A : Option Addr) c W, Rd W A (bs I) → KH W → Calls Tryd.prog 11 #[.slice A I.length c] W fun e w' => e = .returned (.agg (bs G).toArray) ∧ Below W.heap.size W w') := Lib.hid fun A c W h hk => by rw [hG]; exact hsum_any I A _ c rfl (by rw [hI]; omega) W h hk
              have HSH : Hid (∀ (A : Option Addr) c W, Rd W A (bs J) → KH W → Calls Tryd.prog 11 #[.slice A J.length c] W fun e w' => e = .returned (.agg (bs H).toArray) ∧ Below W.heap.size W w') := Lib.hid fun A c W h hk => by rw [hH]; exact hsum_any J A _ c rfl (by rw [hJ]; omega) W h hk
              have HDL : Hid ((bs D).length = 16 ∧ (bs E).length = 16) := Lib.hid ⟨by rw [bs_length, hD, dig_length], by rw [bs_length, hE, dig_length]⟩
              have HGL : Hid ((bs G).length = 32 ∧ (bs H).length = 32) := Lib.hid ⟨by rw [bs_length, hG, sha_length], by rw [bs_length, hH, sha_length]⟩
              have HDE : Hid (eqB D E = cl G H 16) := Lib.hid (by rw [hD, hE, dig, dig, ← hI, ← hJ, ← hG, ← hH]; exact eq_cl G H)
              have heq : ∀ W, (Op.equalIn 10000 44 (.agg (bs D).toArray) (.agg (bs E).toArray)).run Tryd.prog W = .ok (eqB D E) W := fun W => eq44 D E (by rw [hD, dig_length]) (by rw [hE, dig_length]) W
              have hcmp1 : ((sb I).toList == (sb J).toList) = false := by
                rw [ByteArray.toList_eq, ByteArray.toList_eq, beq_eq_false_iff_ne]
                exact hIJ
              have hcmp2 : ((sb I).toList != (sb J).toList) = true := by
                rw [bne, hcmp1]
                rfl
              clear hI hJ hD hE hG hH hIJ hIl hJl hA3 hB3 hnot hF hfin hgo hB1 hB2 hi
              have hwx := w64 x
              have hwy := w64 y
              go_wp2_with (first
                | ((with_reducible refine (HIN.out _ ?_).mono ?_); exact (HK.out.2.1.below HB.out.1); rintro e w3 ⟨v3, rfl, hown3, hb3⟩; obtain ⟨A3, c3, rfl, hrd3, hne3⟩ := own_rd hown3; have HX3 : Hid (Below w.heap.size w w3 ∧ Rd w3 A3 (bs I) ∧ Blk w3 w.heap.size (bs [x, y]) 48) := Lib.hid ⟨below_next HB.out.1 hb3, hrd3, HB.out.2.below hb3 HB.out.2.lt⟩; have hcy3 := HX3.out.2.2.cell (j := 1) (v := .int .u8 y.toNat) rfl; clear hb3 hown3 hrd3 hne3 hcx hcy)
                | ((with_reducible refine (HJN.out _ ?_).mono ?_); exact (HK.out.2.2.below HX3.out.1); rintro e w4 ⟨v4, rfl, hown4, hb4⟩; obtain ⟨A4, c4, rfl, hrd4, hne4⟩ := own_rd hown4; have HX4 : Hid (Wst x y A3 A4 I J w w4) := Lib.hid ⟨below_next HX3.out.1 hb4, HX3.out.2.2.below hb4 HX3.out.2.2.lt, HX3.out.2.1.below hb4, hrd4⟩; have hcx4 := HX4.out.cx; clear hb4 hown4 hrd4 hne4 hcy3)
                | ((with_reducible refine (HOD.out _ ?_ ?_).mono ?_); exact (HK.out.2.1.below HX4.out.1); exact (HK.out.1.of HX4.out.1); rintro e w5 ⟨rfl, hb5⟩; have HX5 : Hid (Wst x y A3 A4 I J w w5) := Lib.hid (HX4.out.next hb5); clear hb5 hcx4)
                | (refine wpList_store_blk rfl 44 (.tmp 12) (.tmp 81) rfl _ 0 rfl (bs D) rfl (Blk.new' w5 (bs (List.replicate 16 0)) _ 44 rfl) 16 Tryd.size44 HDL.out.1 (by rw [bs_length, List.length_replicate]; omega) (bs_one _) ?_; intro w6 hst6; rw [List.take_zero, List.nil_append, List.drop_of_length_le (by rw [bs_length, List.length_replicate]; omega), List.append_nil] at hst6; have HX6 : Hid (Wst x y A3 A4 I J w w6 ∧ Blk w6 w5.heap.size (bs D) 44) := Lib.hid ⟨HX5.out.next (hst6.below (below_a1 w5 _) (Nat.le_refl _)), hst6.1⟩; have hcy6 := HX6.out.1.cy; clear hst6; generalize w5.heap.size = N1 at HX6 ⊢)
                | ((with_reducible refine (HOE.out _ ?_ ?_).mono ?_); exact (HK.out.2.2.below HX6.out.1.1); exact (HK.out.1.of HX6.out.1.1); rintro e w7 ⟨rfl, hb7⟩; have HX7 : Hid (Wst x y A3 A4 I J w w7 ∧ Blk w7 N1 (bs D) 44) := Lib.hid ⟨HX6.out.1.next hb7, HX6.out.2.below hb7 HX6.out.2.lt⟩; clear hb7 hcy6)
                | (refine wpList_store_blk rfl 44 (.tmp 13) (.tmp 86) rfl _ 0 rfl (bs E) rfl (Blk.new' w7 (bs (List.replicate 16 0)) _ 44 rfl) 16 Tryd.size44 HDL.out.2 (by rw [bs_length, List.length_replicate]; omega) (bs_one _) ?_; intro w8 hst8; rw [List.take_zero, List.nil_append, List.drop_of_length_le (by rw [bs_length, List.length_replicate]; omega), List.append_nil] at hst8; have HX8 : Hid (Wst x y A3 A4 I J w w8 ∧ Blk w8 N1 (bs D) 44 ∧ Blk w8 w7.heap.size (bs E) 44) := Lib.hid ⟨HX7.out.1.next (hst8.below (below_a1 w7 _) (Nat.le_refl _)), HX7.out.2.below (hst8.below (below_a1 w7 _) (Nat.le_refl _)) HX7.out.2.lt, hst8.1⟩; clear hst8; generalize w7.heap.size = N2 at HX8 ⊢)
                | ((with_reducible refine (HSG.out _ _ _ ?_ ?_).mono ?_); exact HX8.out.1.2.2.1; exact (HK.out.1.of HX8.out.1.1); rintro e w9 ⟨rfl, hb9⟩; have HX9 : Hid (Wst x y A3 A4 I J w w9 ∧ Blk w9 N1 (bs D) 44 ∧ Blk w9 N2 (bs E) 44) := Lib.hid ⟨HX8.out.1.next hb9, HX8.out.2.1.below hb9 HX8.out.2.1.lt, HX8.out.2.2.below hb9 HX8.out.2.2.lt⟩; clear hb9)
                | (refine wpList_store_blk rfl 24 (.tmp 14) (.tmp 88) rfl _ 0 rfl (bs G) rfl (Blk.new' w9 (bs (List.replicate 32 0)) _ 24 rfl) 32 Tryd.size24 HGL.out.1 (by rw [bs_length, List.length_replicate]; omega) (bs_one _) ?_; intro w10 hst; rw [List.take_zero, List.nil_append, List.drop_of_length_le (by rw [bs_length, List.length_replicate]; omega), List.append_nil] at hst; have hbz := hst.below (below_a1 w9 _) (Nat.le_refl _); have HX10 : Hid (Wst x y A3 A4 I J w w10 ∧ Blk w10 N1 (bs D) 44 ∧ Blk w10 N2 (bs E) 44 ∧ Blk w10 w9.heap.size (bs G) 24) := Lib.hid ⟨HX9.out.1.next hbz, HX9.out.2.1.below hbz HX9.out.2.1.lt, HX9.out.2.2.below hbz HX9.out.2.2.lt, hst.1⟩; clear hst hbz; generalize w9.heap.size = N3 at HX10 ⊢)
                | ((with_reducible refine (HSH.out _ _ _ ?_ ?_).mono ?_); exact HX10.out.1.2.2.2; exact (HK.out.1.of HX10.out.1.1); rintro e w11 ⟨rfl, hbz⟩; have HX11 : Hid (Wst x y A3 A4 I J w w11 ∧ Blk w11 N1 (bs D) 44 ∧ Blk w11 N2 (bs E) 44 ∧ Blk w11 N3 (bs G) 24) := Lib.hid ⟨HX10.out.1.next hbz, HX10.out.2.1.below hbz HX10.out.2.1.lt, HX10.out.2.2.1.below hbz HX10.out.2.2.1.lt, HX10.out.2.2.2.below hbz HX10.out.2.2.2.lt⟩; clear hbz)
                | (refine wpList_store_blk rfl 24 (.tmp 15) (.tmp 90) rfl _ 0 rfl (bs H) rfl (Blk.new' w11 (bs (List.replicate 32 0)) _ 24 rfl) 32 Tryd.size24 HGL.out.2 (by rw [bs_length, List.length_replicate]; omega) (bs_one _) ?_; intro w12 hst; rw [List.take_zero, List.nil_append, List.drop_of_length_le (by rw [bs_length, List.length_replicate]; omega), List.append_nil] at hst; have hbz := hst.below (below_a1 w11 _) (Nat.le_refl _); have HX12 : Hid (Wst x y A3 A4 I J w w12 ∧ Blk w12 N1 (bs D) 44 ∧ Blk w12 N2 (bs E) 44 ∧ Blk w12 N3 (bs G) 24 ∧ Blk w12 w11.heap.size (bs H) 24) := Lib.hid ⟨HX11.out.1.next hbz, HX11.out.2.1.below hbz HX11.out.2.1.lt, HX11.out.2.2.1.below hbz HX11.out.2.2.1.lt, HX11.out.2.2.2.below hbz HX11.out.2.2.2.lt, hst.1⟩; clear hst hbz; generalize w11.heap.size = N4 at HX12 ⊢))
              all_goals
                go_loopg [16, 17] 16 (fun g s16 s17 wz => ∃ i : Nat, i + g = 16 ∧ s17 = .int .i64 i ∧ s16 = .bool (cl G H i) ∧ Below w12.heap.size w12 wz)
                case atStart => exact ⟨0, by omega, rfl, by rw [cl_zero], Below.refl _ _⟩
                case round =>
                  obtain ⟨k, hk, rfl, rfl, hbz⟩ := hrel
                  have HZ0 := Lib.hid hbz
                  by_cases hlt : k < 16
                  · obtain ⟨g, rfl⟩ : ∃ g, gk = g + 1 := ⟨gk - 1, by omega⟩
                    have hst := cl_step G H k (by have := HGL.out.1; rw [bs_length] at this; omega) (by have := HGL.out.2; rw [bs_length] at this; omega)
                    have hcg := (HX12.out.2.2.2.1.below hbz HX12.out.2.2.2.1.lt).cell (bs_getD G k (by have := HGL.out.1; rw [bs_length] at this; omega))
                    have hch := (HX12.out.2.2.2.2.below hbz HX12.out.2.2.2.2.lt).cell (bs_getD H k (by have := HGL.out.2; rw [bs_length] at this; omega))
                    generalize G.getD k 0 = u at hst hcg
                    generalize H.getD k 0 = v at hst hch
                    clear hbz
                    cases hq : cl G H k with
                    | true =>
                      rw [hq, Bool.true_and] at hst
                      have huv : (((u.toNat : Int)) == ((v.toNat : Int))) = cl G H (k + 1) := by rw [hst, show (((u.toNat : Int)) == ((v.toNat : Int))) = decide ((u.toNat : Int) = (v.toNat : Int)) from rfl, tag_eq]
                      obtain ⟨Z, hZ⟩ : ∃ Z, Z = cl G H (k + 1) := ⟨_, rfl⟩
                      rw [← hZ] at huv
                      have HZ := Lib.hid hZ
                      clear hZ hst hq
                      go_wp2_with fail
                      go_quiet (fail)
                      go_wp2_with fail
                      go_roundg g
                      case rel => exact ⟨k + 1, by omega, by go_num, by rw [← HZ.out], below_drewN HZ0.out _⟩
                      case measure => omega
                    | false =>
                      rw [hq, Bool.false_and] at hst
                      have HZ : Hid (false = cl G H (k + 1)) := Lib.hid hst.symm
                      clear hst hq hcg hch
                      go_wp2_with fail
                      go_quiet (fail)
                      go_wp2_with fail
                      go_roundg g
                      case rel => exact ⟨k + 1, by omega, by go_num, by rw [← HZ.out], below_drewN HZ0.out _⟩
                      case measure => omega
                  · obtain rfl : k = 16 := by omega
                    have hcv3 := conv_sb (A := A3) (l := I) (n := I.length) c3 rfl (HX12.out.1.2.2.1.below hbz)
                    have hcv4 := conv_sb (A := A4) (l := J) (n := J.length) c4 rfl (HX12.out.1.2.2.2.below hbz)
                    obtain ⟨Z, hZ⟩ : ∃ Z, Z = cl G H 16 := ⟨_, rfl⟩
                    rw [HDE.out] at heq
                    rw [← hZ] at heq ⊢
                    have HBD : Hid (Blk _ N1 (bs D) 44) := Lib.hid (HX12.out.2.1.below hbz HX12.out.2.1.lt)
                    have HBE : Hid (Blk _ N2 (bs E) 44) := Lib.hid (HX12.out.2.2.1.below hbz HX12.out.2.2.1.lt)
                    have HF : Hid (Below w.heap.size w _) := Lib.hid (below_next HX12.out.1.1 hbz)
                    clear hZ hbz
                    go_wp2_with (first
                      | (refine wpList_load_all_if (by rfl) 44 (.tmp 12) rfl N1 rfl HBD.out _ Tryd.underlying44 rfl (by rw [HDL.out.1]; exact Tryd.size44) ?_)
                      | (refine wpList_load_all_if (by rfl) 44 (.tmp 13) rfl N2 rfl HBE.out _ Tryd.underlying44 rfl (by rw [HDL.out.2]; exact Tryd.size44) ?_))
                    go_ret
                    exact ⟨rfl, HF.out⟩
      | true =>
        have htag : (((x.toNat : Int)) == ((y.toNat : Int))) = true := by rw [show (((x.toNat : Int)) == ((y.toNat : Int))) = decide ((x.toNat : Int) = (y.toNat : Int)) from rfl, tag_eq, hT]
        obtain ⟨Q, hQ⟩ : ∃ Q, Q = decide (a.length = b.length) := ⟨_, rfl⟩
        have hlen : (((a.length : Int)) == ((b.length : Int))) = Q := by rw [hQ, show (((a.length : Int)) == ((b.length : Int))) = decide ((a.length : Int) = (b.length : Int)) from rfl]; simp; omega
        have HS0 : Hid (Q = sm x y a b 0) := Lib.hid (by rw [sm_zero, hT, ← hQ]; rfl)
        have HQ := Lib.hid hQ; clear hQ
        go_enter Tryd.func8, Tryd.ntmps8
        go_wp2_with (first
          | (refine (sanity_any _ (HK.out.1.of HW0.out.1)).mono ?_; rintro e w1 ⟨rfl, hb1⟩; have HB1 : Hid (Below w.heap.size w w1 ∧ Blk w1 w.heap.size (bs [x, y]) 48) := Lib.hid ⟨below_next HW0.out.1 hb1, HW0.out.2.below hb1 HW0.out.2.lt⟩; have hcx := HB1.out.2.cell (j := 0) (v := .int .u8 x.toNat) rfl; have hcy := HB1.out.2.cell (j := 1) (v := .int .u8 y.toNat) rfl; clear hb1)
          | ((with_reducible refine (HFA.out _ ?_).mono ?_); exact (HK.out.2.1.below HB1.out.1); rintro e w2 ⟨rfl, rfl⟩)
          | ((with_reducible refine (HFB.out _ ?_).mono ?_); exact (HK.out.2.2.below HB1.out.1); rintro e w2 ⟨rfl, rfl⟩))
        clear htag hlen
        go_loopg [8, 9] a.length (fun g s8 s9 wr => ∃ i : Nat, i + g = a.length ∧ s9 = .int .i64 i ∧ s8 = .bool (sm x y a b i) ∧ Below w.heap.size w wr ∧ Blk wr w.heap.size (bs [x, y]) 48)
        case atStart => exact ⟨0, by omega, rfl, by rw [← HS0.out], HB1.out.1, HB1.out.2⟩
        case round =>
          clear HB1 HS0 hcx hcy
          obtain ⟨i, hi, rfl, rfl, hB1, hB2⟩ := hrel
          have HB := Lib.hid (And.intro hB1 hB2)
          have hcx := hB2.cell (j := 0) (v := .int .u8 x.toNat) rfl
          have hcy := hB2.cell (j := 1) (v := .int .u8 y.toNat) rfl
          by_cases hgo : i < a.length ∧ sm x y a b i = true
          · obtain ⟨hlt, hS⟩ := hgo
            obtain ⟨g, rfl⟩ : ∃ g, gk = g + 1 := ⟨gk - 1, by omega⟩
            have hltb : i < b.length := by have := (sm_true hS).2.1; omega
            have hnx := sm_step hS hlt hltb
            obtain ⟨b1, o1, rfl, hc1⟩ := strs_cell (HK.out.2.1.below hB1) i hlt
            obtain ⟨b2, o2, rfl, hc2⟩ := strs_cell (HK.out.2.2.below hB1) i hltb
            obtain ⟨p, hp⟩ : ∃ p, p = a[i] := ⟨_, rfl⟩
            obtain ⟨q, hq⟩ : ∃ q, q = b[i] := ⟨_, rfl⟩
            rw [← hp] at hc1
            rw [← hq] at hc2
            rw [← hp, ← hq] at hnx
            have hcmp : ((sb p).toList == (sb q).toList) = sm x y a b (i + 1) := by
              rw [hnx, Bool.eq_iff_iff, eqB_iff, beq_iff_eq, ByteArray.toList_eq, ByteArray.toList_eq]
              exact Iff.rfl
            obtain ⟨Z, hZ⟩ : ∃ Z, Z = sm x y a b (i + 1) := ⟨_, rfl⟩
            rw [← hZ] at hcmp
            have HZ := Lib.hid hZ
            rw [hS]
            clear hZ hnx hp hq hS hB1 hB2 hcx hcy
            go_wp2_with fail
            go_quiet (fail)
            go_wp2_with fail
            go_roundg g
            case rel => exact ⟨i + 1, by omega, by go_num, by rw [← HZ.out], below_drewN HB.out.1 _, HB.out.2⟩
            case measure => omega
          · have hfin := sm_fin (by omega) hgo
            cases hF : decide (x = y ∧ a = b) with
            | true =>
              rw [hF] at hfin
              have hia : i = a.length := by
                have : ¬ i < a.length := fun hl => hgo ⟨hl, hfin⟩
                omega
              have hge : ¬ i < a.length := by omega
              obtain ⟨hxy, hab⟩ := of_decide_eq_true hF
              subst hxy hab
              rw [hfin]
              obtain ⟨I, hI⟩ : ∃ I, I = input (x.toNat : Int) a := ⟨_, rfl⟩
              have HIN : Hid (∀ (A : Option Addr) (ca : Nat) W, Rd W A (a.map fun p => .string (sb p)) → Calls Tryd.prog 23 #[.int .i64 x.toNat, .slice A a.length ca] W fun e w' => ∃ v', e = .returned v' ∧ w'.ownsRow W.heap.size 5 1 v' I.length (bs I) ∧ Below W.heap.size W w') := Lib.hid fun A ca W h => by rw [hI]; exact rinput_any _ a A _ ca rfl hfa W h
              clear hI hF hfin hgo hB1 hB2 hi
              have hwx := w64 x
              go_wp2_with (first
                | ((with_reducible refine (HIN.out _ _ _ ?_).mono ?_); exact (HK.out.2.1.below HB.out.1); rintro e w3 ⟨v3, rfl, hown3, hb3⟩; obtain ⟨A3, c3, rfl, hrd3, hne3⟩ := own_rd hown3; have HX3 : Hid (Below w.heap.size w w3 ∧ Rd w3 A3 (bs I) ∧ Blk w3 w.heap.size (bs [x, x]) 48) := Lib.hid ⟨below_next HB.out.1 hb3, hrd3, HB.out.2.below hb3 HB.out.2.lt⟩; have hcy := HX3.out.2.2.cell (j := 1) (v := .int .u8 x.toNat) rfl; clear hb3 hown3 hrd3 hne3)
                | ((with_reducible refine (HIN.out _ _ _ ?_).mono ?_); exact (HK.out.2.2.below HX3.out.1); rintro e w4 ⟨v4, rfl, hown4, hb4⟩; obtain ⟨A4, c4, rfl, hrd4, hne4⟩ := own_rd hown4; have HX4 : Hid (Below w.heap.size w w4) := Lib.hid (below_next HX3.out.1 hb4); have hcv3 := conv_sb (A := A3) (l := I) (n := I.length) (w := w4) c3 rfl (HX3.out.2.1.below hb4); have hcv4 := conv_sb (A := A4) (l := I) (n := I.length) (w := w4) c4 rfl hrd4; clear hb4 hown4 hrd4 hne4))
              go_ret
              exact ⟨rfl, HX4.out⟩
            | false =>
              rw [hF] at hfin
              rw [hfin]
              have hnot : ¬ (x = y ∧ a = b) := of_decide_eq_false hF
              obtain ⟨I, hI⟩ : ∃ I, I = input (x.toNat : Int) a := ⟨_, rfl⟩
              obtain ⟨J, hJ⟩ : ∃ J, J = input (y.toNat : Int) b := ⟨_, rfl⟩
              obtain ⟨D, hD⟩ : ∃ D, D = dig (x.toNat : Int) a := ⟨_, rfl⟩
              obtain ⟨E, hE⟩ : ∃ E, E = dig (y.toNat : Int) b := ⟨_, rfl⟩
              obtain ⟨G, hG⟩ : ∃ G, G = sha I := ⟨_, rfl⟩
              obtain ⟨H, hH⟩ : ∃ H, H = sha J := ⟨_, rfl⟩
              have hIJ : I ≠ J := fun h => hnot (input_inj x y a b hfa hfb (by rw [← hI, ← hJ, h]))
              have hIl := few_input hfa (x.toNat : Int)
              have hJl := few_input hfb (y.toNat : Int)
              have hA3 := few_length hfa
              have hB3 := few_length hfb
              have HIN : Hid (∀ W, Rd W A (a.map fun p => .string (sb p)) → Calls Tryd.prog 23 #[.int .i64 x.toNat, .slice A a.length ca] W fun e w' => ∃ v', e = .returned v' ∧ w'.ownsRow W.heap.size 5 1 v' I.length (bs I) ∧ Below W.heap.size W w') := Lib.hid fun W h => by rw [hI]; exact rinput_any _ a A _ ca rfl hfa W h
              have HJN : Hid (∀ W, Rd W B (b.map fun p => .string (sb p)) → Calls Tryd.prog 23 #[.int .i64 y.toNat, .slice B b.length cb] W fun e w' => ∃ v', e = .returned v' ∧ w'.ownsRow W.heap.size 5 1 v' J.length (bs J) ∧ Below W.heap.size W w') := Lib.hid fun W h => by rw [hJ]; exact rinput_any _ b B _ cb rfl hfb W h
              have HOD : Hid (∀ W, Rd W A (a.map fun p => .string (sb p)) → KH W → Calls Tryd.prog 21 #[.int .i64 x.toNat, .slice A a.length ca] W fun e w' => e = .returned (.agg (bs D).toArray) ∧ Below W.heap.size W w') := Lib.hid fun W h hk => by rw [hD]; exact of_any _ a A _ ca rfl hca hma (fun p hp => by have := hA3.2 p hp; omega) (by omega) W h hk
              have HOE : Hid (∀ W, Rd W B (b.map fun p => .string (sb p)) → KH W → Calls Tryd.prog 21 #[.int .i64 y.toNat, .slice B b.length cb] W fun e w' => e = .returned (.agg (bs E).toArray) ∧ Below W.heap.size W w') := Lib.hid fun W h hk => by rw [hE]; exact of_any _ b B _ cb rfl hcb hmb (fun p hp => by have := hB3.2 p hp; omega) (by omega) W h hk
              have HSG : Hid (∀ (A : Option Addr) c W, Rd W A (bs I) → KH W → Calls Tryd.prog 11 #[.slice A I.length c] W fun e w' => e = .returned (.agg (bs G).toArray) ∧ Below W.heap.size W w') := Lib.hid fun A c W h hk => by rw [hG]; exact hsum_any I A _ c rfl (by rw [hI]; omega) W h hk
              have HSH : Hid (∀ (A : Option Addr) c W, Rd W A (bs J) → KH W → Calls Tryd.prog 11 #[.slice A J.length c] W fun e w' => e = .returned (.agg (bs H).toArray) ∧ Below W.heap.size W w') := Lib.hid fun A c W h hk => by rw [hH]; exact hsum_any J A _ c rfl (by rw [hJ]; omega) W h hk
              have HDL : Hid ((bs D).length = 16 ∧ (bs E).length = 16) := Lib.hid ⟨by rw [bs_length, hD, dig_length], by rw [bs_length, hE, dig_length]⟩
              have HGL : Hid ((bs G).length = 32 ∧ (bs H).length = 32) := Lib.hid ⟨by rw [bs_length, hG, sha_length], by rw [bs_length, hH, sha_length]⟩
              have HDE : Hid (eqB D E = cl G H 16) := Lib.hid (by rw [hD, hE, dig, dig, ← hI, ← hJ, ← hG, ← hH]; exact eq_cl G H)
              have heq : ∀ W, (Op.equalIn 10000 44 (.agg (bs D).toArray) (.agg (bs E).toArray)).run Tryd.prog W = .ok (eqB D E) W := fun W => eq44 D E (by rw [hD, dig_length]) (by rw [hE, dig_length]) W
              have hcmp1 : ((sb I).toList == (sb J).toList) = false := by
                rw [ByteArray.toList_eq, ByteArray.toList_eq, beq_eq_false_iff_ne]
                exact hIJ
              have hcmp2 : ((sb I).toList != (sb J).toList) = true := by
                rw [bne, hcmp1]
                rfl
              clear hI hJ hD hE hG hH hIJ hIl hJl hA3 hB3 hnot hF hfin hgo hB1 hB2 hi
              have hwx := w64 x
              have hwy := w64 y
              go_wp2_with (first
                | ((with_reducible refine (HIN.out _ ?_).mono ?_); exact (HK.out.2.1.below HB.out.1); rintro e w3 ⟨v3, rfl, hown3, hb3⟩; obtain ⟨A3, c3, rfl, hrd3, hne3⟩ := own_rd hown3; have HX3 : Hid (Below w.heap.size w w3 ∧ Rd w3 A3 (bs I) ∧ Blk w3 w.heap.size (bs [x, y]) 48) := Lib.hid ⟨below_next HB.out.1 hb3, hrd3, HB.out.2.below hb3 HB.out.2.lt⟩; have hcy3 := HX3.out.2.2.cell (j := 1) (v := .int .u8 y.toNat) rfl; clear hb3 hown3 hrd3 hne3 hcx hcy)
                | ((with_reducible refine (HJN.out _ ?_).mono ?_); exact (HK.out.2.2.below HX3.out.1); rintro e w4 ⟨v4, rfl, hown4, hb4⟩; obtain ⟨A4, c4, rfl, hrd4, hne4⟩ := own_rd hown4; have HX4 : Hid (Wst x y A3 A4 I J w w4) := Lib.hid ⟨below_next HX3.out.1 hb4, HX3.out.2.2.below hb4 HX3.out.2.2.lt, HX3.out.2.1.below hb4, hrd4⟩; have hcx4 := HX4.out.cx; clear hb4 hown4 hrd4 hne4 hcy3)
                | ((with_reducible refine (HOD.out _ ?_ ?_).mono ?_); exact (HK.out.2.1.below HX4.out.1); exact (HK.out.1.of HX4.out.1); rintro e w5 ⟨rfl, hb5⟩; have HX5 : Hid (Wst x y A3 A4 I J w w5) := Lib.hid (HX4.out.next hb5); clear hb5 hcx4)
                | (refine wpList_store_blk rfl 44 (.tmp 12) (.tmp 81) rfl _ 0 rfl (bs D) rfl (Blk.new' w5 (bs (List.replicate 16 0)) _ 44 rfl) 16 Tryd.size44 HDL.out.1 (by rw [bs_length, List.length_replicate]; omega) (bs_one _) ?_; intro w6 hst6; rw [List.take_zero, List.nil_append, List.drop_of_length_le (by rw [bs_length, List.length_replicate]; omega), List.append_nil] at hst6; have HX6 : Hid (Wst x y A3 A4 I J w w6 ∧ Blk w6 w5.heap.size (bs D) 44) := Lib.hid ⟨HX5.out.next (hst6.below (below_a1 w5 _) (Nat.le_refl _)), hst6.1⟩; have hcy6 := HX6.out.1.cy; clear hst6; generalize w5.heap.size = N1 at HX6 ⊢)
                | ((with_reducible refine (HOE.out _ ?_ ?_).mono ?_); exact (HK.out.2.2.below HX6.out.1.1); exact (HK.out.1.of HX6.out.1.1); rintro e w7 ⟨rfl, hb7⟩; have HX7 : Hid (Wst x y A3 A4 I J w w7 ∧ Blk w7 N1 (bs D) 44) := Lib.hid ⟨HX6.out.1.next hb7, HX6.out.2.below hb7 HX6.out.2.lt⟩; clear hb7 hcy6)
                | (refine wpList_store_blk rfl 44 (.tmp 13) (.tmp 86) rfl _ 0 rfl (bs E) rfl (Blk.new' w7 (bs (List.replicate 16 0)) _ 44 rfl) 16 Tryd.size44 HDL.out.2 (by rw [bs_length, List.length_replicate]; omega) (bs_one _) ?_; intro w8 hst8; rw [List.take_zero, List.nil_append, List.drop_of_length_le (by rw [bs_length, List.length_replicate]; omega), List.append_nil] at hst8; have HX8 : Hid (Wst x y A3 A4 I J w w8 ∧ Blk w8 N1 (bs D) 44 ∧ Blk w8 w7.heap.size (bs E) 44) := Lib.hid ⟨HX7.out.1.next (hst8.below (below_a1 w7 _) (Nat.le_refl _)), HX7.out.2.below (hst8.below (below_a1 w7 _) (Nat.le_refl _)) HX7.out.2.lt, hst8.1⟩; clear hst8; generalize w7.heap.size = N2 at HX8 ⊢)
                | ((with_reducible refine (HSG.out _ _ _ ?_ ?_).mono ?_); exact HX8.out.1.2.2.1; exact (HK.out.1.of HX8.out.1.1); rintro e w9 ⟨rfl, hb9⟩; have HX9 : Hid (Wst x y A3 A4 I J w w9 ∧ Blk w9 N1 (bs D) 44 ∧ Blk w9 N2 (bs E) 44) := Lib.hid ⟨HX8.out.1.next hb9, HX8.out.2.1.below hb9 HX8.out.2.1.lt, HX8.out.2.2.below hb9 HX8.out.2.2.lt⟩; clear hb9)
                | (refine wpList_store_blk rfl 24 (.tmp 14) (.tmp 88) rfl _ 0 rfl (bs G) rfl (Blk.new' w9 (bs (List.replicate 32 0)) _ 24 rfl) 32 Tryd.size24 HGL.out.1 (by rw [bs_length, List.length_replicate]; omega) (bs_one _) ?_; intro w10 hst; rw [List.take_zero, List.nil_append, List.drop_of_length_le (by rw [bs_length, List.length_replicate]; omega), List.append_nil] at hst; have hbz := hst.below (below_a1 w9 _) (Nat.le_refl _); have HX10 : Hid (Wst x y A3 A4 I J w w10 ∧ Blk w10 N1 (bs D) 44 ∧ Blk w10 N2 (bs E) 44 ∧ Blk w10 w9.heap.size (bs G) 24) := Lib.hid ⟨HX9.out.1.next hbz, HX9.out.2.1.below hbz HX9.out.2.1.lt, HX9.out.2.2.below hbz HX9.out.2.2.lt, hst.1⟩; clear hst hbz; generalize w9.heap.size = N3 at HX10 ⊢)
                | ((with_reducible refine (HSH.out _ _ _ ?_ ?_).mono ?_); exact HX10.out.1.2.2.2; exact (HK.out.1.of HX10.out.1.1); rintro e w11 ⟨rfl, hbz⟩; have HX11 : Hid (Wst x y A3 A4 I J w w11 ∧ Blk w11 N1 (bs D) 44 ∧ Blk w11 N2 (bs E) 44 ∧ Blk w11 N3 (bs G) 24) := Lib.hid ⟨HX10.out.1.next hbz, HX10.out.2.1.below hbz HX10.out.2.1.lt, HX10.out.2.2.1.below hbz HX10.out.2.2.1.lt, HX10.out.2.2.2.below hbz HX10.out.2.2.2.lt⟩; clear hbz)
                | (refine wpList_store_blk rfl 24 (.tmp 15) (.tmp 90) rfl _ 0 rfl (bs H) rfl (Blk.new' w11 (bs (List.replicate 32 0)) _ 24 rfl) 32 Tryd.size24 HGL.out.2 (by rw [bs_length, List.length_replicate]; omega) (bs_one _) ?_; intro w12 hst; rw [List.take_zero, List.nil_append, List.drop_of_length_le (by rw [bs_length, List.length_replicate]; omega), List.append_nil] at hst; have hbz := hst.below (below_a1 w11 _) (Nat.le_refl _); have HX12 : Hid (Wst x y A3 A4 I J w w12 ∧ Blk w12 N1 (bs D) 44 ∧ Blk w12 N2 (bs E) 44 ∧ Blk w12 N3 (bs G) 24 ∧ Blk w12 w11.heap.size (bs H) 24) := Lib.hid ⟨HX11.out.1.next hbz, HX11.out.2.1.below hbz HX11.out.2.1.lt, HX11.out.2.2.1.below hbz HX11.out.2.2.1.lt, HX11.out.2.2.2.below hbz HX11.out.2.2.2.lt, hst.1⟩; clear hst hbz; generalize w11.heap.size = N4 at HX12 ⊢))
              all_goals
                go_loopg [16, 17] 16 (fun g s16 s17 wz => ∃ i : Nat, i + g = 16 ∧ s17 = .int .i64 i ∧ s16 = .bool (cl G H i) ∧ Below w12.heap.size w12 wz)
                case atStart => exact ⟨0, by omega, rfl, by rw [cl_zero], Below.refl _ _⟩
                case round =>
                  obtain ⟨k, hk, rfl, rfl, hbz⟩ := hrel
                  have HZ0 := Lib.hid hbz
                  by_cases hlt : k < 16
                  · obtain ⟨g, rfl⟩ : ∃ g, gk = g + 1 := ⟨gk - 1, by omega⟩
                    have hst := cl_step G H k (by have := HGL.out.1; rw [bs_length] at this; omega) (by have := HGL.out.2; rw [bs_length] at this; omega)
                    have hcg := (HX12.out.2.2.2.1.below hbz HX12.out.2.2.2.1.lt).cell (bs_getD G k (by have := HGL.out.1; rw [bs_length] at this; omega))
                    have hch := (HX12.out.2.2.2.2.below hbz HX12.out.2.2.2.2.lt).cell (bs_getD H k (by have := HGL.out.2; rw [bs_length] at this; omega))
                    generalize G.getD k 0 = u at hst hcg
                    generalize H.getD k 0 = v at hst hch
                    clear hbz
                    cases hq : cl G H k with
                    | true =>
                      rw [hq, Bool.true_and] at hst
                      have huv : (((u.toNat : Int)) == ((v.toNat : Int))) = cl G H (k + 1) := by rw [hst, show (((u.toNat : Int)) == ((v.toNat : Int))) = decide ((u.toNat : Int) = (v.toNat : Int)) from rfl, tag_eq]
                      obtain ⟨Z, hZ⟩ : ∃ Z, Z = cl G H (k + 1) := ⟨_, rfl⟩
                      rw [← hZ] at huv
                      have HZ := Lib.hid hZ
                      clear hZ hst hq
                      go_wp2_with fail
                      go_quiet (fail)
                      go_wp2_with fail
                      go_roundg g
                      case rel => exact ⟨k + 1, by omega, by go_num, by rw [← HZ.out], below_drewN HZ0.out _⟩
                      case measure => omega
                    | false =>
                      rw [hq, Bool.false_and] at hst
                      have HZ : Hid (false = cl G H (k + 1)) := Lib.hid hst.symm
                      clear hst hq hcg hch
                      go_wp2_with fail
                      go_quiet (fail)
                      go_wp2_with fail
                      go_roundg g
                      case rel => exact ⟨k + 1, by omega, by go_num, by rw [← HZ.out], below_drewN HZ0.out _⟩
                      case measure => omega
                  · obtain rfl : k = 16 := by omega
                    have hcv3 := conv_sb (A := A3) (l := I) (n := I.length) c3 rfl (HX12.out.1.2.2.1.below hbz)
                    have hcv4 := conv_sb (A := A4) (l := J) (n := J.length) c4 rfl (HX12.out.1.2.2.2.below hbz)
                    obtain ⟨Z, hZ⟩ : ∃ Z, Z = cl G H 16 := ⟨_, rfl⟩
                    rw [HDE.out] at heq
                    rw [← hZ] at heq ⊢
                    have HBD : Hid (Blk _ N1 (bs D) 44) := Lib.hid (HX12.out.2.1.below hbz HX12.out.2.1.lt)
                    have HBE : Hid (Blk _ N2 (bs E) 44) := Lib.hid (HX12.out.2.2.1.below hbz HX12.out.2.2.1.lt)
                    have HF : Hid (Below w.heap.size w _) := Lib.hid (below_next HX12.out.1.1 hbz)
                    clear hZ hbz
                    go_wp2_with (first
                      | (refine wpList_load_all_if (by rfl) 44 (.tmp 12) rfl N1 rfl HBD.out _ Tryd.underlying44 rfl (by rw [HDL.out.1]; exact Tryd.size44) ?_)
                      | (refine wpList_load_all_if (by rfl) 44 (.tmp 13) rfl N2 rfl HBE.out _ Tryd.underlying44 rfl (by rw [HDL.out.2]; exact Tryd.size44) ?_))
                    go_ret
                    exact ⟨rfl, HF.out⟩
section
variable {H : Type} {enc : TypeId × Value → H}
theorem cell_tag {W : World} {b0 m : Nat} {v : Value} {x : DataW H × List MemPlace} (h : DataW.trod enc Tryd.prog W b0 (fun _ => true) true m 5 [v] = some x) : ∃ u : UInt8, v = .int .u8 u.toNat := by
  obtain ⟨n, hn, _, hw⟩ := DataW.trod_int Tryd.underlying5 h
  have h1 : IntKind.u8.min = 0 := rfl
  have h2 : IntKind.u8.max = 255 := rfl
  simp only [Lit.wf, Bool.and_eq_true, decide_eq_true_eq, h1, h2] at hw
  refine ⟨UInt8.ofNat n.toNat, ?_⟩
  have e : (UInt8.ofNat n.toNat).toNat = n.toNat := UInt8.toNat_ofNat_of_lt' (by have : UInt8.size = 256 := rfl; omega)
  have hn' : v = .int .u8 n := by simpa using hn
  rw [hn', e]
  congr 1
  omega
theorem open_tags {W : World} {v : Value} {d : DataW H} {ps : List MemPlace} {b0 : Nat} (hval : Value.okWide Tryd.prog W .any b0 48 v) (h : DataW.Trod enc Tryd.prog W 0 (fun _ => true) true 48 v d ps) :
    ∃ x y : UInt8, v = .agg #[.int .u8 x.toNat, .int .u8 y.toNat] := by
  simp only [Value.okWide, Tryd.underlying48] at hval
  obtain ⟨cs, rfl, hs, _⟩ := hval
  have h2 : Tryd.prog.cellsOf 48 = 2 := by kernel_rfl
  have h1 : Tryd.prog.cellsOf 5 = 1 := by kernel_rfl
  rw [h2] at hs
  obtain ⟨c0, c1, rfl⟩ : ∃ c0 c1, cs = #[c0, c1] := ⟨cs[0], cs[1], by apply Array.ext <;> simp [hs]; intro i hi; rcases i with _ | _ | i <;> simp_all; omega⟩
  obtain ⟨fuel, hf⟩ := h
  obtain ⟨xs, m, rfl, _, _, hl, hx⟩ := DataW.trod_array Tryd.underlying48 hf
  have e0 := hx 0 (by omega)
  have e1 := hx 1 (by omega)
  rw [h1] at e0 e1
  simp only [Value.cells, List.getElem?_eq_getElem (by omega : 0 < xs.length)] at e0
  simp only [Value.cells, List.getElem?_eq_getElem (by omega : 1 < xs.length)] at e1
  obtain ⟨u0, r0⟩ := cell_tag (v := c0) (by simpa using e0)
  obtain ⟨u1, r1⟩ := cell_tag (v := c1) (by simpa using e1)
  exact ⟨u0, u1, by rw [r0, r1]⟩
end

set_option maxRecDepth 100000 in
theorem contract (H : Type) (enc : TypeId × Value → H) (W : World) (base : Nat) (args : Array Value) (ds gs : List (DataW H)) (before : List MemPlace)
    (hval : ∀ (j : Nat) t v, Tryd.f8.params[j]? = some t → args[j]? = some v → Value.okWide Tryd.prog W .any base t v)
    (hW : DataW.Whole enc Tryd.prog Tryd.f8.params.toList Rows.hashOfSeparatesSpec.vars false W args.toList ds gs before)
    (hsz : (DataW.weightsEach Tryd.prog (Tryd.f8.params.toList ++ Rows.hashOfSeparatesSpec.plain.varTypes Tryd.prog) (ds ++ gs)).all (· ≤ reachBytes) = true) (hK : KH W) :
    Calls Tryd.prog 8 args W fun e W' => ∃ v, e = .returned v ∧ Rows.hashOfSeparatesSpec.post enc Tryd.prog Tryd.f8 false true false false W args v W' := by
  have hW' := hW
  obtain ⟨p, q, hA0, hV, rfl, hfz, hnd⟩ := hW
  have hA : DataW.TrodAll enc Tryd.prog W 0 (fun _ => true) true Tryd.f8.params.toList args.toList ds p := hA0
  rw [Tryd.params8] at hA hval hsz
  obtain ⟨v0, v1, v2, d0, d1, d2, p0, p1, p2, rfl, rfl, rfl, h0, h1, h2⟩ := trodAll_three hA
  obtain ⟨rfl, rfl⟩ := trodVars_none hV
  obtain ⟨x, y, rfl⟩ := open_tags (hval 0 48 v0 rfl rfl) h0
  obtain ⟨A, a, ca, rfl, hra, hca, hma, hreacha⟩ := open_parts (hval 1 27 v1 rfl rfl) h1
  obtain ⟨hla, hpa⟩ := hreacha hsz (j := 1) rfl rfl
  obtain ⟨B, b, cb, rfl, hrb, hcb, hmb, hreachb⟩ := open_parts (hval 2 27 v2 rfl rfl) h2
  obtain ⟨hlb, hpb⟩ := hreachb hsz (j := 2) rfl rfl
  refine (walk_aux x y a b A B ca cb hca hcb hma hmb hla hlb hpa hpb W hra hrb hK).mono fun e W' ⟨he, hb⟩ => ⟨_, he, ?_⟩
  exact law_post rfl rfl (by kernel_rfl) hW' rfl hb

set_option maxRecDepth 100000 in
theorem lifted (os : Os) (started : os.Started) (H : Type) (enc : TypeId × Value → H) :
    ReturnsInHanded {} Tryd.checked os 8 .any (fun w args => (Rows.hashOfSeparatesSpec.pre enc Tryd.prog Tryd.f8 [] false w args ∧ laidMetH Tryd.prog laid1 w) ∧ sizedMet enc Tryd.prog Tryd.f8 (OpenSpec.ofChange Rows.hashOfSeparatesSpec) false w args)
      (Rows.hashOfSeparatesSpec.post enc Tryd.prog Tryd.f8 false true false false) := by
  refine returnsInHanded_of_change_and (C := Tryd.checked) (X := fun w _ => laidMetH Tryd.prog laid1 w) (fun _ _ _ hh h => h.of_heap hh) Tryd.own started (by kernel_rfl) Tryd.func8
    (ChangeSpec.witness_shaped (enc := enc) (C := Tryd.checked) (os := os) (X := fun w _ => laidMetH Tryd.prog laid1 w) false (World.doorLaid Tryd.prog 400 os) #[.agg #[.int .u8 0, .int .u8 0], .slice none 0 0, .slice none 0 0] 8 rfl (World.shaped_of_RefB (by kernel_rfl) (by kernel_rfl)) (by kernel_rfl) (by kernel_rfl) (by kernel_rfl) (door_met1 os _)) ?_
  intro W base args ds gs before hval hW _ hsz hL _
  exact contract H enc W base args ds gs before hval hW hsz (of_laid1 hL)

theorem row : Rows.HashOfSeparatesSaid :=
  OpenClaim.holds_of_wide 8 Tryd.f8 rfl rfl rfl rfl rfl rfl rfl ⟨rfl, rfl, rfl, rfl, rfl⟩ rfl rfl rfl rfl rfl (by kernel_rfl) Tryd.func8 (by kernel_rfl)
    (of_decide_eq_true (by kernel_rfl)) (by unfold Func.isWrapper; first | (rw [if_pos (by decide +kernel)]; kernel_rfl) | (rw [if_neg (by decide +kernel)]; exact ⟨rfl, rfl⟩))
    (fun os started H enc _ => lifted os started H enc)

theorem proved : Rows.HashOfSeparatesCardSaid :=
  Claim7.holds_tied_plain_at .later [] [.data] true (true, "6fa3fdd116d3381a5e582ac1ee652fca5a46acc6e7226d526a164f01037ac487") false
    row (fun _ h => by cases h) (by kernel_rfl) (fun _ h => by cases h) hashOfSeparates_row_tie rfl ⟨rfl, rfl⟩ (by kernel_rfl) rfl
    (fun f fn hf hfn => by
      obtain rfl : f = 8 := Option.some.inj ((show Tryd.prog.funcNamed "wordbook/wordbooklaw02.HashOfSeparates" = some 8 by kernel_rfl).symm.trans hf) |>.symm
      obtain rfl : fn = Tryd.f8 := (Option.some.inj (Tryd.func8.symm.trans hfn)).symm
      exact ⟨by kernel_rfl, fun j t ht => by
        rw [Tryd.params8] at ht
        have hm : t ∈ [48, 27, 27] := by simpa using Array.mem_of_getElem? ht
        have hall : ([48, 27, 27].all fun u => !Tryd.prog.wantsStandIn u) = true := by kernel_rfl
        exact (show Tryd.prog.wantsStandIn t = false by simpa using List.all_eq_true.1 hall t hm)⟩)
    (by kernel_rfl)
end L6
end Go.Proofs.YtpidddafbehmpaaDoor
