/-
  The walks of sign's advance, parent, bottomValues.
-/
import Derived.Test.YtbgcnfikcddcpaaDoorSDig
import Derived.Test.YtbgcnfikcddcpaaDoorSInts
import Derived.Test.YtbgcnfikcddcpaaDoorSBld
import Derived.Deep.RegionLaw
namespace Go.Proofs.YtbgcnfikcddcpaaDoor
open Go.RowKit
set_option linter.unusedVariables false
open Sha Sgn
theorem KH.of {w W : World} (hK : KH w) (hb : Below w.heap.size w W) : KH W := hK.below hb hK.2
theorem Rd.of_blk {W : World} {b : Nat} {C : List Value} {T : TypeId} (h : Blk W b C T) : Rd W (some ⟨b, 0, none⟩) C := .inr ⟨b, 0, rfl, fun k v hv => by rw [Nat.zero_add]; exact h.cell hv⟩
/-- wire.Ints of a list that lies at the head of a block: what comes is turned to a string as it is. -/
theorem ints_at (l : List Int) (E : List UInt8) (hE : E = eL l) (b n : Nat) (hn : n = l.length) (hl : l.length ≤ 1000) (hi : ∀ n ∈ l, inI n) (W : World) (hr : Rd W (some ⟨b, 0, none⟩) (l.map (Value.int .i64))) :
    Calls Tryd.prog 53 #[.slice (some ⟨b, 0, none⟩) n n] W fun e w' => ∃ A c, e = .returned (.slice A E.length c) ∧ (convert 58 9 (.slice A E.length c)).run Tryd.prog w' = .ok (.string (sb E)) w' ∧ Below W.heap.size W w' := by
  subst hn hE
  exact (ints_any l _ _ W (by omega) hi hr).mono fun e w' ⟨v, he, hown, hb⟩ => by
    obtain ⟨A, c, rfl, hrd, _, _⟩ := Rd.of_own hown
    exact ⟨A, c, he, conv_sb c rfl hrd, hb⟩
theorem sl44 (b : Nat) (w : World) : (Instr.sliceAt 23 (.pointer (some ⟨b, 0, none⟩)) none none none).run Tryd.prog w = .ok (.slice (some ⟨b, 0, none⟩) 16 16) w :=
  slice_arr_all (P := Tryd.prog) (t := 23) Tryd.underlying23 Tryd.size1 b 0 w
theorem eL_length (l : List Int) : (eL l).length ≤ 9 + 9 * l.length := by
  have h1 := en_len9 l.length
  have h2 := flatMap_en_len l
  rw [eL, List.length_append]
  omega
theorem input_len (tag : Int) (l : List (List UInt8)) (h : ∀ p ∈ l, p.length ≤ 2000000) : (input tag l).length ≤ 1 + 2000009 * l.length := by
  have : (l.flatMap eB).length ≤ 2000009 * l.length := by
    clear tag
    induction l with
    | nil => simp
    | cons a r ih =>
      have h1 : (eB a).length ≤ a.length + 9 := by have := en_len9 a.length; simp [eB]; omega
      have h2 := h a (by simp)
      have h3 := ih fun p hp => h p (by simp [hp])
      simp only [List.flatMap_cons, List.length_append, List.length_cons]
      omega
  rw [input, List.length_cons]
  omega
/-- hash.Of of parts that lie at the head of a block. -/
theorem of_at (tag : Int) (parts : List (List UInt8)) (D : List UInt8) (hD : D = dig tag parts) (b n : Nat) (hn : n = parts.length) (hp : ∀ p ∈ parts, p.length ≤ 2000000) (hl : parts.length ≤ 1000) (W : World) (hr : Rd W (some ⟨b, 0, none⟩) (parts.map fun p => .string (sb p))) (hK : KH W) :
    Calls Tryd.prog 40 #[.int .i64 tag, .slice (some ⟨b, 0, none⟩) n n] W fun e w' => e = .returned (.agg (bs D).toArray) ∧ Below W.heap.size W w' := by
  subst hD
  have := input_len tag parts hp
  have h2 : n ≤ maxLen := by unfold maxLen; omega
  exact of_any tag parts _ n n hn (by omega) h2 (fun p h => by have := hp p h; omega) (by omega) W hr hK
theorem Tryd.zero44 : (Tryd.prog.info? 23).map (fun i => (i.zero, i.size)) = some (some (.agg (bs (List.replicate 16 0)).toArray), 16) := by kernel_rfl

set_option maxRecDepth 100000 in
set_option maxHeartbeats 1000000 in
theorem advance_aux (i : Int) (hi : inI i) (c f n : Nat) (v R : List UInt8) (hR : R = adv i c f n v) (hc : c ≤ 1000) (hf : f + n ≤ 1000) (hv : v.length ≤ 1000) (w : World) (hK : KH w) :
    Calls Tryd.prog 34 #[.int .i64 i, .int .i64 c, .string (sb v), .int .i64 f, .int .i64 ((f + n : Nat) : Int)] w fun e w' => e = .returned (.string (sb R)) ∧ Below w.heap.size w w' := by
  have HK := Lib.hid hK; clear hK
  have HI := Lib.hid hi; clear hi
  have HR := Lib.hid hR; clear hR
  go_enter Tryd.func34, Tryd.ntmps34
  go_wp2_with fail
  go_loopg [2, 11] n (fun g s2 s11 wr => ∃ (k : Nat) (u : List UInt8), k + g = n ∧ s11 = .int .i64 ((f + k : Nat) : Int) ∧ s2 = .string (sb u) ∧ Hid (u = adv i c f k v) ∧ u.length ≤ 1000 ∧ Below w.heap.size w wr)
  case atStart => exact ⟨0, v, by omega, rfl, rfl, Lib.hid rfl, hv, Below.refl _ _⟩
  case round =>
    obtain ⟨k, u, hk, rfl, rfl, HU, hul, hBl⟩ := hrel
    by_cases hlt : k < n
    · obtain ⟨g, rfl⟩ : ∃ g, gk = g + 1 := ⟨gk - 1, by omega⟩
      obtain ⟨E, hE⟩ : ∃ E, E = eL [i, (c : Int), ((f + k : Nat) : Int)] := ⟨_, rfl⟩
      have hEl : E.length ≤ 1000000 := by have := eL_length [i, (c : Int), ((f + k : Nat) : Int)]; rw [hE]; simp only [List.length_cons, List.length_nil] at this; omega
      obtain ⟨D, hD⟩ : ∃ D, D = stp i c (f + k) u := ⟨_, rfl⟩
      have hDl : (bs D).length = 16 := by rw [bs_length, hD, stp_length]
      have HN : Hid (D = adv i c f (k + 1) v) := Lib.hid (by rw [adv_snoc, ← HU.out, hD])
      have HIN : Hid (∀ (b : Nat) (W : World), Rd W (some ⟨b, 0, none⟩) [.int .i64 i, .int .i64 (c : Int), .int .i64 ((f + k : Nat) : Int)] → Calls Tryd.prog 53 #[.slice (some ⟨b, 0, none⟩) 3 3] W fun e w' => ∃ A c, e = .returned (.slice A E.length c) ∧ (convert 58 9 (.slice A E.length c)).run Tryd.prog w' = .ok (.string (sb E)) w' ∧ Below W.heap.size W w') :=
        Lib.hid fun b W h => ints_at _ E hE b 3 rfl (by simp) (by intro m hm; simp at hm; rcases hm with rfl | rfl | rfl; exact HI.out; all_goals unfold inI; omega) W h
      have HOF : Hid (∀ (b : Nat) (W : World), Rd W (some ⟨b, 0, none⟩) [.string (sb E), .string (sb u)] → KH W → Calls Tryd.prog 40 #[.int .i64 8, .slice (some ⟨b, 0, none⟩) 2 2] W fun e w' => e = .returned (.agg (bs D).toArray) ∧ Below W.heap.size W w') :=
        Lib.hid fun b W h hk => of_at 8 [E, u] D (by rw [hD, stp, hE]) b 2 rfl (by intro p hp; simp at hp; rcases hp with rfl | rfl <;> omega) (by simp) W h hk
      have HDL := Lib.hid hDl
      have HDl16 : Hid (D.length = 16) := Lib.hid (by rw [hD, stp_length])
      have HBL := Lib.hid hBl
      clear hE hD hDl hBl
      have hsl := sl44
      go_wp2_with (first
        | (refine (HIN.out _ _ (Rd.of_blk (Blk.at _ [.int .i64 i, .int .i64 (c : Int), .int .i64 ((f + k : Nat) : Int)] _ _ _ rfl rfl))).mono ?_; rintro e x1 ⟨A1, c1, rfl, hcv1, hb1⟩; have HX1 : Hid (Below w.heap.size w x1) := Lib.hid (below_next (al HBL.out _) hb1); clear hb1)
        | (refine (HOF.out _ _ (Rd.of_blk (Blk.at _ [.string (sb E), .string (sb u)] _ _ _ rfl rfl)) (HK.out.of (al HX1.out _))).mono ?_; rintro e x2 ⟨rfl, hb2⟩; have HX2 : Hid (Below w.heap.size w x2) := Lib.hid (below_next (al HX1.out _) hb2); clear hb2 hcv1)
        | (refine wpList_store_blk rfl 23 (.tmp 12) (.tmp 27) rfl x2.heap.size 0 rfl (bs D) rfl (Blk.new' x2 (bs (List.replicate 16 0)) _ 23 rfl) 16 Tryd.size44 HDL.out (by rw [bs_length, List.length_replicate]; omega) (bs_one _) ?_; intro x3 hst3; rw [List.take_zero, List.nil_append, List.drop_of_length_le (by rw [bs_length, List.length_replicate]; omega), List.append_nil] at hst3; have HX3 : Hid (Blk x3 x2.heap.size (bs D) 23 ∧ Below w.heap.size w x3) := Lib.hid ⟨hst3.1, hst3.below (al HX2.out _) HX2.out.size⟩; have hcv3 := conv_blk (n := 16) 16 hst3.1 HDl16.out.symm; clear hst3))
      go_roundg g
      case rel => exact ⟨k + 1, D, by omega, by go_num, rfl, HN, by rw [HDl16.out]; omega, HX3.out.2⟩
      case measure => omega
    · obtain rfl : k = n := by omega
      have HE : Hid (u = R) := Lib.hid (by rw [HU.out, HR.out])
      have HBL := Lib.hid hBl; clear hBl
      go_wp2_with fail
      go_ret
      exact ⟨by rw [HE.out]; rfl, HBL.out⟩
theorem advance_any (i : Int) (hi : inI i) (c f n : Nat) (C F T : Int) (hC : C = (c : Int)) (hF : F = (f : Int)) (hT : T = ((f + n : Nat) : Int)) (v : List UInt8) (hc : c ≤ 1000) (hf : f + n ≤ 1000) (hv : v.length ≤ 1000) (w : World) (hK : KH w) :
    Calls Tryd.prog 34 #[.int .i64 i, .int .i64 C, .string (sb v), .int .i64 F, .int .i64 T] w fun e w' => e = .returned (.string (sb (adv i c f n v))) ∧ Below w.heap.size w w' := by
  subst hC hF hT
  exact advance_aux i hi c f n v _ rfl hc hf hv w hK

set_option maxRecDepth 100000 in
set_option maxHeartbeats 1000000 in
theorem parent_aux (a b D : List UInt8) (hD : D = par a b) (ha : a.length = 16) (hb : b.length = 16) (w : World) (hK : KH w) :
    Calls Tryd.prog 50 #[.agg (bs a).toArray, .agg (bs b).toArray] w fun e w' => e = .returned (.agg (bs D).toArray) ∧ Below w.heap.size w w' := by
  have HK := Lib.hid hK; clear hK
  have hDl : (bs D).length = 16 := by rw [bs_length, hD, par_length]
  have HOF : Hid (∀ (g : Nat) (W : World), Rd W (some ⟨g, 0, none⟩) [.string (sb a), .string (sb b)] → KH W → Calls Tryd.prog 40 #[.int .i64 2, .slice (some ⟨g, 0, none⟩) 2 2] W fun e w' => e = .returned (.agg (bs D).toArray) ∧ Below W.heap.size W w') :=
    Lib.hid fun g W h hk => of_at 2 [a, b] D (by rw [hD, par]) g 2 rfl (by intro p hp; simp at hp; rcases hp with rfl | rfl <;> omega) (by simp) W h hk
  have HDL := Lib.hid hDl; clear hD hDl
  have HA : Hid (Blk (((w.alloc (.cells (bs a).toArray 23)).alloc (.cells (bs b).toArray 23)).alloc (.cells #[.int .u8 0, .int .u8 0, .int .u8 0, .int .u8 0, .int .u8 0, .int .u8 0, .int .u8 0, .int .u8 0, .int .u8 0, .int .u8 0, .int .u8 0, .int .u8 0, .int .u8 0, .int .u8 0, .int .u8 0, .int .u8 0] 23)) w.heap.size (bs a) 23 ∧
      Blk (((w.alloc (.cells (bs a).toArray 23)).alloc (.cells (bs b).toArray 23)).alloc (.cells #[.int .u8 0, .int .u8 0, .int .u8 0, .int .u8 0, .int .u8 0, .int .u8 0, .int .u8 0, .int .u8 0, .int .u8 0, .int .u8 0, .int .u8 0, .int .u8 0, .int .u8 0, .int .u8 0, .int .u8 0, .int .u8 0] 23)) (w.heap.size + 1) (bs b) 23 ∧
      Blk (((w.alloc (.cells (bs a).toArray 23)).alloc (.cells (bs b).toArray 23)).alloc (.cells #[.int .u8 0, .int .u8 0, .int .u8 0, .int .u8 0, .int .u8 0, .int .u8 0, .int .u8 0, .int .u8 0, .int .u8 0, .int .u8 0, .int .u8 0, .int .u8 0, .int .u8 0, .int .u8 0, .int .u8 0, .int .u8 0] 23)) (w.heap.size + 1 + 1) (bs (List.replicate 16 0)) 23 ∧
      Below w.heap.size w (((w.alloc (.cells (bs a).toArray 23)).alloc (.cells (bs b).toArray 23)).alloc (.cells #[.int .u8 0, .int .u8 0, .int .u8 0, .int .u8 0, .int .u8 0, .int .u8 0, .int .u8 0, .int .u8 0, .int .u8 0, .int .u8 0, .int .u8 0, .int .u8 0, .int .u8 0, .int .u8 0, .int .u8 0, .int .u8 0] 23))) :=
    Lib.hid ⟨((Blk.at w _ _ _ _ rfl rfl).alloc _).alloc _, (Blk.at _ _ _ _ _ rfl (by simp)).alloc _, Blk.at _ _ _ _ _ rfl (by simp), ((below_a1 _ _).alloc (by simp) _).alloc (by simp; omega) _⟩
  go_enter Tryd.func50, Tryd.ntmps50
  go_wp2_with fail
  generalize ((w.alloc (.cells (bs a).toArray 23)).alloc (.cells (bs b).toArray 23)).alloc (.cells #[.int .u8 0, .int .u8 0, .int .u8 0, .int .u8 0, .int .u8 0, .int .u8 0, .int .u8 0, .int .u8 0, .int .u8 0, .int .u8 0, .int .u8 0, .int .u8 0, .int .u8 0, .int .u8 0, .int .u8 0, .int .u8 0] 23) = W0 at HA ⊢
  have hcA := conv_blk (W := W0.drew) (B := w.heap.size) (n := 16) 16 HA.out.1.drew ha.symm
  have hcB := conv_blk (W := W0.drew) (B := w.heap.size + 1) (n := 16) 16 HA.out.2.1.drew hb.symm
  have hsl := sl44
  clear ha hb
  go_region_with ((go_at_call 40; refine (HOF.out _ _ (Rd.of_blk (Blk.at W0.drew [.string (sb a), .string (sb b)] _ _ _ rfl rfl)) (HK.out.of (al HA.out.2.2.2.drew _))).mono ?_; rintro e x1 ⟨rfl, hb1⟩; obtain ⟨x2, hst2, hs2⟩ := blk_store_all (P := Tryd.prog) ((HA.out.2.2.1.drew.alloc _).below hb1 (HA.out.2.2.1.drew.alloc _).lt) (bs D) (by rw [HDL.out, bs_length, List.length_replicate]) (bs_one _); have HF : Hid (Blk x2 (w.heap.size + 1 + 1) (bs D) 23 ∧ Below w.heap.size w x2) := Lib.hid ⟨hs2.1, hs2.below (below_next (al HA.out.2.2.2.drew _) hb1) (by omega)⟩; clear hs2 hb1))
  all_goals (go_wp2_with fail; exact ret_blk rfl _ rfl HF.out.1 _ Tryd.underlying23 rfl (by rw [HDL.out]; exact Tryd.size44) rfl ⟨rfl, HF.out.2⟩)
theorem parent_any (a b : List UInt8) (ha : a.length = 16) (hb : b.length = 16) (w : World) (hK : KH w) :
    Calls Tryd.prog 50 #[.agg (bs a).toArray, .agg (bs b).toArray] w fun e w' => e = .returned (.agg (bs (par a b)).toArray) ∧ Below w.heap.size w w' := parent_aux a b _ rfl ha hb w hK

/-! ## arrays of strings -/
def ss (l : List (List UInt8)) : List Value := l.map fun p => .string (sb p)
theorem ss_length (l : List (List UInt8)) : (ss l).length = l.length := by simp [ss]
theorem ss_get (l : List (List UInt8)) (k : Nat) (h : k < l.length) : (ss l)[k]? = some (.string (sb (l.getD k []))) := by simp [ss, h]
theorem ss_set (l : List (List UInt8)) (k : Nat) (x : List UInt8) : (ss l).set k (.string (sb x)) = ss (l.set k x) := by simp [ss]
theorem ss_one (l : List (List UInt8)) : ∀ u ∈ ss l, u.oneCell' = true := fun u hu => by
  obtain ⟨_, _, rfl⟩ := List.mem_map.1 hu
  rfl
def preS (k : Nat) (D : List (List UInt8)) (n : Nat) : List (List UInt8) := D.take k ++ List.replicate (n - k) []
theorem preS_zero (D : List (List UInt8)) (n : Nat) : preS 0 D n = List.replicate n [] := by simp [preS]
theorem preS_all (D : List (List UInt8)) : preS D.length D D.length = D := by simp [preS]
theorem preS_length (k : Nat) (D : List (List UInt8)) (n : Nat) (hD : D.length = n) (hk : k ≤ n) : (preS k D n).length = n := by simp [preS]; omega
theorem preS_set (k : Nat) (D : List (List UInt8)) (n : Nat) (hD : D.length = n) (hk : k < n) : (preS k D n).set k (D.getD k []) = preS (k + 1) D n := by
  have e : n - k = (n - (k + 1)) + 1 := by omega
  have hl : (D.take k).length = k := by simp; omega
  have ht : D.take (k + 1) = D.take k ++ [D.getD k []] := by
    rw [List.take_succ_eq_append_getElem (by omega)]
    simp [List.getD, show k < D.length by omega]
  unfold preS
  rw [ht, List.set_append_right _ _ (by omega), hl, e, List.replicate_succ, Nat.sub_self, List.set_cons_zero, List.append_assoc]
  rfl
attribute [irreducible] preS
theorem Tryd.size9 : (Tryd.prog.info? 9).map (·.size) = some 1 := by kernel_rfl
theorem Tryd.size52 : (Tryd.prog.info? 52).map (·.size) = some 68 := by kernel_rfl
theorem Tryd.zero52 : Tryd.zeroCells52 = (ss (List.replicate 68 [])).toArray := by kernel_rfl
/-- A string into one cell of a block. -/
theorem wpList_store_sc {P : Program} {w : World} {ops : Array Oper} {rest : List Oper} {o : Oper} {a : Act} {Q : Exit → Act → World → Prop} (hgd : o.guard = none) (ty : TypeId) (x y : Operand) (ho : o.op = .store ty x y)
    (g j : Nat) (hx : a.eval x = .pointer (some ⟨g, j, none⟩)) (u : ByteArray) (hy : a.eval y = .string u) {C : List Value} {T : TypeId} (hb : Blk w g C T) (hj : j < C.length) (hi : (P.info? ty).map (·.size) = some 1)
    (h : ∀ w1, Stored w w1 g (C.set j (.string u)) T → wpList P ops Q rest (a.put o.dst undef) w1) : wpList P ops Q (o :: rest) a w := by
  refine wpList_plain hgd fun _ hK => ?_
  have hst := run_storeCells_cells (P := P) g j [Value.string u] 0 w (fun i hi => by have h0 : i = 0 := by simpa using hi
                                                                                     subst h0; exact (hb.there j 1 (by omega) 0 (by omega)).1) (fun i hi => by have h0 : i = 0 := by simpa using hi
                                                                                                                                                               subst h0; exact (hb.there j 1 (by omega) 0 (by omega)).2) (fun v hv => by have hv' : v = .string u := by simpa using hv
                                                                                                                                                                                                                                         subst hv'; rfl)
  have hrun : (Instr.storeAt ty (.pointer (some ⟨g, j, none⟩)) (.string u)).run P w = .ok () (w.setCell ⟨g, j, none⟩ (.string u)) := by
    cases hq : P.info? ty with
    | none => simp [hq] at hi
    | some i =>
      have hi' : i.size = 1 := by simpa [hq] using hi
      have hst' : (storeCells ⟨g, j, none⟩ [Value.string u] 0).run P w = .ok () (w.setCell ⟨g, j, none⟩ (.string u)) := hst
      simp [Instr.storeAt, Instr.sureAddr, storeVar, sizeOf, typeInfo, hq, hi', Value.cells, hst']
  unfold Oper.wp execOp
  simp only [ho, hx, hy, Sem.run_bind, Sem.run_pure, Result.andThen_ok, hrun]
  exact hK _ _ (h _ (Stored.of_setCell hb j _))
theorem sb_take (l : List UInt8) (n : Nat) : (sb l).extract 0 n = sb (l.take n) := by
  apply ByteArray.ext
  apply Array.ext'
  simp [sb, ByteArray.data_extract]
theorem sb_append (a b : List UInt8) : sb a ++ sb b = sb (a ++ b) := by
  apply ByteArray.ext
  apply Array.ext'
  simp [sb, ByteArray.data_append]
/-- What + makes of two strings. -/
theorem run_cat {P : Program} (x y : ByteArray) (h : x.size + y.size ≤ 4611686018427387904) (w : World) : (Op.stringOp .add x y).run P w = .ok (.string (x ++ y)) w := by
  have h1 : ¬ (((x.size + y.size : Nat) : Int) > IntKind.i64.max) := by
    have : IntKind.i64.max = 9223372036854775807 := rfl
    omega
  simp only [Op.stringOp, if_neg h1, Sem.run_pure]
/-- The array that a function fills, and its result's. -/
def AS (w : World) (D : List (List UInt8)) (k : Nat) (wr : World) : Prop := Blk wr (w.heap.size + 1) (ss (preS k D 68)) 52 ∧ Blk wr w.heap.size (ss (List.replicate 68 [])) 52 ∧ Below w.heap.size w wr
theorem AS.next {w wr w1 : World} {D : List (List UInt8)} {k : Nat} (h : AS w D k wr) (hb : Below wr.heap.size wr w1) : AS w D k w1 := ⟨h.1.below hb h.1.lt, h.2.1.below hb h.2.1.lt, below_next h.2.2 hb⟩
theorem AS.alloc {w wr : World} {D : List (List UInt8)} {k : Nat} (h : AS w D k wr) (o : Obj) : AS w D k (wr.alloc o) := h.next (below_a1 _ _)
theorem AS.stored {w wr w1 : World} {D : List (List UInt8)} {k : Nat} (h : AS w D k wr) (hs : Stored wr w1 (w.heap.size + 1) (ss (preS (k + 1) D 68)) 52) : AS w D (k + 1) w1 :=
  ⟨hs.1, hs.other h.2.1 (by omega), hs.below h.2.2 (by omega)⟩
theorem cmsg_length (i : Int) (c : Nat) : (cmsg i c).length ≤ 1000000 := by
  have := eL_length [i, (c : Int)]
  rw [cmsg, List.length_append]
  simp only [List.length_cons, List.length_nil] at this ⊢
  omega
set_option maxRecDepth 100000 in
set_option maxHeartbeats 1000000 in
theorem bottom_aux (s : List UInt8) (i : Int) (hi : inI i) (hs : s.length ≤ 1000000) (D : List (List UInt8)) (hD : D = bots s i) (w : World) (hK : KH w) :
    Calls Tryd.prog 27 #[.string (sb s), .int .i64 i] w fun e w' => e = .returned (.agg (ss D).toArray) ∧ Below w.heap.size w w' := by
  have hDl : D.length = 68 := by rw [hD, bots_length]
  have hDg : ∀ c, c < 68 → D.getD c [] = bot s i c := fun c h => by rw [hD, bots_get _ _ _ h]
  have HK := Lib.hid hK; clear hK
  have HI := Lib.hid hi; clear hi
  have HD := Lib.hid (And.intro hDl hDg); clear hD hDl hDg
  have H0 : Hid (AS w D 0 ((w.alloc (.cells Tryd.zeroCells52 52)).alloc (.cells Tryd.zeroCells52 52))) := Lib.hid
    ⟨by rw [preS_zero]; exact Blk.at _ _ _ _ _ Tryd.zero52 (by simp), (Blk.at w _ _ _ _ Tryd.zero52 rfl).alloc _, (below_a1 _ _).alloc (by simp) _⟩
  go_enter Tryd.func27, Tryd.ntmps27
  go_wp2_with fail
  go_loopg [8] 68 (fun g s8 wr => ∃ k : Nat, k + g = 68 ∧ s8 = .int .i64 k ∧ AS w D k wr)
  case atStart => exact ⟨0, rfl, rfl, H0.out⟩
  case round =>
    clear H0
    obtain ⟨k, hk, rfl, hA⟩ := hrel
    by_cases hlt : k < 68
    · obtain ⟨g, rfl⟩ : ∃ g, gk = g + 1 := ⟨gk - 1, by omega⟩
      obtain ⟨E, hE⟩ : ∃ E, E = eL [i, (k : Int)] := ⟨_, rfl⟩
      obtain ⟨M, hM⟩ : ∃ M, M = cmsg i k := ⟨_, rfl⟩
      obtain ⟨Y, hY⟩ : ∃ Y, Y = mac s M := ⟨_, rfl⟩
      have hcat : ({ data := #[99, 104, 97, 105, 110] } : ByteArray) ++ sb E = sb M := by
        rw [hM, cmsg, ← hE]
        exact sb_append [99, 104, 97, 105, 110] E
      have hadd := fun (W : World) => run_cat (P := Tryd.prog) { data := #[99, 104, 97, 105, 110] } (sb E) (by have h1 := eL_length [i, (k : Int)]; rw [sb_size, hE]; simp only [List.length_cons, List.length_nil] at h1; show 5 + _ ≤ _; omega) W
      rw [hcat] at hadd
      have hY32 : Y.length = 32 := by rw [hY, mac, sha_length]
      have hcut : (sb Y).extract 0 16 = sb (D.getD k []) := by rw [sb_take, HD.out.2 k hlt, bot, hY, hM]
      have hYs : (sb Y).size = 32 := by rw [sb_size, hY32]
      have hset : (ss (preS k D 68)).set k (.string (sb (D.getD k []))) = ss (preS (k + 1) D 68) := by rw [ss_set, preS_set k D 68 HD.out.1 hlt]
      have HIN : Hid (∀ (b : Nat) (W : World), Rd W (some ⟨b, 0, none⟩) [.int .i64 i, .int .i64 (k : Int)] → Calls Tryd.prog 53 #[.slice (some ⟨b, 0, none⟩) 2 2] W fun e w' => ∃ A c, e = .returned (.slice A E.length c) ∧ (convert 58 9 (.slice A E.length c)).run Tryd.prog w' = .ok (.string (sb E)) w' ∧ Below W.heap.size W w') :=
        Lib.hid fun b W h => ints_at _ E hE b 2 rfl (by simp) (by intro m hm; simp at hm; rcases hm with rfl | rfl; exact HI.out; unfold inI; omega) W h
      have HMC : Hid (∀ (W : World), KH W → Calls Tryd.prog 52 #[.string (sb s), .string (sb M)] W fun e w' => e = .returned (.string (sb Y)) ∧ Below W.heap.size W w') :=
        Lib.hid fun W hk => by rw [hY]; exact mac_any s M (by rw [hM]; have := cmsg_length i k; omega) (by omega) W hk
      obtain ⟨X, hX⟩ : ∃ X, X = D.getD k [] := ⟨_, rfl⟩
      rw [← hX] at hcut hset
      have HSET := Lib.hid hset
      have HA := Lib.hid hA
      clear hE hM hY hY32 hset hA hX
      go_wp2_with (first
        | (refine (HIN.out _ _ (Rd.of_blk (Blk.at _ [.int .i64 i, .int .i64 (k : Int)] _ _ _ rfl rfl))).mono ?_; rintro e x1 ⟨A1, c1, rfl, hcv1, hb1⟩; have HX1 : Hid (AS w D k x1) := Lib.hid ((HA.out.alloc _).next hb1); clear hb1)
        | ((with_reducible refine (HMC.out _ ?_).mono ?_); exact (HK.out.of HX1.out.2.2); rintro e x2 ⟨rfl, hb2⟩; have HX2 : Hid (AS w D k x2) := Lib.hid (HX1.out.next hb2); clear hb2 hcv1)
        | (refine wpList_store_sc rfl 9 (.tmp 22) (.tmp 21) rfl (w.heap.size + 1) k rfl (sb X) rfl HX2.out.1 (by rw [ss_length, preS_length _ _ _ HD.out.1 (by omega)]; exact hlt) Tryd.size9 ?_; intro x3 hst3; rw [HSET.out] at hst3; have HX3 : Hid (AS w D (k + 1) x3) := Lib.hid (HX2.out.stored hst3); clear hst3))
      go_roundg g
      case rel => exact ⟨k + 1, by omega, by go_num, HX3.out⟩
      case measure => omega
    · obtain rfl : k = 68 := by omega
      have hpre : preS 68 D 68 = D := by have := preS_all D; rw [HD.out.1] at this; exact this
      have HB : Hid (Blk wr (w.heap.size + 1) (ss D) 52) := Lib.hid (by have := hA.1; rw [hpre] at this; exact this)
      have hDl : (ss D).length = 68 := by rw [ss_length]; exact HD.out.1
      have HDL := Lib.hid hDl
      have HA := Lib.hid hA
      clear hpre hDl hA
      go_wp2_with (first
        | (refine wpList_load_blk rfl 52 (.tmp 5) rfl (w.heap.size + 1) 0 rfl HB.out _ Tryd.underlying52 rfl 68 Tryd.size52 (by rw [HDL.out]; omega) ?_; rw [List.drop_zero, List.take_of_length_le (by rw [HDL.out]; omega)])
        | (refine wpList_store_blk rfl 52 (.tmp 4) (.tmp 24) rfl w.heap.size 0 rfl (ss D) rfl HA.out.2.1 68 Tryd.size52 HDL.out (by rw [ss_length, List.length_replicate]; omega) (ss_one _) ?_; intro w3 hst3; rw [List.take_zero, List.nil_append, List.drop_of_length_le (by rw [ss_length, List.length_replicate]; omega), List.append_nil] at hst3; have HST3 := Lib.hid hst3; clear hst3))
      refine ret_blk rfl _ rfl HST3.out.1 _ Tryd.underlying52 rfl (by rw [HDL.out]; exact Tryd.size52) rfl ⟨rfl, HST3.out.below HA.out.2.2 (by omega)⟩
theorem bottom_any (s : List UInt8) (i : Int) (hi : inI i) (hs : s.length ≤ 1000000) (w : World) (hK : KH w) :
    Calls Tryd.prog 27 #[.string (sb s), .int .i64 i] w fun e w' => e = .returned (.agg (ss (bots s i)).toArray) ∧ Below w.heap.size w w' := bottom_aux s i hi hs _ rfl w hK
end Go.Proofs.YtbgcnfikcddcpaaDoor
