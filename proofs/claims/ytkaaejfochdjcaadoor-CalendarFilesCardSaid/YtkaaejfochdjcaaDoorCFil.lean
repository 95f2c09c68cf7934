/-
  CalendarFiles: what it asks of the packages wire and hash; the five tables that are laid.
-/
import Derived.Test.YtkaaejfochdjcaaDoorCLaw
import Derived.Test.YtkaaejfochdjcaaDoorCRSpans
import Derived.Test.YtkaaejfochdjcaaDoorHOf
import Derived.Test.YtkaaejfochdjcaaDoorWRead
import Derived.Test.YtkaaejfochdjcaaDoorWEnc2
import Derived.Stop.BytesEq
namespace Go.Proofs.YtkaaejfochdjcaaDoor
open Go.ChangeShapes Go.WideShapes Go.ChangeAt Go.RowKit Go.ChangeMaps
open Sha
open Cal hiding below_next below_al below_a1 below_drewN ret_bool
set_option linter.unusedVariables false
set_option linter.unusedSimpArgs false

theorem table_range {P : Program} {W : World} {t e : TypeId} {name : String} {g fuel : Nat} {cs : Array Value} {p : List MemPlace} (D : List U) (hg : P.globalNamed name = some g) (hu : P.underlying t = some (.array D.length e)) (he : P.underlying e = some (.int .u32)) (hce : P.cellsOf e = 1)
    (hv : W.var? P name = some cs) (hd : DataW.trod (fun _ => ()) P W 0 (fun _ => true) false fuel t cs.toList = some (.agg (D.map fun u => .lit (.int .u32 u.toNat)), p)) : W.rangeAt g 0 (wvs D) := by
  obtain ⟨xs, m, rfl, hx, hl, hn, hel⟩ := DataW.trod_array hu hd
  intro j v hvj
  have hj : j < D.length := by have := (List.getElem?_eq_some_iff.1 hvj).1; rw [wvs_length] at this; exact this
  rw [wvs_get D j hj] at hvj
  obtain rfl := Option.some.inj hvj
  have hxj : j < xs.length := by rw [hn]; exact hj
  have h1 := hel j hj
  rw [hce, List.getElem?_eq_getElem hxj, Nat.mul_one] at h1
  obtain ⟨k, e1, e2, _⟩ := DataW.trod_int he h1
  simp only [Prod.mk.injEq, DataW.agg.injEq] at hx
  have h2 := congrArg (fun l => l[j]?) hx.1
  simp only [List.getElem?_map, List.getElem?_eq_getElem hxj, List.getElem?_eq_getElem hj, Option.map_some, e2, Option.some.injEq, DataW.lit.injEq, Lit.int.injEq, true_and] at h2
  rw [Nat.zero_add, World.var?_cell hg hv j, show D.getD j 0 = D[j] from by simp [List.getD, hj], h2]
  have h3 := congrArg (fun l => l[0]?) e1
  simpa using h3
theorem Tryd.gK : Tryd.prog.globalNamed "wordbook/hash.roundConstants" = some 1 := by kernel_rfl
theorem Tryd.tK : (Tryd.prog.globals[1]?).map (·.type) = some 119 := by kernel_rfl
theorem Tryd.c29 : Tryd.prog.cellsOf 82 = 1 := by kernel_rfl
theorem laid_K : (Rows.laid_wordbook_hash_roundConstants : DataW Unit) = .agg (K.map fun u => .lit (.int .u32 u.toNat)) := by kernel_rfl
theorem kh_of {W : World} {g : Nat} {D : List U} (h : W.rangeAt g 0 (wvs D)) (hD : 0 < D.length) : W.rangeAt g 0 (wvs D) ∧ g < W.heap.size :=
  ⟨h, World.block_lt_of_cell? W ⟨g, 0 + 0, none⟩ (h 0 _ (wvs_get D 0 hD))⟩
theorem input_len (tag : Int) (l : List (List UInt8)) (h : ∀ p ∈ l, p.length ≤ 2000000) : (input tag l).length ≤ 1 + 2000009 * l.length := by
  have : (l.flatMap eB).length ≤ 2000009 * l.length := by
    clear tag
    induction l with
    | nil => simp
    | cons a r ih =>
      have h1 : (eB a).length ≤ a.length + 9 := by have := en_len9 a.length; simp [eB]; omega
      have h2 := h a (by simp)
      have h3 := ih fun p hp => h p (by simp [hp])
      simp only [List.flatMap_cons, List.length_append, List.length_cons]
      omega
  rw [input, List.length_cons]
  omega
def tv (l : List (List UInt8)) : List Value := l.map fun x => .string (tb x)
theorem Tryd.infoStr : (Tryd.prog.info? 9).map (fun i => (i.zero, i.size, i.bytes)) = some (some (.string ⟨#[]⟩), 1, 16) := by kernel_rfl
theorem tv_len (l : List (List UInt8)) : (tv l).length = l.length := by simp [tv]
theorem tv_get (l : List (List UInt8)) (k : Nat) (h : k < l.length) : (tv l)[k]? = some (.string (tb (l.getD k []))) := by simp [tv, List.getD, h]
theorem tv_snoc (l : List (List UInt8)) (x : List UInt8) : tv (l ++ [x]) = tv l ++ [.string (tb x)] := by simp [tv]
theorem tv_one (l : List (List UInt8)) : ∀ u ∈ tv l, u.oneCell' = true := fun u hu => by
  obtain ⟨_, _, rfl⟩ := List.mem_map.1 hu
  rfl
theorem own_empty {w : World} {g base : Nat} {e : TypeId} (h : Blk w g [] e) (hb : base ≤ g) : w.ownsRow base e 1 (.slice (some ⟨g, 0, none⟩) 0 0) 0 [] :=
  ⟨rfl, .inr ⟨g, 0, #[], rfl, hb, h, Nat.le_refl _, Nat.zero_le _, rfl, rfl⟩⟩
theorem src_blk {P : Program} {tx e' : TypeId} {size n : Nat} (hk : P.underlying tx = some (.slice e')) (hs : size = 1) {w : World} {B : Nat} {C : List Value} {T : TypeId} (h : Blk w B C T) (hn : C.length = n) (h1 : ∀ u ∈ C, u.oneCell' = true) (c : Nat) : Src P size tx (.slice (some ⟨B, 0, none⟩) n c) n C w := by
  refine Src.ofSlice _ hk _ _ _ _ (by rw [hs, hn, Nat.mul_one]) (fun j u hu => ?_) h1
  have hadd : (⟨B, 0, none⟩ : Addr).add j = ⟨B, j, none⟩ := by unfold Addr.add; split <;> simp_all
  rw [hadd]
  exact h.cell hu
/-- What the loops keep of the list that is made. -/
def OwS (w2 : World) (v : Value) (D : List (List UInt8)) (n : Nat) (wr : World) : Prop := wr.ownsRow w2.heap.size 9 1 v n (tv D) ∧ D.length = n ∧ Below w2.heap.size w2 wr
theorem OwS.rd {w2 wr : World} {v : Value} {D : List (List UInt8)} {n : Nat} (h : OwS w2 v D n wr) : ∃ A c, v = .slice A n c ∧ Rd wr A (tv D) ∧ n ≤ c ∧ c ≤ maxLen := Rd.of_own h.1
theorem OwS.step {w2 w3 w4 : World} {v v' : Value} {D : List (List UInt8)} {n : Nat} {x : List UInt8} (h : OwS w2 v D n w3) (ho : w4.ownsRow w2.heap.size 9 1 v' (n + 1) (tv D ++ [.string (tb x)])) (o : Obj) (hg : (w3.alloc o).grownBy w4 v.ownBlock) : OwS w2 v' (D ++ [x]) (n + 1) w4 :=
  ⟨by rw [tv_snoc]; exact ho, by simp [h.2.1], below_own (Cal.below_al h.2.2 o) hg (fun g hg => (h.1.lt _ hg).1)⟩
theorem OwS.below {w2 wr w3 : World} {v : Value} {D : List (List UInt8)} {n : Nat} (h : OwS w2 v D n wr) (hb : Below wr.heap.size wr w3) : OwS w2 v D n w3 := ⟨own_keep h.1 hb, h.2.1, Cal.below_next h.2.2 hb⟩
theorem OwS.drew {w2 wr : World} {v : Value} {D : List (List UInt8)} {n : Nat} (h : OwS w2 v D n wr) : OwS w2 v D n wr.drew := h.below (Below.refl _ _).drew
theorem OwS.size {w2 wr : World} {v : Value} {D : List (List UInt8)} {n : Nat} (h : OwS w2 v D n wr) (o : Obj) : w2.heap.size ≤ (wr.alloc o).heap.size := (Cal.below_al h.2.2 o).size
theorem OwS.own {w2 wr : World} {v : Value} {D : List (List UInt8)} {n : Nat} (h : OwS w2 v D n wr) (o : Obj) : (wr.alloc o).ownsRow w2.heap.size 9 1 v n (tv D) := own_alc h.1 o
theorem OwS.own_d {w2 wr : World} {v : Value} {D : List (List UInt8)} {n : Nat} (h : OwS w2 v D n wr) (o : Obj) : (wr.alloc o).drew.ownsRow w2.heap.size 9 1 v n (tv D) := own_alc h.1 o
theorem OwS.size_d {w2 wr : World} {v : Value} {D : List (List UInt8)} {n : Nat} (h : OwS w2 v D n wr) (o : Obj) : w2.heap.size ≤ (wr.alloc o).drew.heap.size := (Cal.below_al h.2.2 o).size
theorem OwS.step_d {w2 w3 w4 : World} {v v' : Value} {D : List (List UInt8)} {n : Nat} {x : List UInt8} (h : OwS w2 v D n w3) (ho : w4.ownsRow w2.heap.size 9 1 v' (n + 1) (tv D ++ [.string (tb x)])) (o : Obj) (hg : (w3.alloc o).drew.grownBy w4 v.ownBlock) : OwS w2 v' (D ++ [x]) (n + 1) w4 :=
  ⟨by rw [tv_snoc]; exact ho, by simp [h.2.1], below_own (Cal.below_al h.2.2 o).drew hg (fun g hg => (h.1.lt _ hg).1)⟩
theorem src_one_d {P : Program} {size : Nat} {tx e' : TypeId} (hk : P.underlying tx = some (.slice e')) (hs : size = 1) (w : World) (x : Value) (t : TypeId) (h1 : x.oneCell' = true) : Src P size tx (.slice (some ⟨w.heap.size, 0, none⟩) 1 1) 1 [x] (w.alloc (.cells #[x] t)).drew := by
  refine Src.ofSlice _ hk _ _ _ _ (by rw [hs]; rfl) (fun j u hu => ?_) (by simpa using h1)
  have hadd : (⟨w.heap.size, 0, none⟩ : Addr).add j = ⟨w.heap.size, j, none⟩ := by unfold Addr.add; split <;> simp_all
  rw [hadd]
  exact (Blk.at w [x] _ t _ rfl rfl).drew.cell hu
theorem cyr_short (k : Nat) (y : Int) : ∀ x ∈ cyr k y, x.length ≤ 21 := by
  induction k generalizing y with
  | zero => simp [cyr]
  | succ k ih =>
    intro x hx
    simp only [cyr, List.mem_cons] at hx
    rcases hx with rfl | hx
    · simp [pad4]
    · exact ih _ x hx
theorem dtx_short (n : Int) : ∀ x ∈ dtx n, x.length ≤ 10 := fun x hx => by
  simp only [dtx, List.mem_cons, List.not_mem_nil, or_false] at hx
  rcases hx with rfl | rfl | rfl <;> simp [pad4, pad2]
theorem tx_short (a b : Int) : ∀ x ∈ tx a b, x.length ≤ 21 := fun x hx => by
  simp only [tx, List.mem_append, List.mem_flatMap, List.mem_map] at hx
  rcases hx with (hx | hx) | ⟨u, hu, v, hv, rfl⟩
  · have := dtx_short a x hx; omega
  · exact cyr_short _ _ x hx
  · have := dtx_short a u hu
    have := dtx_short b v hv
    simp; omega
def SpN (w : World) (S : List (Int × Int)) (n : Nat) (e : Ending) (w' : World) : Prop := ∃ (A : Option Addr) (c : Nat), e = .returned (.slice A n c) ∧ Rd w' A (sv S) ∧ n ≤ c ∧ c ≤ maxLen ∧ Below w.heap.size w w'
theorem spn_out {w w' : World} {S : List (Int × Int)} {n : Nat} {e : Ending} (h : SpN w S n e w') : ∃ (A : Option Addr) (c : Nat), e = .returned (.slice A n c) ∧ Rd w' A (sv S) ∧ n ≤ c ∧ c ≤ maxLen ∧ Below w.heap.size w w' := h
theorem sv_cells {w1 : World} {S : List (Int × Int)} {b o : Nat} (h : ∀ j v, (sv S)[j]? = some v → w1.cell? ⟨b, o + j, none⟩ = some v) : ∀ (W : World) (k : Nat) (p q : Int), Below w1.heap.size w1 W → k < S.length → (p, q) = S.getD k (0, 0) → W.cell? ⟨b, o + k * 2, none⟩ = some (.int .i64 p) ∧ W.cell? ⟨b, o + k * 2 + 1, none⟩ = some (.int .i64 q) := fun W k p q hb hk e => by
  have hg := sv_get S k hk
  rw [← e] at hg
  have h1 := h _ _ hg.1
  have h2 := h _ _ hg.2
  have hlt := World.block_lt_of_cell? w1 _ h1
  rw [Nat.mul_comm k 2]
  exact ⟨(hb.cell (p := ⟨b, o + 2 * k, none⟩) hlt).trans h1, by rw [Nat.add_assoc]; exact (hb.cell (p := ⟨b, o + (2 * k + 1), none⟩) hlt).trans h2⟩

def laid5 : List (String × DataW Unit) := [("math/bits.deBruijn32tab", Rows.laid_math_bits_deBruijn32tab), ("math/bits.deBruijn64tab", Rows.laid_math_bits_deBruijn64tab), ("internal/strconv.uint64pow10", Rows.laid_internal_strconv_uint64pow10), ("wordbook/hash.roundConstants", Rows.laid_wordbook_hash_roundConstants), ("wordbook/calendar.monthDays", Rows.laid_wordbook_calendar_monthDays)]
theorem of_laid5 {W : World} (h : laidMetH Tryd.prog laid5 W) : KC W ∧ KH W := by
  rw [MakeChecks.laidMetH_plain _ _ _ (by kernel_rfl)] at h
  obtain ⟨ps, ⟨_, _, _, _, _, _, _, _, _, _, ⟨_, _, _, _, _, _, _, _, _, _, ⟨g0, t0, cs0, f0, p0, q0, hg0, ht0, hv0, hd0, ⟨g2, t2, cs2, f2, p2, q2, hg2, ht2, hv2, hd2, ⟨g1, t1, cs1, f1, p1, q1, hg1, ht1, hv1, hd1, _, _⟩, _⟩, _⟩, _⟩, _⟩, _, _⟩ := h
  obtain rfl := Option.some.inj (Tryd.gPow.symm.trans hg0)
  obtain rfl := Option.some.inj (Tryd.tPow.symm.trans ht0)
  obtain rfl := Option.some.inj (Tryd.gK.symm.trans hg2)
  obtain rfl := Option.some.inj (Tryd.tK.symm.trans ht2)
  obtain rfl := Option.some.inj (Tryd.gMD.symm.trans hg1)
  obtain rfl := Option.some.inj (Tryd.tMD.symm.trans ht1)
  rw [laid_Pow] at hd0
  rw [laid_MD] at hd1
  rw [laid_K] at hd2
  have hP := tab_of Tryd.underlying136 Tryd.underlying85 Tryd.c85 Tryd.c20 hv0 hd0
  have hM := tab_of Tryd.underlying93 Tryd.underlying3 Tryd.cellsInt Tryd.c12 hv1 hd1
  exact ⟨⟨⟨fun k hk => hM.cell Tryd.gMD k hk, tab_lt hM Tryd.gMD (by decide)⟩, hP, tab_lt hP Tryd.gPow (by rw [Lib.pow10Tab_length]; omega)⟩, kh_of (table_range K Tryd.gK Tryd.underlying119 Tryd.underlying82 Tryd.c29 hv2 hd2) (by rw [K_length]; omega)⟩
theorem door_met5 (os : Os) (args : Array Value) : laidMetH Tryd.prog laid5 ((World.doorLaid Tryd.prog 400 os).forCall (fun _ _ => 0) ⟨#[], args, []⟩).memory :=
  laidMetH_of_parts3 (fuel := 8) (laidMet_of_run' 8 (by kernel_rfl) (by kernel_rfl)) (by kernel_rfl) (by kernel_rfl)

theorem prt_short {a b : Int} (h : vaB a b = true) : (prt a b).length ≤ 21 := tx_short a b _ (prt_mem h)
theorem lists_tb (L : List (List UInt8)) : lists (L.map tb) = L := by
  unfold lists
  rw [List.map_map]
  conv => rhs; rw [← List.map_id L]
  exact List.map_congr_left fun x _ => tb_list x
theorem tv_map (L : List (List UInt8)) : (L.map tb).map Value.string = tv L := by simp [tv]
theorem flat_short (L : List (List UInt8)) (h : ∀ x ∈ L, x.length ≤ 21) : L.flatten.length ≤ 21 * L.length := by
  induction L with
  | nil => simp
  | cons a r ih =>
    have h1 := h a (by simp)
    have h2 := ih fun x hx => h x (by simp [hx])
    simp only [List.flatten_cons, List.length_append, List.length_cons]
    omega
theorem eS_short (L : List (List UInt8)) (h : ∀ x ∈ L, x.length ≤ 21) (hl : L.length ≤ 100) : (eS L).length ≤ 20000 := by
  have h1 := flatMap_eB_len L
  have h2 := flat_short L h
  have h3 := en_len9 L.length
  simp only [eS, List.length_append]
  omega
def BsPost (w : World) (E : List UInt8) (m : Nat) (e : Ending) (w' : World) : Prop := ∃ (A : Option Addr) (c : Nat), e = .returned (.slice A m c) ∧ Rd w' A (bs E) ∧ m ≤ c ∧ c ≤ maxLen ∧ Below w.heap.size w w'
theorem bs_out {w w' : World} {E : List UInt8} {m : Nat} {e : Ending} (h : BsPost w E m e w') : ∃ (A : Option Addr) (c : Nat), e = .returned (.slice A m c) ∧ Rd w' A (bs E) ∧ m ≤ c ∧ c ≤ maxLen ∧ Below w.heap.size w w' := h
theorem fstr_any (L : List (List UInt8)) (n : Nat) (hn : n = L.length) (E : List UInt8) (hE : E = eS L) (m : Nat) (hm : m = E.length) (h : ∀ x ∈ L, x.length ≤ 21) (hl : n ≤ 100) (A : Option Addr) (c : Nat) (w : World) (hr : Rd w A (tv L)) :
    Calls Tryd.prog 33 #[.slice A n c] w (BsPost w E m) := by
  have h1 := flat_short L h
  have := strings_any (L.map tb) A c w (by rw [List.length_map]; omega) (by rw [lists_tb]; omega) (by rw [tv_map]; exact hr)
  rw [List.length_map, ← hn, lists_tb, ← hE, ← hm] at this
  refine this.mono fun e w' ⟨v', he, ho, hb⟩ => ?_
  obtain ⟨A', c', hv, hrd, h2, h3⟩ := Rd.of_own ho
  exact ⟨A', c', by rw [he, hv], hrd, h2, h3, hb⟩
def GsPost (w : World) (L : List (List UInt8)) (n m : Nat) (e : Ending) (w' : World) : Prop := ∃ (A : Option Addr) (c : Nat), e = .returned (.tuple #[.slice A n c, .int .i64 m, .int .i64 0]) ∧ Rd w' A (tv L) ∧ n ≤ c ∧ c ≤ maxLen ∧ Below w.heap.size w w'
theorem gs_out {w w' : World} {L : List (List UInt8)} {n m : Nat} {e : Ending} (h : GsPost w L n m e w') : ∃ (A : Option Addr) (c : Nat), e = .returned (.tuple #[.slice A n c, .int .i64 m, .int .i64 0]) ∧ Rd w' A (tv L) ∧ n ≤ c ∧ c ≤ maxLen ∧ Below w.heap.size w w' := h
theorem flat_tv (L : List (List UInt8)) : (L.map fun s => [Value.string ⟨s.toArray⟩]).flatten = tv L := by
  induction L with
  | nil => rfl
  | cons a r ih => simp only [List.map_cons, List.flatten_cons, ih]; rfl
theorem fget_any (L : List (List UInt8)) (n : Nat) (hn : n = L.length) (E : List UInt8) (hE : E = eS L) (m : Nat) (hm : m = E.length) (h : ∀ x ∈ L, x.length ≤ 21) (hl : n ≤ 100) (A : Option Addr) (c : Nat) (hc : m ≤ c) (hcm : c ≤ maxLen) (w : World) (hr : Rd w A (bs E)) :
    Calls Tryd.prog 34 #[.slice A m c] w (GsPost w L n m) := by
  have hsh := eS_short L h (by omega)
  have hge := gList_en codecS (by omega) L (fun x hx => by have := h x hx; omega) (by omega) []
  rw [List.append_nil, show eLs eB L = E by rw [hE]; rfl, show ((1 : Nat) : Int) = 1 from rfl] at hge
  have := getS_any E A c w (by rw [hE]; omega) (by omega) hcm hr
  rw [← hm] at this
  refine this.mono fun e w' ⟨v, he, hb, _, hown⟩ => ?_
  rw [hge.1] at he hown
  have ho := hown rfl
  rw [hge.2, flat_tv, List.length_map, ← hn] at ho
  obtain ⟨A', c', hv, hrd, h2, h3⟩ := Rd.of_own ho
  exact ⟨A', c', by rw [he, hv, hm], hrd, h2, h3, hb⟩
theorem fof_any (E : List UInt8) (hE : E.length ≤ 20000) (D : List UInt8) (hD : D = dig 3 [E]) (B : Nat) (W : World) (hB : B = W.heap.size) (hK : KH W) :
    Calls Tryd.prog 35 #[.int .i64 3, .slice (some ⟨B, 0, none⟩) 1 1] (W.alloc (.cells #[.string (tb E)] 9)) fun e w' => e = .returned (.agg (bs D).toArray) ∧ Below W.heap.size W w' := by
  subst hB
  rw [hD]
  have hi := input_len 3 [E] (fun p hp => by rw [List.mem_singleton.1 hp]; omega)
  have := of_any 3 [E] (some ⟨W.heap.size, 0, none⟩) 1 1 rfl (by simp) (by unfold maxLen; omega) (fun p hp => by rw [List.mem_singleton.1 hp]; omega) (by simp at hi; omega) (W.alloc (.cells #[.string (tb E)] 9)) (rd_blk (Blk.at W [.string (tb E)] _ 9 _ rfl rfl)) (hK.below (Cal.below_a1 W _) hK.2)
  exact this.mono fun e w' ⟨h1, h2⟩ => ⟨h1, Cal.below_next (Cal.below_a1 W _) h2⟩
theorem eq_dig (D : List UInt8) (h : D.length = 16) (W : World) : (Op.equalIn 10000 58 (.agg (bs D).toArray) (.agg (bs D).toArray)).run Tryd.prog W = .ok true W := by
  have h := run_equalIn_bytes (P := Tryd.prog) W 9998 58 5 16 Tryd.underlying58 Tryd.underlying5 (fun W => by kernel_rfl) D D h h
  rw [show (D == D) = true from beq_self_eq_true D] at h
  exact h
end Go.Proofs.YtkaaejfochdjcaaDoor
