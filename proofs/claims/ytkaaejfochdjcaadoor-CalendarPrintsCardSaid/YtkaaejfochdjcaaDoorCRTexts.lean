/-
  The reference's Texts: all texts that may be read as a span.
-/
import Derived.Test.YtkaaejfochdjcaaDoorCRDig
import Derived.Test.YtkaaejfochdjcaaDoorCRSpans
namespace Go.Proofs.YtkaaejfochdjcaaDoor
open Go.RowKit
open Cal
set_option linter.unusedVariables false
set_option linter.unusedSimpArgs false

theorem Tryd.infoStr : (Tryd.prog.info? 9).map (fun i => (i.zero, i.size, i.bytes)) = some (some (.string ⟨#[]⟩), 1, 16) := by kernel_rfl
theorem tv_len (l : List (List UInt8)) : (tv l).length = l.length := by simp [tv]
theorem tv_get (l : List (List UInt8)) (k : Nat) (h : k < l.length) : (tv l)[k]? = some (.string (tb (l.getD k []))) := by simp [tv, List.getD, h]
theorem tv_snoc (l : List (List UInt8)) (x : List UInt8) : tv (l ++ [x]) = tv l ++ [.string (tb x)] := by simp [tv]
theorem tv_one (l : List (List UInt8)) : ∀ u ∈ tv l, u.oneCell' = true := fun u hu => by
  obtain ⟨_, _, rfl⟩ := List.mem_map.1 hu
  rfl
theorem own_empty {w : World} {g base : Nat} {e : TypeId} (h : Blk w g [] e) (hb : base ≤ g) : w.ownsRow base e 1 (.slice (some ⟨g, 0, none⟩) 0 0) 0 [] :=
  ⟨rfl, .inr ⟨g, 0, #[], rfl, hb, h, Nat.le_refl _, Nat.zero_le _, rfl, rfl⟩⟩
theorem src_blk {P : Program} {tx e' : TypeId} {size n : Nat} (hk : P.underlying tx = some (.slice e')) (hs : size = 1) {w : World} {B : Nat} {C : List Value} {T : TypeId} (h : Blk w B C T) (hn : C.length = n) (h1 : ∀ u ∈ C, u.oneCell' = true) (c : Nat) : Src P size tx (.slice (some ⟨B, 0, none⟩) n c) n C w := by
  refine Src.ofSlice _ hk _ _ _ _ (by rw [hs, hn, Nat.mul_one]) (fun j u hu => ?_) h1
  have hadd : (⟨B, 0, none⟩ : Addr).add j = ⟨B, j, none⟩ := by unfold Addr.add; split <;> simp_all
  rw [hadd]
  exact h.cell hu
def DtPost (w : World) (L : List (List UInt8)) (e : Ending) (w' : World) : Prop := ∃ B, e = .returned (.slice (some ⟨B, 0, none⟩) 3 3) ∧ w.heap.size ≤ B ∧ Blk w' B (tv L) 9 ∧ Below w.heap.size w w'
theorem dt_out {w w' : World} {L : List (List UInt8)} {e : Ending} (h : DtPost w L e w') : ∃ B, e = .returned (.slice (some ⟨B, 0, none⟩) 3 3) ∧ w.heap.size ≤ B ∧ Blk w' B (tv L) 9 ∧ Below w.heap.size w w' := h
def TxPost (w : World) (L : List (List UInt8)) (n : Nat) (e : Ending) (w' : World) : Prop := ∃ (A : Option Addr) (c : Nat), e = .returned (.slice A n c) ∧ Rd w' A (tv L) ∧ n ≤ c ∧ c ≤ maxLen ∧ Below w.heap.size w w'
theorem tx_out {w w' : World} {L : List (List UInt8)} {n : Nat} {e : Ending} (h : TxPost w L n e w') : ∃ (A : Option Addr) (c : Nat), e = .returned (.slice A n c) ∧ Rd w' A (tv L) ∧ n ≤ c ∧ c ≤ maxLen ∧ Below w.heap.size w w' := h
/-- What the loops keep of the list that is made. -/
def OwS (w2 : World) (v : Value) (D : List (List UInt8)) (n : Nat) (wr : World) : Prop := wr.ownsRow w2.heap.size 9 1 v n (tv D) ∧ D.length = n ∧ Below w2.heap.size w2 wr
theorem OwS.rd {w2 wr : World} {v : Value} {D : List (List UInt8)} {n : Nat} (h : OwS w2 v D n wr) : ∃ A c, v = .slice A n c ∧ Rd wr A (tv D) ∧ n ≤ c ∧ c ≤ maxLen := Rd.of_own h.1
theorem OwS.step {w2 w3 w4 : World} {v v' : Value} {D : List (List UInt8)} {n : Nat} {x : List UInt8} (h : OwS w2 v D n w3) (ho : w4.ownsRow w2.heap.size 9 1 v' (n + 1) (tv D ++ [.string (tb x)])) (o : Obj) (hg : (w3.alloc o).grownBy w4 v.ownBlock) : OwS w2 v' (D ++ [x]) (n + 1) w4 :=
  ⟨by rw [tv_snoc]; exact ho, by simp [h.2.1], below_own (below_al h.2.2 o) hg (fun g hg => (h.1.lt _ hg).1)⟩
theorem OwS.below {w2 wr w3 : World} {v : Value} {D : List (List UInt8)} {n : Nat} (h : OwS w2 v D n wr) (hb : Below wr.heap.size wr w3) : OwS w2 v D n w3 := ⟨own_keep h.1 hb, h.2.1, below_next h.2.2 hb⟩
theorem OwS.drew {w2 wr : World} {v : Value} {D : List (List UInt8)} {n : Nat} (h : OwS w2 v D n wr) : OwS w2 v D n wr.drew := h.below (Below.refl _ _).drew
theorem OwS.size {w2 wr : World} {v : Value} {D : List (List UInt8)} {n : Nat} (h : OwS w2 v D n wr) (o : Obj) : w2.heap.size ≤ (wr.alloc o).heap.size := (below_al h.2.2 o).size
theorem OwS.own {w2 wr : World} {v : Value} {D : List (List UInt8)} {n : Nat} (h : OwS w2 v D n wr) (o : Obj) : (wr.alloc o).ownsRow w2.heap.size 9 1 v n (tv D) := own_alc h.1 o
theorem OwS.own_d {w2 wr : World} {v : Value} {D : List (List UInt8)} {n : Nat} (h : OwS w2 v D n wr) (o : Obj) : (wr.alloc o).drew.ownsRow w2.heap.size 9 1 v n (tv D) := own_alc h.1 o
theorem OwS.size_d {w2 wr : World} {v : Value} {D : List (List UInt8)} {n : Nat} (h : OwS w2 v D n wr) (o : Obj) : w2.heap.size ≤ (wr.alloc o).drew.heap.size := (below_al h.2.2 o).size
theorem OwS.step_d {w2 w3 w4 : World} {v v' : Value} {D : List (List UInt8)} {n : Nat} {x : List UInt8} (h : OwS w2 v D n w3) (ho : w4.ownsRow w2.heap.size 9 1 v' (n + 1) (tv D ++ [.string (tb x)])) (o : Obj) (hg : (w3.alloc o).drew.grownBy w4 v.ownBlock) : OwS w2 v' (D ++ [x]) (n + 1) w4 :=
  ⟨by rw [tv_snoc]; exact ho, by simp [h.2.1], below_own (below_al h.2.2 o).drew hg (fun g hg => (h.1.lt _ hg).1)⟩
theorem src_one_d {P : Program} {size : Nat} {tx e' : TypeId} (hk : P.underlying tx = some (.slice e')) (hs : size = 1) (w : World) (x : Value) (t : TypeId) (h1 : x.oneCell' = true) : Src P size tx (.slice (some ⟨w.heap.size, 0, none⟩) 1 1) 1 [x] (w.alloc (.cells #[x] t)).drew := by
  refine Src.ofSlice _ hk _ _ _ _ (by rw [hs]; rfl) (fun j u hu => ?_) (by simpa using h1)
  have hadd : (⟨w.heap.size, 0, none⟩ : Addr).add j = ⟨w.heap.size, j, none⟩ := by unfold Addr.add; split <;> simp_all
  rw [hadd]
  exact (Blk.at w [x] _ t _ rfl rfl).drew.cell hu
set_option maxRecDepth 100000 in
set_option maxHeartbeats 8000000 in
theorem rtexts_aux (a b y m d : Int) (LA LB L : List (List UInt8)) (n : Nat) (hLA : LA.length = 3) (hLB : LB.length = 3) (hsA : ∀ x ∈ LA, x.length ≤ 10) (hsB : ∀ x ∈ LB, x.length ≤ 10) (y1 : 1 ≤ y) (y2 : y ≤ 2800) (K : Nat) (hK : (K : Int) = min 2800 (y + 5) - y + 1)
    (hL : L = LA ++ (cyr K y ++ LA.flatMap fun x => LB.map fun z => x ++ 47 :: z)) (hn : n = 3 + (K + 9)) (w : World)
    (HDA : Hid (∀ W, Calls Tryd.prog 70 #[.int .i64 a] W (DtPost W LA))) (HDB : Hid (∀ W, Calls Tryd.prog 70 #[.int .i64 b] W (DtPost W LB)))
    (HT : Hid (∀ W, Calls Tryd.prog 15 #[.int .i64 a] W fun e w' => e = ret4 y m d 0 ∧ W = w')) :
    Calls Tryd.prog 54 #[.agg #[.int .i64 a, .int .i64 b]] w (TxPost w L n) := by
  obtain ⟨i0, hi0, hz0, hz1, hz2⟩ := info_parts Tryd.infoStr
  have HL := Lib.hid hL
  have HLA := Lib.hid (And.intro hLA hsA)
  have HLB := Lib.hid (And.intro hLB hsB)
  have hK6 : K ≤ 6 := by omega
  have e99 : (⟨#[99]⟩ : ByteArray) = tb [99] := rfl
  have e47 : (⟨#[47]⟩ : ByteArray) = tb [47] := rfl
  have hml3 : 0 + 3 ≤ maxLen := by unfold maxLen; omega
  have HN := Lib.hid hn
  have HK := Lib.hid hK
  clear hL hLA hLB hsA hsB hn hK
  go_enter Tryd.func54, Tryd.ntmps54
  go_wp2_with (first
    | ((with_reducible refine (HDA.out _).mono ?_); rintro e w1 hd1; obtain ⟨B1, rfl, hB1, hk1, hb1⟩ := dt_out hd1; clear hd1; have HX1 : Hid (Blk w1 w.heap.size (iv [a, b]) 30 ∧ Blk w1 B1 (tv LA) 9 ∧ Below w.heap.size w w1) := Lib.hid ⟨(Blk.at w (iv [a, b]) _ 30 _ rfl rfl).below hb1 (by simp), hk1, below_next (below_a1 _ _) hb1⟩; have hcb : w1.cell? ⟨w.heap.size, 1, none⟩ = some (.int .i64 b) := HX1.out.1.cell rfl; clear hk1 hb1 hB1)
    | ((with_reducible refine (HDB.out _).mono ?_); rintro e w2 hd2; obtain ⟨B2, rfl, hB2, hk2, hb2⟩ := dt_out hd2; clear hd2 hcb; have HX2 : Hid (Blk w2 w.heap.size (iv [a, b]) 30 ∧ Blk w2 B1 (tv LA) 9 ∧ Blk w2 B2 (tv LB) 9 ∧ Below w.heap.size w w2) := Lib.hid ⟨HX1.out.1.below hb2 HX1.out.1.lt, HX1.out.2.1.below hb2 HX1.out.2.1.lt, hk2, below_next HX1.out.2.2 hb2⟩; clear hk2 hb2 hB2)
    | (at_builtin; refine wpList_own_src rfl (.tmp 19) (.tmp 20) 52 52 rfl w2.heap.size 9 i0 _ 1 16 Tryd.underlying52 hi0 hz0 hz1 hz2 rfl _ _ _ rfl (own_empty (Blk.at w2 [] _ 9 _ rfl rfl) (Nat.le_refl _)) _ 3 (tv LA) rfl (src_blk Tryd.underlying52 hz1 (HX2.out.2.1.alloc _) ((tv_len LA).trans HLA.out.1) (tv_one LA) _) hml3 (by omega) (below_a1 _ _).size ?_; intro v3 w3 hown3 hg3 hat3; have HX3 : Hid (OwS w2 v3 LA 3 w3) := Lib.hid ⟨hown3, HLA.out.1, below_own (below_a1 _ _) hg3 (fun g hg => ((own_empty (Blk.at w2 [] _ 9 _ rfl rfl) (Nat.le_refl _)).lt _ hg).1)⟩; have hca : w3.cell? ⟨w.heap.size, 0, none⟩ = some (.int .i64 a) := (HX2.out.1.below HX3.out.2.2 HX2.out.1.lt).cell rfl; clear hown3 hg3 hat3)
    | ((with_reducible refine (HT.out _).mono ?_); rintro e w0 ⟨rfl, rfl⟩; unfold ret4; clear hca))
  go_loopg [5, 10] K (fun g s5 s10 wr => ∃ (j : Nat) (D : List (List UInt8)) (x : Int), j + g = K ∧ x = y + j ∧ s10 = .int .i64 x ∧ Hid (OwS w2 s5 D (3 + j) wr) ∧ Hid (L = D ++ (cyr g x ++ LA.flatMap fun x => LB.map fun z => x ++ 47 :: z)))
  case atStart => exact ⟨0, LA, y, by omega, by omega, rfl, HX3, HL⟩
  case round =>
    clear HX3 HL
    obtain ⟨j, D, x, hj, hx, rfl, HO, HL⟩ := hrel
    obtain ⟨A1, c1, hv, _, _, _⟩ := HO.out.rd
    subst hv
    have hKK := HK.out
    have hx1 : 1 ≤ x := by omega
    have hx2 : x ≤ 2806 := by omega
    have HXX := Lib.hid hx
    have hxK : x ≤ min 2800 (y + 5) → 0 < gk := fun h => by omega
    have hxK2 : ¬ x ≤ min 2800 (y + 5) → gk = 0 := fun h => by omega
    clear hx
    have hs1 : 3 + j + 1 ≤ maxLen := by unfold maxLen; omega
    have hs2 : (3 + j + 1) * 16 ≤ 140737488355328 := by omega
    by_cases hlt : x ≤ min 2800 (y + 5)
    · obtain ⟨g, rfl⟩ : ∃ g, gk = g + 1 := ⟨gk - 1, by have := hxK hlt; omega⟩
      have HD : Hid (∀ W, Calls Tryd.prog 71 #[.int .i64 x, .int .i64 4] W fun e w' => e = .returned (.string (tb (pad4 x))) ∧ Below W.heap.size W w') := Lib.hid fun W => rdig4 x (by omega) (by omega) W
      have hct : ∀ W, (Op.stringOp .add ⟨#[99]⟩ (tb (pad4 x))).run Tryd.prog W = .ok (.string (tb (99 :: pad4 x))) W := fun W => by rw [e99]; exact cat_tb rfl (by simp [pad4]) W
      clear hKK hxK hxK2
      go_wp2_with (first
        | ((with_reducible refine (HD.out _).mono ?_); rintro e w5 ⟨rfl, hb5⟩; have HO5 := Lib.hid (HO.out.below hb5); clear hb5)
        | (at_builtin; refine wpList_own_src rfl (.tmp 38) (.tmp 42) 52 52 rfl w2.heap.size 9 i0 _ 1 16 Tryd.underlying52 hi0 hz0 hz1 hz2 rfl _ _ _ rfl (HO5.out.own _) _ 1 [.string (tb (99 :: pad4 x))] rfl (src_one Tryd.underlying52 hz1 _ _ _ rfl) hs1 hs2 (HO5.out.size _) ?_; intro v4 w4 hown4 hg4 hat4; have HO6 := Lib.hid (HO5.out.step hown4 _ hg4); clear hown4 hg4 hat4))
      go_roundg g
      case rel => exact ⟨j + 1, D ++ [99 :: pad4 x], x + 1, by omega, by have := HXX.out; omega, by go_num, HO6, Lib.hid (by rw [HL.out]; simp [cyr])⟩
      case measure => omega
    · obtain rfl : gk = 0 := hxK2 hlt
      obtain rfl : j = K := by omega
      have HL2 : Hid (L = D ++ (LA.drop 0).flatMap fun x => LB.map fun z => x ++ 47 :: z) := Lib.hid (by rw [HL.out]; simp [cyr])
      have HO1 := Lib.hid HO.out
      clear hs1 hs2 hKK HL HO hxK hxK2
      go_wp2_with fail
      go_loopg [5, 11] 3 (fun g s5 s11 wr => ∃ (i : Nat) (D : List (List UInt8)), i + g = 3 ∧ s11 = .int .i64 (i : Int) ∧ Hid (OwS w2 s5 D (3 + j + 3 * i) wr) ∧ Hid (L = D ++ (LA.drop i).flatMap fun x => LB.map fun z => x ++ 47 :: z))
      case atStart => exact ⟨0, D, by omega, rfl, HO1, HL2⟩
      case round =>
        clear HO1 HL2
        obtain ⟨i, D2, hi, rfl, HO2, HL2⟩ := hrel
        obtain ⟨A2, c2, hv, hrd2, hc2, hm2⟩ := HO2.out.rd
        subst hv
        have HR2 := Lib.hid hrd2
        clear hrd2
        by_cases hi3 : i < 3
        · obtain ⟨g2, rfl⟩ : ∃ g, gk = g + 1 := ⟨gk - 1, by omega⟩
          obtain ⟨p, hp⟩ : ∃ p, p = LA.getD i [] := ⟨_, rfl⟩
          have HP : Hid (LA.drop i = p :: LA.drop (i + 1) ∧ p.length ≤ 10 ∧ ∀ W, Below w2.heap.size w2 W → W.cell? ⟨B1, i, none⟩ = some (.string (tb p))) := Lib.hid ⟨by rw [List.drop_eq_getElem_cons (by rw [HLA.out.1]; exact hi3), hp]; simp [List.getD, HLA.out.1, hi3], by rw [hp]; exact HLA.out.2 _ (by simp [List.getD, HLA.out.1, hi3]), fun W hb => (HX2.out.2.1.below hb HX2.out.2.1.lt).cell (by rw [hp]; exact tv_get LA i (by rw [HLA.out.1]; exact hi3))⟩
          have HL3 : Hid (L = D2 ++ ((LB.drop 0).map (fun z => p ++ 47 :: z) ++ (LA.drop (i + 1)).flatMap fun x => LB.map fun z => x ++ 47 :: z)) := Lib.hid (by rw [HL2.out, HP.out.1]; simp)
          have HO3 := Lib.hid HO2.out
          have hi3' : (i : Int) < 3 := by omega
          have hd3 : decide ((i : Int) < 3) = true := decide_eq_true hi3'
          clear hp HL2 HO2 HR2 hc2 hm2
          go_wp2_with fail
          go_loopg [5, 12] 3 (fun g s5 s12 wr => ∃ (k : Nat) (D : List (List UInt8)), k + g = 3 ∧ s12 = .int .i64 (k : Int) ∧ Hid (OwS w2 s5 D (3 + j + 3 * i + k) wr) ∧ Hid (L = D ++ ((LB.drop k).map (fun z => p ++ 47 :: z) ++ (LA.drop (i + 1)).flatMap fun x => LB.map fun z => x ++ 47 :: z)))
          case atStart => exact ⟨0, D2, by omega, rfl, HO3, HL3⟩
          case round =>
            clear HO3 HL3
            obtain ⟨k, D4, hk, rfl, HO4, HL4⟩ := hrel
            obtain ⟨A4, c4, hv, _, _, _⟩ := HO4.out.rd
            subst hv
            by_cases hk3 : k < 3
            · obtain ⟨g4, rfl⟩ : ∃ g, gk = g + 1 := ⟨gk - 1, by omega⟩
              obtain ⟨q, hq⟩ : ∃ q, q = LB.getD k [] := ⟨_, rfl⟩
              have HQ : Hid (LB.drop k = q :: LB.drop (k + 1) ∧ q.length ≤ 10 ∧ ∀ W, Below w2.heap.size w2 W → W.cell? ⟨B2, k, none⟩ = some (.string (tb q))) := Lib.hid ⟨by rw [List.drop_eq_getElem_cons (by rw [HLB.out.1]; exact hk3), hq]; simp [List.getD, HLB.out.1, hk3], by rw [hq]; exact HLB.out.2 _ (by simp [List.getD, HLB.out.1, hk3]), fun W hb => (HX2.out.2.2.1.below hb HX2.out.2.2.1.lt).cell (by rw [hq]; exact tv_get LB k (by rw [HLB.out.1]; exact hk3))⟩
              have hs1 : 3 + j + 3 * i + k + 1 ≤ maxLen := by unfold maxLen; omega
              have hs2 : (3 + j + 3 * i + k + 1) * 16 ≤ 140737488355328 := by omega
              have hct1 : ¬ 9223372036854775807 < (tb p).size + (tb [47]).size := by have := HP.out.2.1; rw [tb_size, tb_size]; simp; omega
              have hct2 : tb p ++ tb [47] = tb (p ++ [47]) := tb_append _ _
              have hct3 : ¬ 9223372036854775807 < (tb (p ++ [47])).size + (tb q).size := by have := HP.out.2.1; have := HQ.out.2.1; rw [tb_size, tb_size]; simp; omega
              have hct4 : tb (p ++ [47]) ++ tb q = tb (p ++ 47 :: q) := by rw [tb_append]; simp
              have hk3' : (k : Int) < 3 := by omega
              have HS : Hid (∀ W, Below w2.heap.size w2 W → W.cell? ⟨B1, i, none⟩ = some (.string (tb p)) ∧ W.cell? ⟨B2, k, none⟩ = some (.string (tb q))) := Lib.hid fun W hb => ⟨HP.out.2.2 W hb, HQ.out.2.2 W hb⟩
              clear hq
              go_wp2_with fail
              go_region_held3 (fun w' => w'.cell? ⟨B1, i, none⟩ = some (.string (tb p)) ∧ w'.cell? ⟨B2, k, none⟩ = some (.string (tb q))) (first | exact HS.out _ HO6.out.2.2 | exact HS.out _ (below_al HO4.out.2.2 _).drew | exact HS.out _ HO4.out.drew.2.2) (first
                | (refine Cal.step_own rfl (.tmp 52) (.tmp 63) 52 52 rfl w2.heap.size 9 i0 _ 1 16 Tryd.underlying52 hi0 hz0 hz1 hz2 rfl _ _ _ rfl (HO4.out.own_d _) _ 1 [.string (tb (p ++ 47 :: q))] rfl (src_one_d Tryd.underlying52 hz1 _ _ _ rfl) hs1 hs2 (HO4.out.size_d _) ?_; intro v4 w4 hown4 hg4 hat4; have HO6 := Lib.hid (HO4.out.step_d hown4 _ hg4); clear hown4 hg4 hat4))
              go_wp2_with fail
              go_roundg g4
              case rel => exact ⟨k + 1, D4 ++ [p ++ 47 :: q], by omega, by go_num, HO6, Lib.hid (by rw [HL4.out, HQ.out.1]; simp)⟩
              case measure => omega
            · obtain rfl : k = 3 := by omega
              have HL5 : Hid (L = D4 ++ (LA.drop (i + 1)).flatMap fun x => LB.map fun z => x ++ 47 :: z) := Lib.hid (by rw [HL4.out, List.drop_of_length_le (by rw [HLB.out.1]; exact Nat.le_refl _)]; simp)
              have HO5 : Hid (OwS w2 (.slice A4 (3 + j + 3 * i + 3) c4) D4 (3 + j + 3 * (i + 1)) wr) := HO4
              go_wp2_with fail
              go_roundg g2
              case rel => exact ⟨i + 1, D4, by omega, by go_num, HO5, HL5⟩
              case measure => omega
        · obtain rfl : i = 3 := by omega
          have HE : Hid (TxPost w L n (.returned (.slice A2 (3 + j + 3 * 3) c2)) wr) := Lib.hid ⟨A2, c2, by rw [HN.out, show 3 + j + 3 * 3 = 3 + (j + 9) by omega], by rw [HL2.out, List.drop_of_length_le (by rw [HLA.out.1]; exact Nat.le_refl _)]; simpa using HR2.out, by rw [HN.out]; exact hc2, hm2, below_next HX2.out.2.2.2 HO2.out.2.2⟩
          go_wp2_with fail
          go_ret
          exact HE.out
end Go.Proofs.YtkaaejfochdjcaaDoor
