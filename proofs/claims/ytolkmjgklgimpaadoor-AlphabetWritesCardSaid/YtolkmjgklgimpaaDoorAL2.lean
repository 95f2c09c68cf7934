/-
  AlphabetWrites: for every two lists of numbers and every number the law returns true, and leaves what was there as it was; the listed tables are as the library's text lays them (the card ties them).
-/
import Derived.Test.YtolkmjgklgimpaaDoorALaw
import Derived.Test.YtolkmjgklgimpaaDoorAWT
import Derived.Test.YtolkmjgklgimpaaDoorARWrite
namespace Go.Proofs.YtolkmjgklgimpaaDoor
open Go.ChangeShapes Go.WideShapes Go.ChangeAt Go.RowKit Go.ChangeMaps
open Alp
set_option linter.unusedVariables false
set_option linter.unusedSimpArgs false
namespace AL2

structure Wd where
  A : Option Addr
  n : Nat
  c : Nat
  l : List Int
def wz : Wd := ⟨none, 0, 0, []⟩
def wv (x : Wd) : Value := .slice x.A x.n x.c
def wvs (T : List Wd) : List Value := T.map wv
theorem wvs_get (T : List Wd) (k : Nat) (h : k < T.length) : (wvs T)[k]? = some (wv (T.getD k wz)) := by simp [wvs, List.getD, h]
/-- What a word's slice is. -/
def WdOK (W : World) (x : Wd) : Prop := Rd W x.A (iv x.l) ∧ x.n = x.l.length ∧ x.n ≤ x.c ∧ x.c ≤ maxLen ∧ x.l.length ≤ 13
theorem WdOK.rd {W : World} {x : Wd} (h : WdOK W x) : Rd W x.A (iv x.l) := h.1
theorem WdOK.len {W : World} {x : Wd} (h : WdOK W x) : x.n = x.l.length := h.2.1
theorem WdOK.cap {W : World} {x : Wd} (h : WdOK W x) : x.n ≤ x.c := h.2.2.1
theorem WdOK.max {W : World} {x : Wd} (h : WdOK W x) : x.c ≤ maxLen := h.2.2.2.1
theorem WdOK.few {W : World} {x : Wd} (h : WdOK W x) : x.l.length ≤ 13 := h.2.2.2.2
theorem WdOK.below {w w' : World} {x : Wd} (h : WdOK w x) (hb : Below w.heap.size w w') : WdOK w' x := ⟨h.1.below hb, h.2⟩
theorem src_iv {P : Program} {w : World} {size : Nat} {tx e' : TypeId} (hk : P.underlying tx = some (.slice e')) (hs : size = 1) {A : Option Addr} {l : List Int} (h : Rd w A (iv l)) (n c : Nat) (hn : n = l.length) :
    Src P size tx (.slice A n c) n (iv l) w := by
  subst hs hn
  cases A with
  | none =>
    have hl : l = [] := by
      rcases h with h | ⟨b, o, e, _⟩
      · simpa [iv] using h
      · cases e
    subst hl
    exact Src.ofNil w hk c
  | some a =>
    refine Src.ofSlice w hk a l.length c (iv l) (by rw [iv_length, Nat.mul_one]) (fun j u hu => ?_) (iv_one l)
    rcases h with h | ⟨b, o, e, hc⟩
    · rw [h] at hu; simp at hu
    · obtain rfl : a = ⟨b, o, none⟩ := by simpa using e
      have ha : (⟨b, o, none⟩ : Addr).add j = ⟨b, o + j, none⟩ := by unfold Addr.add; split <;> simp_all
      rw [ha]
      exact hc j u hu
/-- What the law's loop keeps. -/
def WI (w : World) (L : List Lt) (AL : Option Addr) (Bw : Nat) (T : List Wd) (wr : World) : Prop := Below w.heap.size w wr ∧ Blk wr Bw (wvs T) 22 ∧ Rd wr AL (lv L) ∧ ∀ x ∈ T, WdOK wr x
section
variable {w wr w' : World} {L : List Lt} {AL : Option Addr} {Bw : Nat} {T : List Wd}
theorem WI.bel (h : WI w L AL Bw T wr) : Below w.heap.size w wr := h.1
theorem WI.rd (h : WI w L AL Bw T wr) : Rd wr AL (lv L) := h.2.2.1
theorem WI.next (h : WI w L AL Bw T wr) (hb : Below wr.heap.size wr w') : WI w L AL Bw T w' := ⟨below_next h.1 hb, h.2.1.below hb h.2.1.lt, h.2.2.1.below hb, fun x hx => (h.2.2.2 x hx).below hb⟩
theorem WI.drew (h : WI w L AL Bw T wr) : WI w L AL Bw T wr.drew := ⟨h.1.drew, h.2.1, h.2.2.1, fun x hx => h.2.2.2 x hx⟩
theorem WI.drewN (h : WI w L AL Bw T wr) (n : Nat) : WI w L AL Bw T (wr.drewN n) := ⟨below_drewN h.1 n, h.2.1, h.2.2.1, fun x hx => h.2.2.2 x hx⟩
theorem WI.ok (h : WI w L AL Bw T wr) {i : Nat} (hi : i < T.length) {x : Wd} (hx : x = T.getD i wz) : WdOK wr x := h.2.2.2 x (by rw [hx]; simp only [List.getD, List.getElem?_eq_getElem hi, Option.getD_some]; exact List.getElem_mem hi)
theorem WI.cell (h : WI w L AL Bw T wr) {i : Nat} (hi : i < T.length) {x : Wd} (hx : x = T.getD i wz) : wr.cell? ⟨Bw, i, none⟩ = some (.slice x.A x.n x.c) := h.2.1.cell (by rw [hx]; exact wvs_get T i hi)
end
set_option maxRecDepth 100000 in
set_option maxHeartbeats 8000000 in
theorem walk (l : List Int) (A : Option Addr) (c : Nat) (li : ∀ x ∈ l, inI x) (ln : l.length ≤ c) (lm : c ≤ maxLen) (k : List Int) (Ak : Option Addr) (ck : Nat) (ki : ∀ x ∈ k, inI x) (kn : k.length ≤ ck) (km : ck ≤ maxLen) (by_ : Int)
    (w : World) (lr : Rd w A (iv l)) (kr : Rd w Ak (iv k)) (hK : ML w) : Calls Tryd.prog 4 #[.slice A l.length c, .slice Ak k.length ck, .int .i64 by_] w fun e w' => e = .returned (.bool true) ∧ Below w.heap.size w w' := by
  obtain ⟨L, hL⟩ : ∃ L, L = lettersP l := ⟨_, rfl⟩
  have hv : valP L = true := by rw [hL]; exact letters_val l
  obtain ⟨R0, hR0⟩ : ∃ R, R = wordP L k := ⟨_, rfl⟩
  have hRl : R0.length ≤ 12 := by rw [hR0]; exact wordP_len L k
  have HLE : Hid (Calls Tryd.prog 9 #[.slice A l.length c] w (LtPost w L)) := Lib.hid (by rw [hL]; exact letters_any l A _ c rfl ln lm li w lr)
  have HWO : Hid (∀ AL q cq W, Below w.heap.size w W → q = L.length → q ≤ cq → cq ≤ maxLen → Calls Tryd.prog 16 #[.slice AL q cq, .slice Ak k.length ck] W (LPost W R0)) := Lib.hid fun AL q cq W hb h1 h2 h3 => by rw [hR0]; exact word_any L AL q cq h1 (by rw [h1]; exact ((valP_iff L).1 hv).1) h2 h3 k Ak _ ck rfl kn km ki W (kr.below hb)
  have HWR : Hid (∀ (ws : List Int) AL q cq A1 n1 c1 W, ws.length ≤ 13 → q = L.length → q ≤ cq → cq ≤ maxLen → Rd W AL (lv L) → n1 = ws.length → n1 ≤ c1 → c1 ≤ maxLen → Rd W A1 (iv ws) → Calls Tryd.prog 17 #[.slice AL q cq, .slice A1 n1 c1] W (WPost W (writeP L ws))) := Lib.hid fun ws AL q cq A1 n1 c1 W hs h1 h2 h3 h4 h5 h6 h7 h8 => write_any L ws (by omega) AL q cq h1 h2 h3 (small_of hv) A1 n1 c1 h5 h6 h7 _ rfl W h4 h8
  have HRW : Hid (∀ (ws : List Int) AL q cq A1 n1 c1 W, ws.length ≤ 13 → q = L.length → q ≤ cq → cq ≤ maxLen → Rd W AL (lv L) → n1 = ws.length → n1 ≤ c1 → c1 ≤ maxLen → Rd W A1 (iv ws) → Calls Tryd.prog 18 #[.slice AL q cq, .slice A1 n1 c1] W (WPost W (writeP L ws))) := Lib.hid fun ws AL q cq A1 n1 c1 W hs h1 h2 h3 h4 h5 h6 h7 h8 => rwrite_any L hv ws (by omega) AL q cq h1 h2 h3 A1 n1 c1 h5 h6 h7 _ rfl W h4 h8
  have HSA : Hid (∀ (ws : List Int) AL q cq A1 n1 c1 W, ws.length ≤ 13 → q = L.length → q ≤ cq → cq ≤ maxLen → Rd W AL (lv L) → n1 = ws.length → n1 ≤ c1 → c1 ≤ maxLen → Rd W A1 (iv ws) → Calls Tryd.prog 19 #[.slice AL q cq, .slice A1 n1 c1] W (BoolB W (safeP L ws))) := Lib.hid fun ws AL q cq A1 n1 c1 W hs h1 h2 h3 h4 h5 h6 h7 h8 => safe_any L ws (by omega) AL q cq h1 h2 h3 (small_of hv) A1 n1 c1 h5 h6 h7 _ rfl W h4 h8
  have HRS : Hid (∀ (ws : List Int) AL q cq A1 n1 c1 W, ws.length ≤ 13 → q = L.length → q ≤ cq → cq ≤ maxLen → Rd W AL (lv L) → n1 = ws.length → n1 ≤ c1 → c1 ≤ maxLen → Rd W A1 (iv ws) → Calls Tryd.prog 20 #[.slice AL q cq, .slice A1 n1 c1] W (BoolB W (safeP L ws))) := Lib.hid fun ws AL q cq A1 n1 c1 W hs h1 h2 h3 h4 h5 h6 h7 h8 => rsafe_any L hv ws (by omega) AL q cq h1 h2 h3 A1 n1 c1 h5 h6 h7 _ rfl W h4 h8
  have HFO : Hid (∀ (ws : List Int) AL q cq A1 n1 c1 W, ws.length ≤ 13 → q = L.length → q ≤ cq → cq ≤ maxLen → Rd W AL (lv L) → n1 = ws.length → n1 ≤ c1 → c1 ≤ maxLen → Rd W A1 (iv ws) → Calls Tryd.prog 21 #[.slice AL q cq, .slice A1 n1 c1] W (LPost W (foldP L ws))) := Lib.hid fun ws AL q cq A1 n1 c1 W hs h1 h2 h3 h4 h5 h6 h7 h8 => by have := fold_aux L ws n1 h5 (by omega) AL q cq h1 h2 h3 (small_of hv) true hv.symm A1 c1 h6 h7 W h4 h8; exact this
  have HRF : Hid (∀ (ws : List Int) AL q cq A1 n1 c1 W, ws.length ≤ 13 → q = L.length → q ≤ cq → cq ≤ maxLen → Rd W AL (lv L) → n1 = ws.length → n1 ≤ c1 → c1 ≤ maxLen → Rd W A1 (iv ws) → Calls Tryd.prog 22 #[.slice AL q cq, .slice A1 n1 c1] W (LPost W (foldP L ws))) := Lib.hid fun ws AL q cq A1 n1 c1 W hs h1 h2 h3 h4 h5 h6 h7 h8 => rfold_any L hv ws (by omega) AL q cq h1 h2 h3 A1 n1 c1 h5 h6 h7 W h4 h8
  have HSI : Hid (∀ (R : List Int) (A1 A2 : Option Addr) (n1 n2 c1 c2 : Nat) (V : Bool) W, n1 = R.length → n2 = R.length → n1 ≤ maxLen → Rd W A1 (iv R) → Rd W A2 (iv R) → V = true → Calls Tryd.prog 14 #[.slice A1 n1 c1, .slice A2 n2 c2] W (BoolB W V)) := Lib.hid fun R A1 A2 n1 n2 c1 c2 V W h1 h2 h3 h4 h5 hV => same_any R R A1 A2 n1 n2 c1 c2 h1 h2 h3 V (by rw [hV, decide_eq_true rfl]) W h4 h5
  have HLI : Hid (∀ W, Below w.heap.size w W → Calls Tryd.prog 15 #[] W fun e w' => e = .returned (.bool true) ∧ Below W.heap.size W w') := Lib.hid fun W hb => lives_any W (hK.below hb)
  obtain ⟨i0, hi0, hz0, hz1, hz2⟩ := info_parts Tryd.infoInt
  have HRl := Lib.hid hRl
  clear hL hv hR0 li ki lr kr hK hRl
  go_enter Tryd.func4, Tryd.ntmps4
  go_wp2_with (first
    | ((with_reducible refine HLE.out.mono ?_); rintro e w1 hp; obtain ⟨AL, q, cq, rfl, h1, h2, h3, h4, hb⟩ := lt_out hp; have HX1 : Hid (Below w.heap.size w w1 ∧ q = L.length ∧ q ≤ cq ∧ cq ≤ maxLen ∧ Rd w1 AL (lv L)) := Lib.hid ⟨hb, h1, h3, h4, h2⟩; have hqb : cq ≤ 9223372036854775807 := (by unfold maxLen at h4; omega); have hqc : q ≤ cq := h3; clear hp h1 h2 h3 h4 hb)
    | ((with_reducible refine (HWO.out _ _ _ _ HX1.out.1 HX1.out.2.1 HX1.out.2.2.1 HX1.out.2.2.2.1).mono ?_); rintro e w2 hp; obtain ⟨A0, c0, n0, rfl, h1, h2, h3, h4, hb⟩ := l_out hp; have HX2 : Hid (Below w.heap.size w w2 ∧ Rd w2 AL (lv L) ∧ WdOK w2 ⟨A0, n0, c0, R0⟩) := Lib.hid ⟨below_next HX1.out.1 hb, HX1.out.2.2.2.2.below hb, h2, h1, h3, h4, Nat.le_trans HRl.out (by omega)⟩; have hn12 : n0 ≤ 12 := (by rw [h1]; exact HRl.out); have hs1 : 0 + n0 ≤ maxLen := (by unfold maxLen; omega); have hs2 : (0 + n0) * 8 ≤ 140737488355328 := (by omega); have hs3 : 0 + n0 + 1 ≤ maxLen := (by unfold maxLen; omega); have hs4 : (0 + n0 + 1) * 8 ≤ 140737488355328 := (by omega); clear hp h1 h2 h3 h4 hb)
    | (at_builtin; refine wpList_own_src rfl (.tmp 21) (.tmp 22) 22 22 rfl w2.heap.size 3 i0 _ 1 8 Tryd.underlying22 hi0 hz0 hz1 hz2 rfl _ 0 [] rfl (own_empty (Blk.at w2 [] _ _ _ rfl rfl) (Nat.le_refl _)) _ n0 (iv R0) rfl (src_iv Tryd.underlying22 hz1 (HX2.out.2.2.rd.alloc _) _ _ HX2.out.2.2.len) hs1 hs2 (below_a1 w2 _).size ?_; intro v4 w4 hown4 hg4 hat4; have HX4 : Hid (w4.ownsRow w2.heap.size 3 1 v4 (0 + n0) ([] ++ iv R0) ∧ Below w2.heap.size w2 w4) := Lib.hid ⟨hown4, below_own (below_a1 w2 _) hg4 (fun g hg => Nat.le_of_eq (Option.some.inj hg))⟩; clear hown4 hg4 hat4)
    | (at_builtin; refine wpList_own_src rfl (.tmp 23) (.tmp 25) 22 22 rfl w2.heap.size 3 i0 _ 1 8 Tryd.underlying22 hi0 hz0 hz1 hz2 rfl _ _ _ rfl (own_alc HX4.out.1 _) _ 1 [.int .i64 by_] rfl (src_one Tryd.underlying22 hz1 _ _ _ rfl) hs3 hs4 (below_al HX4.out.2 _).size ?_; intro v5 w5 hown5 hg5 hat5; obtain ⟨A6, c6, hv6, hrd6, hmc6, hm6⟩ := Rd.of_own hown5; have hv6' : v5 = .slice A6 (n0 + 1) c6 := (by rw [hv6, Nat.zero_add]); subst hv6'; have HB5 := below_own (below_al HX4.out.2 _) hg5 (fun g hg => (HX4.out.1.lt _ hg).1); have HX5 : Hid (Below w.heap.size w w5 ∧ Rd w5 AL (lv L) ∧ WdOK w5 ⟨A0, n0, c0, R0⟩ ∧ WdOK w5 ⟨A6, n0 + 1, c6, R0 ++ [by_]⟩) := Lib.hid ⟨below_next HX2.out.1 HB5, HX2.out.2.1.below HB5, HX2.out.2.2.below HB5, (by rw [iv_snoc]; simpa using hrd6), (by have := HX2.out.2.2.len; simp at this ⊢; omega), (by simp; omega), hm6, (by have := HRl.out; simp; omega)⟩; clear hown5 hg5 hat5 hrd6 hv6 HB5))
  have H0 : Hid (WI w L AL (w5.heap.size + 1 + 1 + 1) [⟨A0, n0, c0, R0⟩, ⟨A6, n0 + 1, c6, R0 ++ [by_]⟩, ⟨some ⟨w5.heap.size, 0, none⟩, 1, 1, [by_]⟩, ⟨some ⟨w5.heap.size + 1, 0, none⟩, 1, 1, [(q : Int)]⟩, ⟨some ⟨w5.heap.size + 1 + 1, 0, none⟩, 1, 1, [-1]⟩, ⟨none, 0, 0, []⟩] ((((w5.alloc (.cells #[.int .i64 by_] 3)).alloc (.cells #[.int .i64 (q : Int)] 3)).alloc (.cells #[.int .i64 (-1)] 3)).alloc (.cells #[.slice A0 n0 c0, .slice A6 (n0 + 1) c6, .slice (some ⟨w5.heap.size, 0, none⟩) 1 1, .slice (some ⟨w5.heap.size + 1, 0, none⟩) 1 1, .slice (some ⟨w5.heap.size + 1 + 1, 0, none⟩) 1 1, .slice none 0 0] 22))) := Lib.hid ⟨below_al (below_al (below_al (below_al HX5.out.1 _) _) _) _, Blk.at _ (wvs [⟨A0, n0, c0, R0⟩, ⟨A6, n0 + 1, c6, R0 ++ [by_]⟩, ⟨some ⟨w5.heap.size, 0, none⟩, 1, 1, [by_]⟩, ⟨some ⟨w5.heap.size + 1, 0, none⟩, 1, 1, [(q : Int)]⟩, ⟨some ⟨w5.heap.size + 1 + 1, 0, none⟩, 1, 1, [-1]⟩, ⟨none, 0, 0, []⟩]) _ _ _ rfl (by simp), HX5.out.2.1.alloc _ |>.alloc _ |>.alloc _ |>.alloc _, fun x hx => by
    have hb : Below w5.heap.size w5 ((((w5.alloc (.cells #[.int .i64 by_] 3)).alloc (.cells #[.int .i64 (q : Int)] 3)).alloc (.cells #[.int .i64 (-1)] 3)).alloc (.cells #[.slice A0 n0 c0, .slice A6 (n0 + 1) c6, .slice (some ⟨w5.heap.size, 0, none⟩) 1 1, .slice (some ⟨w5.heap.size + 1, 0, none⟩) 1 1, .slice (some ⟨w5.heap.size + 1 + 1, 0, none⟩) 1 1, .slice none 0 0] 22)) := below_al (below_al (below_al (below_a1 w5 _) _) _) _
    simp only [List.mem_cons, List.not_mem_nil, or_false] at hx
    rcases hx with rfl | rfl | rfl | rfl | rfl | rfl
    · exact HX5.out.2.2.1.below hb
    · exact HX5.out.2.2.2.below hb
    · exact ⟨blk_rd (l := [by_]) ((((Blk.at w5 (iv [by_]) _ 3 _ rfl rfl).alloc _).alloc _).alloc _), rfl, Nat.le_refl _, (by unfold maxLen; simp only; omega), by simp⟩
    · exact ⟨blk_rd (l := [(q : Int)]) (((Blk.at _ (iv [(q : Int)]) _ 3 _ rfl (by simp)).alloc _).alloc _), rfl, Nat.le_refl _, (by unfold maxLen; simp only; omega), by simp⟩
    · exact ⟨blk_rd (l := [-1]) ((Blk.at _ (iv [-1]) _ 3 _ rfl (by simp)).alloc _), rfl, Nat.le_refl _, (by unfold maxLen; simp only; omega), by simp⟩
    · exact ⟨.inl rfl, rfl, Nat.le_refl _, Nat.zero_le _, by simp⟩⟩
  obtain ⟨T, hT⟩ : ∃ T : List Wd, T = [⟨A0, n0, c0, R0⟩, ⟨A6, n0 + 1, c6, R0 ++ [by_]⟩, ⟨some ⟨w5.heap.size, 0, none⟩, 1, 1, [by_]⟩, ⟨some ⟨w5.heap.size + 1, 0, none⟩, 1, 1, [(q : Int)]⟩, ⟨some ⟨w5.heap.size + 1 + 1, 0, none⟩, 1, 1, [-1]⟩, ⟨none, 0, 0, []⟩] := ⟨_, rfl⟩
  rw [← hT] at H0
  have HTL : Hid (T.length = 6) := Lib.hid (by rw [hT]; rfl)
  clear hT
  obtain ⟨Bw, hBw⟩ : ∃ b, b = w5.heap.size + 1 + 1 + 1 := ⟨_, rfl⟩
  rw [← hBw] at H0 ⊢
  go_loopg [10, 11, 12, 13, 14] 6 (fun g s10 s11 s12 s13 s14 wr => ∃ (i : Nat), i + g = 6 ∧ s10 = .int .i64 (i : Int) ∧ Hid (WI w L AL Bw T wr))
  case atStart => exact ⟨0, by omega, rfl, H0⟩
  case round =>
    clear H0 hBw
    obtain ⟨i, hi, rfl, HI⟩ := hrel
    by_cases hlt : i < 6
    · obtain ⟨g, rfl⟩ : ∃ g, gk = g + 1 := ⟨gk - 1, by omega⟩
      have hiT : i < T.length := by rw [HTL.out]; exact hlt
      obtain ⟨x, hx⟩ : ∃ x, x = T.getD i wz := ⟨_, rfl⟩
      have HCELL : Hid (∀ W, WI w L AL Bw T W → W.cell? ⟨Bw, i, none⟩ = some (.slice x.A x.n x.c)) := Lib.hid fun W h => h.cell hiT hx
      have HOK : Hid (∀ W, WI w L AL Bw T W → WdOK W x) := Lib.hid fun W h => h.ok hiT hx
      obtain ⟨A1, n1, c1, ws⟩ := x
      simp only at HCELL
      have hc0 := HCELL.out wr HI.out
      obtain ⟨⟨s, e0⟩, hR⟩ : ∃ R, R = writeP L ws := ⟨_, rfl⟩
      obtain ⟨V, hV⟩ : ∃ V, V = safeP L ws := ⟨_, rfl⟩
      obtain ⟨FR, hFR⟩ : ∃ R, R = foldP L ws := ⟨_, rfl⟩
      have C1 : Hid (∀ W, WI w L AL Bw T W → Calls Tryd.prog 17 #[.slice AL q cq, .slice A1 n1 c1] W (WPost W (s, e0))) := Lib.hid fun W h => by rw [hR]; have := HOK.out W h; exact HWR.out ws AL q cq A1 n1 c1 W this.few HX1.out.2.1 HX1.out.2.2.1 HX1.out.2.2.2.1 h.rd this.len this.cap this.max this.rd
      have C2 : Hid (∀ W, WI w L AL Bw T W → Calls Tryd.prog 18 #[.slice AL q cq, .slice A1 n1 c1] W (WPost W (s, e0))) := Lib.hid fun W h => by rw [hR]; have := HOK.out W h; exact HRW.out ws AL q cq A1 n1 c1 W this.few HX1.out.2.1 HX1.out.2.2.1 HX1.out.2.2.2.1 h.rd this.len this.cap this.max this.rd
      have C3 : Hid (∀ W, WI w L AL Bw T W → Calls Tryd.prog 19 #[.slice AL q cq, .slice A1 n1 c1] W (BoolB W V)) := Lib.hid fun W h => by rw [hV]; have := HOK.out W h; exact HSA.out ws AL q cq A1 n1 c1 W this.few HX1.out.2.1 HX1.out.2.2.1 HX1.out.2.2.2.1 h.rd this.len this.cap this.max this.rd
      have C4 : Hid (∀ W, WI w L AL Bw T W → Calls Tryd.prog 20 #[.slice AL q cq, .slice A1 n1 c1] W (BoolB W V)) := Lib.hid fun W h => by rw [hV]; have := HOK.out W h; exact HRS.out ws AL q cq A1 n1 c1 W this.few HX1.out.2.1 HX1.out.2.2.1 HX1.out.2.2.2.1 h.rd this.len this.cap this.max this.rd
      have C5 : Hid (∀ W, WI w L AL Bw T W → Calls Tryd.prog 21 #[.slice AL q cq, .slice A1 n1 c1] W (LPost W FR)) := Lib.hid fun W h => by rw [hFR]; have := HOK.out W h; exact HFO.out ws AL q cq A1 n1 c1 W this.few HX1.out.2.1 HX1.out.2.2.1 HX1.out.2.2.2.1 h.rd this.len this.cap this.max this.rd
      have C6 : Hid (∀ W, WI w L AL Bw T W → Calls Tryd.prog 22 #[.slice AL q cq, .slice A1 n1 c1] W (LPost W FR)) := Lib.hid fun W h => by rw [hFR]; have := HOK.out W h; exact HRF.out ws AL q cq A1 n1 c1 W this.few HX1.out.2.1 HX1.out.2.2.1 HX1.out.2.2.2.1 h.rd this.len this.cap this.max this.rd
      clear hx hR hV hFR HOK
      go_wp2_with (first
        | ((with_reducible refine (C1.out _ HI.out).mono ?_); rintro e w6 hp; obtain ⟨rfl, hb⟩ := w_out2 hp; have HX6 : Hid (WI w L AL Bw T w6) := Lib.hid (HI.out.next hb); have hc6 := HCELL.out w6 HX6.out; clear hp hb)
        | ((with_reducible refine (C2.out _ HX6.out).mono ?_); rintro e w7 hp; obtain ⟨rfl, hb⟩ := w_out2 hp; have HX7 : Hid (WI w L AL Bw T w7) := Lib.hid (HX6.out.next hb); clear hp hb))
      clear hc0 hc6
      refine wp_region_held_drew (S := fun w' => w'.cell? ⟨Bw, i, none⟩ = some (.slice A1 n1 c1)) (by kernel_rfl) (HCELL.out _ HX7.out.drew) (fun hS0 => ?_)
      refine wpAnyH_take (i := 0) (oi := { dst := some 58, op := Op.move (Operand.tmp 11), type := 9, pos := "law.go:70", after := #[], guard := none }) (v := ?_) rfl (by kernel_rfl) (by kernel_rfl) (by kernel_rfl) (fun _ _ _ h => h) (Or.inl ⟨by rfl, ?_⟩) (by assumption) ?_
      rotate_left
      · (intro w' hSw; (try dsimp only at hSw); go_simp; try with_reducible rfl)
      try simp only [Act.put, List.setIfInBounds_toArray, List.set_cons_zero, List.set_cons_succ]
      refine wpAnyH_take (i := 1) (oi := { dst := some 59, op := Op.move (Operand.tmp 13), type := 9, pos := "law.go:70", after := #[], guard := none }) (v := ?_) rfl (by kernel_rfl) (by kernel_rfl) (by kernel_rfl) (fun _ _ _ h => h) (Or.inl ⟨by rfl, ?_⟩) (by assumption) ?_
      rotate_left
      · (intro w' hSw; (try dsimp only at hSw); go_simp; try with_reducible rfl)
      try simp only [Act.put, List.setIfInBounds_toArray, List.set_cons_zero, List.set_cons_succ]
      refine wpAnyH_take (i := 2) (oi := { dst := some 60, op := Op.binOp BinOp.neq 9 (Operand.tmp 58) (Operand.tmp 59) 9, type := 4, pos := "law.go:70", after := #[{ on := 0, ground := Ground.data }, { on := 1, ground := Ground.data }], guard := none }) (v := ?_) rfl (by kernel_rfl) (by kernel_rfl) (by kernel_rfl) (fun _ _ _ h => h) (Or.inl ⟨by rfl, ?_⟩) (by assumption) ?_
      rotate_left
      · (intro w' hSw; (try dsimp only at hSw); go_simp; try with_reducible rfl)
      try simp only [Act.put, List.setIfInBounds_toArray, List.set_cons_zero, List.set_cons_succ]
      refine wpAnyH_take (i := 3) (oi := { dst := some 61, op := Op.move (Operand.tmp 60), type := 4, pos := "law.go:70", after := #[{ on := 2, ground := Ground.data }], guard := none }) (v := ?_) rfl (by kernel_rfl) (by kernel_rfl) (by kernel_rfl) (fun _ _ _ h => h) (Or.inl ⟨by rfl, ?_⟩) (by assumption) ?_
      rotate_left
      · (intro w' hSw; (try dsimp only at hSw); go_simp; try with_reducible rfl)
      try simp only [Act.put, List.setIfInBounds_toArray, List.set_cons_zero, List.set_cons_succ]
      refine wpAnyH_take (i := 4) (oi := { dst := some 62, op := Op.move (Operand.tmp 12), type := 35, pos := "law.go:70", after := #[{ on := 3, ground := Ground.guard }], guard := some (3, false) }) (v := ?_) rfl (by kernel_rfl) (by kernel_rfl) (by kernel_rfl) (fun _ _ _ h => h) (Or.inl ⟨by rfl, ?_⟩) (by assumption) ?_
      rotate_left
      · (intro w' hSw; (try dsimp only at hSw); go_simp; try with_reducible rfl)
      try simp only [Act.put, List.setIfInBounds_toArray, List.set_cons_zero, List.set_cons_succ]
      refine wpAnyH_take (i := 5) (oi := { dst := some 63, op := Op.move (Operand.tmp 14), type := 35, pos := "law.go:70", after := #[{ on := 3, ground := Ground.guard }], guard := some (3, false) }) (v := ?_) rfl (by kernel_rfl) (by kernel_rfl) (by kernel_rfl) (fun _ _ _ h => h) (Or.inl ⟨by rfl, ?_⟩) (by assumption) ?_
      rotate_left
      · (intro w' hSw; (try dsimp only at hSw); go_simp; try with_reducible rfl)
      try simp only [Act.put, List.setIfInBounds_toArray, List.set_cons_zero, List.set_cons_succ]
      refine wpAnyH_take (i := 6) (oi := { dst := some 64, op := Op.binOp BinOp.neq 35 (Operand.tmp 62) (Operand.tmp 63) 35, type := 4, pos := "law.go:70", after := #[{ on := 4, ground := Ground.data }, { on := 5, ground := Ground.data }, { on := 3, ground := Ground.guard }], guard := some (3, false) }) (v := ?_) rfl (by kernel_rfl) (by kernel_rfl) (by kernel_rfl) (fun _ _ _ h => h) (Or.inl ⟨by rfl, ?_⟩) (by assumption) ?_
      rotate_left
      · (intro w' hSw; (try dsimp only at hSw); go_simp; try with_reducible rfl)
      try simp only [Act.put, List.setIfInBounds_toArray, List.set_cons_zero, List.set_cons_succ]
      refine wpAnyH_take (i := 7) (oi := { dst := some 65, op := Op.pick (Operand.tmp 61) (Operand.const (Value.bool true)) (Operand.tmp 64), type := 4, pos := "law.go:70", after := #[{ on := 3, ground := Ground.data }, { on := 6, ground := Ground.data }], guard := none }) (v := ?_) rfl (by kernel_rfl) (by kernel_rfl) (by kernel_rfl) (fun _ _ _ h => h) (Or.inl ⟨by rfl, ?_⟩) (by assumption) ?_
      rotate_left
      · (intro w' hSw; (try dsimp only at hSw); go_simp; try with_reducible rfl)
      try simp only [Act.put, List.setIfInBounds_toArray, List.set_cons_zero, List.set_cons_succ]
      refine wpAnyH_take (i := 8) (oi := { dst := some 66, op := Op.move (Operand.tmp 65), type := 4, pos := "law.go:70", after := #[{ on := 7, ground := Ground.data }, { on := 3, ground := Ground.chain }], guard := none }) (v := ?_) rfl (by kernel_rfl) (by kernel_rfl) (by kernel_rfl) (fun _ _ _ h => h) (Or.inl ⟨by rfl, ?_⟩) (by assumption) ?_
      rotate_left
      · (intro w' hSw; (try dsimp only at hSw); go_simp; try with_reducible rfl)
      try simp only [Act.put, List.setIfInBounds_toArray, List.set_cons_zero, List.set_cons_succ]
      refine wpAnyH_take (i := 9) (oi := { dst := some 67, op := Op.move (Operand.tmp 7), type := 23, pos := "law.go:70", after := #[{ on := 8, ground := Ground.guard }], guard := some (8, false) }) (v := ?_) rfl (by kernel_rfl) (by kernel_rfl) (by kernel_rfl) (fun _ _ _ h => h) (Or.inl ⟨by rfl, ?_⟩) (by assumption) ?_
      rotate_left
      · (intro w' hSw; (try dsimp only at hSw); go_simp; try with_reducible rfl)
      try simp only [Act.put, List.setIfInBounds_toArray, List.set_cons_zero, List.set_cons_succ]
      refine wpAnyH_take (i := 10) (oi := { dst := some 68, op := Op.move (Operand.tmp 9), type := 34, pos := "law.go:70", after := #[{ on := 8, ground := Ground.guard }], guard := some (8, false) }) (v := ?_) rfl (by kernel_rfl) (by kernel_rfl) (by kernel_rfl) (fun _ _ _ h => h) (Or.inl ⟨by rfl, ?_⟩) (by assumption) ?_
      rotate_left
      · (intro w' hSw; (try dsimp only at hSw); go_simp; try with_reducible rfl)
      try simp only [Act.put, List.setIfInBounds_toArray, List.set_cons_zero, List.set_cons_succ]
      refine wpAnyH_take (i := 11) (oi := { dst := some 69, op := Op.move (Operand.tmp 10), type := 3, pos := "law.go:70", after := #[{ on := 8, ground := Ground.guard }], guard := some (8, false) }) (v := ?_) rfl (by kernel_rfl) (by kernel_rfl) (by kernel_rfl) (fun _ _ _ h => h) (Or.inl ⟨by rfl, ?_⟩) (by assumption) ?_
      rotate_left
      · (intro w' hSw; (try dsimp only at hSw); go_simp; try with_reducible rfl)
      try simp only [Act.put, List.setIfInBounds_toArray, List.set_cons_zero, List.set_cons_succ]
      refine wpAnyH_take (i := 12) (oi := { dst := some 70, op := Op.indexAddr 34 (Operand.tmp 68) (Operand.tmp 69), type := 0, pos := "law.go:70", after := #[{ on := 10, ground := Ground.data }, { on := 11, ground := Ground.data }, { on := 8, ground := Ground.guard }], guard := some (8, false) }) (v := ?_) rfl (by kernel_rfl) (by kernel_rfl) (by kernel_rfl) (fun _ _ _ h => h) (Or.inl ⟨by rfl, ?_⟩) (by assumption) ?_
      rotate_left
      · (intro w' hSw; (try dsimp only at hSw); go_simp; try with_reducible rfl)
      try simp only [Act.put, List.setIfInBounds_toArray, List.set_cons_zero, List.set_cons_succ]
      refine wpAnyH_take (i := 13) (oi := { dst := some 71, op := Op.load 22 (Operand.tmp 70), type := 22, pos := "law.go:70", after := #[{ on := 12, ground := Ground.data }, { on := 8, ground := Ground.guard }], guard := some (8, false) }) (v := ?_) rfl (by kernel_rfl) (by kernel_rfl) (by kernel_rfl) (fun _ _ _ h => h) (Or.inl ⟨by rfl, ?_⟩) (by assumption) ?_
      rotate_left
      · (intro w' hSw; (try dsimp only at hSw); go_simp; try with_reducible rfl)
      try simp only [Act.put, List.setIfInBounds_toArray, List.set_cons_zero, List.set_cons_succ]
      refine wpAnyH_take (i := 15) (oi := { dst := some 73, op := Op.move (Operand.tmp 7), type := 23, pos := "law.go:70", after := #[{ on := 8, ground := Ground.guard }], guard := some (8, false) }) (v := ?_) rfl (by kernel_rfl) (by kernel_rfl) (by kernel_rfl) (fun _ _ _ h => h) (Or.inl ⟨by rfl, ?_⟩) (by assumption) ?_
      rotate_left
      · (intro w' hSw; (try dsimp only at hSw); go_simp; try with_reducible rfl)
      try simp only [Act.put, List.setIfInBounds_toArray, List.set_cons_zero, List.set_cons_succ]
      refine wpAnyH_take (i := 16) (oi := { dst := some 74, op := Op.move (Operand.tmp 9), type := 34, pos := "law.go:70", after := #[{ on := 8, ground := Ground.guard }], guard := some (8, false) }) (v := ?_) rfl (by kernel_rfl) (by kernel_rfl) (by kernel_rfl) (fun _ _ _ h => h) (Or.inl ⟨by rfl, ?_⟩) (by assumption) ?_
      rotate_left
      · (intro w' hSw; (try dsimp only at hSw); go_simp; try with_reducible rfl)
      try simp only [Act.put, List.setIfInBounds_toArray, List.set_cons_zero, List.set_cons_succ]
      refine wpAnyH_take (i := 17) (oi := { dst := some 75, op := Op.move (Operand.tmp 10), type := 3, pos := "law.go:70", after := #[{ on := 8, ground := Ground.guard }], guard := some (8, false) }) (v := ?_) rfl (by kernel_rfl) (by kernel_rfl) (by kernel_rfl) (fun _ _ _ h => h) (Or.inl ⟨by rfl, ?_⟩) (by assumption) ?_
      rotate_left
      · (intro w' hSw; (try dsimp only at hSw); go_simp; try with_reducible rfl)
      try simp only [Act.put, List.setIfInBounds_toArray, List.set_cons_zero, List.set_cons_succ]
      refine wpAnyH_take (i := 18) (oi := { dst := some 76, op := Op.indexAddr 34 (Operand.tmp 74) (Operand.tmp 75), type := 0, pos := "law.go:70", after := #[{ on := 16, ground := Ground.data }, { on := 17, ground := Ground.data }, { on := 8, ground := Ground.guard }], guard := some (8, false) }) (v := ?_) rfl (by kernel_rfl) (by kernel_rfl) (by kernel_rfl) (fun _ _ _ h => h) (Or.inl ⟨by rfl, ?_⟩) (by assumption) ?_
      rotate_left
      · (intro w' hSw; (try dsimp only at hSw); go_simp; try with_reducible rfl)
      try simp only [Act.put, List.setIfInBounds_toArray, List.set_cons_zero, List.set_cons_succ]
      refine wpAnyH_take (i := 19) (oi := { dst := some 77, op := Op.load 22 (Operand.tmp 76), type := 22, pos := "law.go:70", after := #[{ on := 18, ground := Ground.data }, { on := 8, ground := Ground.guard }], guard := some (8, false) }) (v := ?_) rfl (by kernel_rfl) (by kernel_rfl) (by kernel_rfl) (fun _ _ _ h => h) (Or.inl ⟨by rfl, ?_⟩) (by assumption) ?_
      rotate_left
      · (intro w' hSw; (try dsimp only at hSw); go_simp; try with_reducible rfl)
      try simp only [Act.put, List.setIfInBounds_toArray, List.set_cons_zero, List.set_cons_succ]
      refine wpAnyH_ready (rs := [14]) (by kernel_rfl) (by simp) ?_
      refine AllReadyH.cons (o := { dst := some 72, op := Op.call { callee := Callee.value (Operand.func 19), args := #[Operand.tmp 67, Operand.tmp 71], argTypes := #[23, 22] }, type := 4, pos := "law.go:70", after := #[{ on := 9, ground := Ground.data }, { on := 13, ground := Ground.data }, { on := 8, ground := Ground.chain }, { on := 8, ground := Ground.guard }], guard := some (8, false) }) rfl (fun K hK => ?_) AllReadyH.nil
      go_simp
      go_at_call 19
      refine (C3.out _ HX7.out.drew).mono ?_
      rintro e x14 hp; obtain ⟨rfl, hb⟩ := boolb_out hp
      have HY1 : Hid (WI w L AL Bw T x14) := Lib.hid (HX7.out.drew.next hb)
      clear hp hb
      refine hK.out _ _ (HCELL.out _ HY1.out) (fun hS14 => ?_)
      clear hK K hS0
      try simp only [Act.put, List.setIfInBounds_toArray, List.set_cons_zero, List.set_cons_succ]
      refine wpAnyH_ready (rs := [20]) (by kernel_rfl) (by simp) ?_
      refine AllReadyH.cons (o := { dst := some 78, op := Op.call { callee := Callee.value (Operand.func 20), args := #[Operand.tmp 73, Operand.tmp 77], argTypes := #[23, 22] }, type := 4, pos := "law.go:70", after := #[{ on := 15, ground := Ground.data }, { on := 19, ground := Ground.data }, { on := 14, ground := Ground.chain }, { on := 8, ground := Ground.guard }], guard := some (8, false) }) rfl (fun K hK => ?_) AllReadyH.nil
      go_simp
      go_at_call 20
      refine (C4.out _ HY1.out).mono ?_
      rintro e x20 hp; obtain ⟨rfl, hb⟩ := boolb_out hp
      have HY2 : Hid (WI w L AL Bw T x20) := Lib.hid (HY1.out.next hb)
      clear hp hb
      refine hK.out _ _ (HCELL.out _ HY2.out) (fun hS20 => ?_)
      clear hK K hS14
      try simp only [Act.put, List.setIfInBounds_toArray, List.set_cons_zero, List.set_cons_succ]
      refine wpAnyH_take (i := 21) (oi := { dst := some 79, op := Op.binOp BinOp.neq 4 (Operand.tmp 72) (Operand.tmp 78) 4, type := 4, pos := "law.go:70", after := #[{ on := 14, ground := Ground.data }, { on := 20, ground := Ground.data }, { on := 8, ground := Ground.guard }], guard := some (8, false) }) (v := ?_) rfl (by kernel_rfl) (by kernel_rfl) (by kernel_rfl) (fun _ _ _ h => h) (Or.inl ⟨by rfl, ?_⟩) (by assumption) ?_
      rotate_left
      · (intro w' hSw; (try dsimp only at hSw); go_simp; try with_reducible rfl)
      try simp only [Act.put, List.setIfInBounds_toArray, List.set_cons_zero, List.set_cons_succ]
      refine wpAnyH_take (i := 22) (oi := { dst := some 80, op := Op.pick (Operand.tmp 66) (Operand.const (Value.bool true)) (Operand.tmp 79), type := 4, pos := "law.go:70", after := #[{ on := 8, ground := Ground.data }, { on := 21, ground := Ground.data }], guard := none }) (v := ?_) rfl (by kernel_rfl) (by kernel_rfl) (by kernel_rfl) (fun _ _ _ h => h) (Or.inl ⟨by rfl, ?_⟩) (by assumption) ?_
      rotate_left
      · (intro w' hSw; (try dsimp only at hSw); go_simp; try with_reducible rfl)
      try simp only [Act.put, List.setIfInBounds_toArray, List.set_cons_zero, List.set_cons_succ]
      refine wpAnyH_take (i := 23) (oi := { dst := some 81, op := Op.move (Operand.tmp 80), type := 4, pos := "law.go:70", after := #[{ on := 22, ground := Ground.data }, { on := 20, ground := Ground.chain }], guard := none }) (v := ?_) rfl (by kernel_rfl) (by kernel_rfl) (by kernel_rfl) (fun _ _ _ h => h) (Or.inl ⟨by rfl, ?_⟩) (by assumption) ?_
      rotate_left
      · (intro w' hSw; (try dsimp only at hSw); go_simp; try with_reducible rfl)
      try simp only [Act.put, List.setIfInBounds_toArray, List.set_cons_zero, List.set_cons_succ]
      refine wpAnyH_take (i := 24) (oi := { dst := some 82, op := Op.move (Operand.tmp 7), type := 23, pos := "law.go:70", after := #[{ on := 23, ground := Ground.guard }], guard := some (23, false) }) (v := ?_) rfl (by kernel_rfl) (by kernel_rfl) (by kernel_rfl) (fun _ _ _ h => h) (Or.inl ⟨by rfl, ?_⟩) (by assumption) ?_
      rotate_left
      · (intro w' hSw; (try dsimp only at hSw); go_simp; try with_reducible rfl)
      try simp only [Act.put, List.setIfInBounds_toArray, List.set_cons_zero, List.set_cons_succ]
      refine wpAnyH_take (i := 25) (oi := { dst := some 83, op := Op.move (Operand.tmp 9), type := 34, pos := "law.go:70", after := #[{ on := 23, ground := Ground.guard }], guard := some (23, false) }) (v := ?_) rfl (by kernel_rfl) (by kernel_rfl) (by kernel_rfl) (fun _ _ _ h => h) (Or.inl ⟨by rfl, ?_⟩) (by assumption) ?_
      rotate_left
      · (intro w' hSw; (try dsimp only at hSw); go_simp; try with_reducible rfl)
      try simp only [Act.put, List.setIfInBounds_toArray, List.set_cons_zero, List.set_cons_succ]
      refine wpAnyH_take (i := 26) (oi := { dst := some 84, op := Op.move (Operand.tmp 10), type := 3, pos := "law.go:70", after := #[{ on := 23, ground := Ground.guard }], guard := some (23, false) }) (v := ?_) rfl (by kernel_rfl) (by kernel_rfl) (by kernel_rfl) (fun _ _ _ h => h) (Or.inl ⟨by rfl, ?_⟩) (by assumption) ?_
      rotate_left
      · (intro w' hSw; (try dsimp only at hSw); go_simp; try with_reducible rfl)
      try simp only [Act.put, List.setIfInBounds_toArray, List.set_cons_zero, List.set_cons_succ]
      refine wpAnyH_take (i := 27) (oi := { dst := some 85, op := Op.indexAddr 34 (Operand.tmp 83) (Operand.tmp 84), type := 0, pos := "law.go:70", after := #[{ on := 25, ground := Ground.data }, { on := 26, ground := Ground.data }, { on := 23, ground := Ground.guard }], guard := some (23, false) }) (v := ?_) rfl (by kernel_rfl) (by kernel_rfl) (by kernel_rfl) (fun _ _ _ h => h) (Or.inl ⟨by rfl, ?_⟩) (by assumption) ?_
      rotate_left
      · (intro w' hSw; (try dsimp only at hSw); go_simp; try with_reducible rfl)
      try simp only [Act.put, List.setIfInBounds_toArray, List.set_cons_zero, List.set_cons_succ]
      refine wpAnyH_take (i := 28) (oi := { dst := some 86, op := Op.load 22 (Operand.tmp 85), type := 22, pos := "law.go:70", after := #[{ on := 27, ground := Ground.data }, { on := 23, ground := Ground.guard }], guard := some (23, false) }) (v := ?_) rfl (by kernel_rfl) (by kernel_rfl) (by kernel_rfl) (fun _ _ _ h => h) (Or.inl ⟨by rfl, ?_⟩) (by assumption) ?_
      rotate_left
      · (intro w' hSw; (try dsimp only at hSw); go_simp; try with_reducible rfl)
      try simp only [Act.put, List.setIfInBounds_toArray, List.set_cons_zero, List.set_cons_succ]
      refine wpAnyH_take (i := 30) (oi := { dst := some 88, op := Op.move (Operand.tmp 7), type := 23, pos := "law.go:70", after := #[{ on := 23, ground := Ground.guard }], guard := some (23, false) }) (v := ?_) rfl (by kernel_rfl) (by kernel_rfl) (by kernel_rfl) (fun _ _ _ h => h) (Or.inl ⟨by rfl, ?_⟩) (by assumption) ?_
      rotate_left
      · (intro w' hSw; (try dsimp only at hSw); go_simp; try with_reducible rfl)
      try simp only [Act.put, List.setIfInBounds_toArray, List.set_cons_zero, List.set_cons_succ]
      refine wpAnyH_take (i := 31) (oi := { dst := some 89, op := Op.move (Operand.tmp 9), type := 34, pos := "law.go:70", after := #[{ on := 23, ground := Ground.guard }], guard := some (23, false) }) (v := ?_) rfl (by kernel_rfl) (by kernel_rfl) (by kernel_rfl) (fun _ _ _ h => h) (Or.inl ⟨by rfl, ?_⟩) (by assumption) ?_
      rotate_left
      · (intro w' hSw; (try dsimp only at hSw); go_simp; try with_reducible rfl)
      try simp only [Act.put, List.setIfInBounds_toArray, List.set_cons_zero, List.set_cons_succ]
      refine wpAnyH_take (i := 32) (oi := { dst := some 90, op := Op.move (Operand.tmp 10), type := 3, pos := "law.go:70", after := #[{ on := 23, ground := Ground.guard }], guard := some (23, false) }) (v := ?_) rfl (by kernel_rfl) (by kernel_rfl) (by kernel_rfl) (fun _ _ _ h => h) (Or.inl ⟨by rfl, ?_⟩) (by assumption) ?_
      rotate_left
      · (intro w' hSw; (try dsimp only at hSw); go_simp; try with_reducible rfl)
      try simp only [Act.put, List.setIfInBounds_toArray, List.set_cons_zero, List.set_cons_succ]
      refine wpAnyH_take (i := 33) (oi := { dst := some 91, op := Op.indexAddr 34 (Operand.tmp 89) (Operand.tmp 90), type := 0, pos := "law.go:70", after := #[{ on := 31, ground := Ground.data }, { on := 32, ground := Ground.data }, { on := 23, ground := Ground.guard }], guard := some (23, false) }) (v := ?_) rfl (by kernel_rfl) (by kernel_rfl) (by kernel_rfl) (fun _ _ _ h => h) (Or.inl ⟨by rfl, ?_⟩) (by assumption) ?_
      rotate_left
      · (intro w' hSw; (try dsimp only at hSw); go_simp; try with_reducible rfl)
      try simp only [Act.put, List.setIfInBounds_toArray, List.set_cons_zero, List.set_cons_succ]
      refine wpAnyH_take (i := 34) (oi := { dst := some 92, op := Op.load 22 (Operand.tmp 91), type := 22, pos := "law.go:70", after := #[{ on := 33, ground := Ground.data }, { on := 23, ground := Ground.guard }], guard := some (23, false) }) (v := ?_) rfl (by kernel_rfl) (by kernel_rfl) (by kernel_rfl) (fun _ _ _ h => h) (Or.inl ⟨by rfl, ?_⟩) (by assumption) ?_
      rotate_left
      · (intro w' hSw; (try dsimp only at hSw); go_simp; try with_reducible rfl)
      try simp only [Act.put, List.setIfInBounds_toArray, List.set_cons_zero, List.set_cons_succ]
      refine wpAnyH_ready (rs := [29]) (by kernel_rfl) (by simp) ?_
      refine AllReadyH.cons (o := { dst := some 87, op := Op.call { callee := Callee.value (Operand.func 21), args := #[Operand.tmp 82, Operand.tmp 86], argTypes := #[23, 22] }, type := 22, pos := "law.go:70", after := #[{ on := 24, ground := Ground.data }, { on := 28, ground := Ground.data }, { on := 23, ground := Ground.chain }, { on := 23, ground := Ground.guard }], guard := some (23, false) }) rfl (fun K hK => ?_) AllReadyH.nil
      go_simp
      go_at_call 21
      refine (C5.out _ HY2.out).mono ?_
      rintro e x29 hp; obtain ⟨A8, c8, n8, rfl, h1, h2, h3, h4, hb⟩ := l_out hp
      have HY3 : Hid (WI w L AL Bw T x29 ∧ Rd x29 A8 (iv FR) ∧ n8 = FR.length ∧ n8 ≤ maxLen) := Lib.hid ⟨HY2.out.next hb, h2, h1, Nat.le_trans h3 h4⟩
      clear h1 h2 h3 h4
      clear hp hb
      refine hK.out _ _ (HCELL.out _ HY3.out.1) (fun hS29 => ?_)
      clear hK K hS20
      try simp only [Act.put, List.setIfInBounds_toArray, List.set_cons_zero, List.set_cons_succ]
      refine wpAnyH_ready (rs := [35]) (by kernel_rfl) (by simp) ?_
      refine AllReadyH.cons (o := { dst := some 93, op := Op.call { callee := Callee.value (Operand.func 22), args := #[Operand.tmp 88, Operand.tmp 92], argTypes := #[23, 22] }, type := 22, pos := "law.go:70", after := #[{ on := 30, ground := Ground.data }, { on := 34, ground := Ground.data }, { on := 29, ground := Ground.chain }, { on := 23, ground := Ground.guard }], guard := some (23, false) }) rfl (fun K hK => ?_) AllReadyH.nil
      go_simp
      go_at_call 22
      refine (C6.out _ HY3.out.1).mono ?_
      rintro e x35 hp; obtain ⟨A9, c9, n9, rfl, h1, h2, h3, h4, hb⟩ := l_out hp
      have HY4 : Hid (WI w L AL Bw T x35 ∧ Rd x35 A8 (iv FR) ∧ Rd x35 A9 (iv FR) ∧ n9 = FR.length) := Lib.hid ⟨HY3.out.1.next hb, HY3.out.2.1.below hb, h2, h1⟩
      clear h1 h2 h3 h4
      clear hp hb
      refine hK.out _ _ (HCELL.out _ HY4.out.1) (fun hS35 => ?_)
      clear hK K hS29
      try simp only [Act.put, List.setIfInBounds_toArray, List.set_cons_zero, List.set_cons_succ]
      refine wpAnyH_ready (rs := [36]) (by kernel_rfl) (by simp) ?_
      refine AllReadyH.cons (o := { dst := some 94, op := Op.call { callee := Callee.value (Operand.func 14), args := #[Operand.tmp 87, Operand.tmp 93], argTypes := #[22, 22] }, type := 4, pos := "law.go:70", after := #[{ on := 29, ground := Ground.data }, { on := 35, ground := Ground.data }, { on := 35, ground := Ground.chain }, { on := 23, ground := Ground.guard }], guard := some (23, false) }) rfl (fun K hK => ?_) AllReadyH.nil
      go_simp
      go_at_call 14
      refine (HSI.out FR _ _ _ _ _ _ true _ HY3.out.2.2.1 HY4.out.2.2.2 HY3.out.2.2.2 HY4.out.2.1 HY4.out.2.2.1 rfl).mono ?_
      rintro e x36 hp; obtain ⟨rfl, hb⟩ := boolb_out hp
      have HY5 : Hid (WI w L AL Bw T x36) := Lib.hid (HY4.out.1.next hb)
      clear hp hb
      refine hK.out _ _ (HCELL.out _ HY5.out) (fun hS36 => ?_)
      clear hK K hS35
      try simp only [Act.put, List.setIfInBounds_toArray, List.set_cons_zero, List.set_cons_succ]
      refine wpAnyH_take (i := 37) (oi := { dst := some 95, op := Op.unOp UnOp.not 4 (Operand.tmp 94), type := 4, pos := "law.go:70", after := #[{ on := 36, ground := Ground.data }, { on := 23, ground := Ground.guard }], guard := some (23, false) }) (v := ?_) rfl (by kernel_rfl) (by kernel_rfl) (by kernel_rfl) (fun _ _ _ h => h) (Or.inl ⟨by rfl, ?_⟩) (by assumption) ?_
      rotate_left
      · (intro w' hSw; (try dsimp only at hSw); go_simp; try with_reducible rfl)
      try simp only [Act.put, List.setIfInBounds_toArray, List.set_cons_zero, List.set_cons_succ]
      refine wpAnyH_take (i := 38) (oi := { dst := some 96, op := Op.pick (Operand.tmp 81) (Operand.const (Value.bool true)) (Operand.tmp 95), type := 4, pos := "law.go:70", after := #[{ on := 23, ground := Ground.data }, { on := 37, ground := Ground.data }], guard := none }) (v := ?_) rfl (by kernel_rfl) (by kernel_rfl) (by kernel_rfl) (fun _ _ _ h => h) (Or.inl ⟨by rfl, ?_⟩) (by assumption) ?_
      rotate_left
      · (intro w' hSw; (try dsimp only at hSw); go_simp; try with_reducible rfl)
      try simp only [Act.put, List.setIfInBounds_toArray, List.set_cons_zero, List.set_cons_succ]
      refine wpAnyH_done (by kernel_rfl) ?_ _
      go_wp2_with fail
      go_roundg g
      case rel => exact ⟨i + 1, by omega, by go_num, HY5⟩
      case measure => omega
    · obtain rfl : i = 6 := by omega
      go_wp2_with ((with_reducible refine (HLI.out _ HI.out.bel).mono ?_); rintro e w9 ⟨rfl, hb⟩; have HX9 := Lib.hid (below_next HI.out.bel hb); clear hb)
      go_ret
      exact ⟨rfl, HX9.out⟩

set_option maxRecDepth 100000 in
theorem contract (H : Type) (enc : TypeId × Value → H) (W : World) (base : Nat) (args : Array Value) (ds gs : List (DataW H)) (before : List MemPlace)
    (hval : ∀ (j : Nat) t v, Tryd.f4.params[j]? = some t → args[j]? = some v → Value.okWide Tryd.prog W .any base t v)
    (hW : DataW.Whole enc Tryd.prog Tryd.f4.params.toList Rows.alphabetWritesSpec.vars false W args.toList ds gs before)
    (hsz : (DataW.weightsEach Tryd.prog (Tryd.f4.params.toList ++ Rows.alphabetWritesSpec.plain.varTypes Tryd.prog) (ds ++ gs)).all (· ≤ reachBytes) = true) (hK : ML W) :
    Calls Tryd.prog 4 args W fun e W' => ∃ v, e = .returned v ∧ Rows.alphabetWritesSpec.post enc Tryd.prog Tryd.f4 false true false false W args v W' := by
  have hW' := hW
  obtain ⟨p, q, hA0, hV, rfl, hfz, hnd⟩ := hW
  have hA : DataW.TrodAll enc Tryd.prog W 0 (fun _ => true) true Tryd.f4.params.toList args.toList ds p := hA0
  rw [Tryd.params4] at hA hval hsz
  obtain ⟨v0, v1, v2, d0, d1, d2, p0, p1, p2, rfl, rfl, rfl, h0, h1, h2⟩ := trodAll_three hA
  obtain ⟨rfl, rfl⟩ := trodVars_none hV
  obtain ⟨lA, ll, lc, rfl, lr, li, ln, lm⟩ := open_ivs (hval 0 22 v0 rfl rfl) h0
  obtain ⟨kA, kl, kc, rfl, kr, ki, kn, km⟩ := open_ivs (hval 1 22 v1 rfl rfl) h1
  obtain ⟨s, rfl, rfl, rfl, sw⟩ := open_int Tryd.underlying3 (hval 2 3 v2 rfl rfl) h2
  have si := inI_wf sw
  have hargs : (#[.slice lA ll.length lc, .slice kA kl.length kc, .int .i64 s] : Array Value) = #[.slice lA ll.length lc, .slice kA kl.length kc, .int .i64 s] := by rfl
  have hwalk : Calls Tryd.prog 4 #[.slice lA ll.length lc, .slice kA kl.length kc, .int .i64 s] W fun e W' => e = .returned (.bool true) ∧ Below W.heap.size W W' := by
    rw [hargs]
    exact walk ll lA lc li ln lm kl kA kc ki kn km s W lr kr hK
  refine hwalk.mono fun e W' ⟨he, hb⟩ => ⟨_, he, ?_⟩
  exact law_post rfl rfl (by kernel_rfl) hW' rfl hb

set_option maxRecDepth 100000 in
theorem lifted (os : Os) (started : os.Started) (H : Type) (enc : TypeId × Value → H) :
    ReturnsInHanded {} Tryd.checked os 4 .any (fun w args => (Rows.alphabetWritesSpec.pre enc Tryd.prog Tryd.f4 [] false w args ∧ laidMetH Tryd.prog laidA w) ∧ sizedMet enc Tryd.prog Tryd.f4 (OpenSpec.ofChange Rows.alphabetWritesSpec) false w args)
      (Rows.alphabetWritesSpec.post enc Tryd.prog Tryd.f4 false true false false) := by
  refine lift5 (C := Tryd.checked) Tryd.own (enc := enc) (os := os) started (by kernel_rfl) Tryd.func4 #[.slice none 0 0, .slice none 0 0, .int .i64 0] (World.shaped_of_ZipB (by kernel_rfl) (by kernel_rfl)) (by kernel_rfl) (by kernel_rfl) (by kernel_rfl) (metA os _) ?_
  intro W base args ds gs before hval hW hsz shape met
  exact contract H enc W base args ds gs before hval hW hsz (ml_shape shape)

theorem row : Rows.AlphabetWritesSaid :=
  OpenClaim.holds_of_wide 4 Tryd.f4 rfl rfl rfl rfl rfl rfl rfl ⟨rfl, rfl, rfl, rfl, rfl⟩ rfl rfl rfl rfl rfl (by kernel_rfl) Tryd.func4 (by kernel_rfl)
    (of_decide_eq_true (by kernel_rfl)) (by unfold Func.isWrapper; first | (rw [if_pos (by decide +kernel)]; kernel_rfl) | (rw [if_neg (by decide +kernel)]; exact ⟨rfl, rfl⟩))
    (fun os started H enc _ => lifted os started H enc)

theorem proved : Rows.AlphabetWritesCardSaid :=
  Claim7.holds_tied_plain_at .later [] [.data, .pinned] true (true, "7232729ef4ef8a14cd71f04c7a643cd3ec9606b55a84630ce42a8805fdbb5518") false
    row (fun _ h => by cases h) (by kernel_rfl) (fun _ h => by cases h) alphabetWrites_row_tie rfl ⟨rfl, rfl⟩ (by kernel_rfl) rfl
    (fun f fn hf hfn => by
      obtain rfl : f = 4 := Option.some.inj ((show Tryd.prog.funcNamed "wordbook/wordbooklaw05.AlphabetWrites" = some 4 by kernel_rfl).symm.trans hf) |>.symm
      obtain rfl : fn = Tryd.f4 := (Option.some.inj (Tryd.func4.symm.trans hfn)).symm
      exact ⟨by kernel_rfl, fun j t ht => by
        rw [Tryd.params4] at ht
        have hm : t ∈ [22, 22, 3] := by simpa using Array.mem_of_getElem? ht
        have hall : ([22, 22, 3].all fun u => !Tryd.prog.wantsStandIn u) = true := by kernel_rfl
        exact (show Tryd.prog.wantsStandIn t = false by simpa using List.all_eq_true.1 hall t hm)⟩)
    (by kernel_rfl)
end AL2
end Go.Proofs.YtolkmjgklgimpaaDoor
