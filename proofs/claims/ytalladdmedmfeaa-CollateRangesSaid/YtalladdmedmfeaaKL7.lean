/-
  CollateRanges: for all arguments the law returns true, and leaves what was there as it was.
-/
import Derived.Test.YtalladdmedmfeaaKRange
namespace Go.Proofs.Ytalladdmedmfeaa
open Go.ChangeShapes Go.WideShapes Go.ChangeAt Go.RowKit Go.ChangeMaps
open Alp Col
set_option linter.unusedVariables false
set_option linter.unusedSimpArgs false
namespace KL7
theorem run_make_bools (n : Nat) (hn : n ≤ 100000) (w : World) : (Instr.makeSlice 45 (.int .i64 (n : Int)) (.int .i64 (n : Int))).run Try.prog w = .ok (.slice (some ⟨w.heap.size, 0, none⟩) n n) (w.alloc (.cells (List.replicate n (Value.bool false)).toArray 4)) := by
  obtain ⟨i0, hi0, hz0, hz1, hz2⟩ := info_parts (show (Try.prog.info? 4).map (fun i => (i.zero, i.size, i.bytes)) = some (some (.bool false), 1, 1) by kernel_rfl)
  have h := run_make (P := Try.prog) w 45 4 i0 _ Try.underlying45 hi0 hz0 .i64 .i64 (n : Int) (n : Int) (by omega) (Int.le_refl _) (by rw [hz2]; omega) (by omega)
  have e : madeCells (Value.bool false).cells n = (List.replicate n (Value.bool false)).toArray := by
    apply Array.ext
    · simp [madeCells]
    · intro i h1 h2
      simp [madeCells, Value.cells, Nat.mod_one]
  rw [h, Int.toNat_natCast, hz1, Nat.mul_one, e]
theorem there (w : World) (g : Nat) (C : List Value) (T : TypeId) (h : Blk w g C T) (k : Nat) (v : Value) (hk : C[k]? = some v) : w.cell? ⟨g, k, none⟩ = some v ∧ w.frozen? ⟨g, k, none⟩ = false := ⟨h.cell hk, h.frozen k⟩
theorem grown_set (W : World) (b k : Nat) (v : Value) : W.grownBy (W.setCell ⟨b, k, none⟩ v) (some b) :=
  ⟨rfl, rfl, rfl, by simp [World.setCell], fun j _ hj => Below.heap_setCell _ _ _ j (fun e => hj (by rw [e]))⟩
theorem src_set {size : Nat} {tx e' : TypeId} (hk : Try.prog.underlying tx = some (.slice e')) (hs : size = 1) (W : World) (p : Addr) (x u : Value) (T : TypeId) (hu : u.oneCell' = true) : Src Try.prog size tx (.slice (some ⟨W.heap.size, 0, none⟩) 1 1) 1 [u] ((W.setCell p x).alloc (.cells #[u] T)) := by
  have h := src_one hk hs (W.setCell p x) u T hu
  have e : (W.setCell p x).heap.size = W.heap.size := by simp [World.setCell]
  rw [e] at h
  exact h
def RgI (w5 : World) (n : Nat) (us : List (List Int)) (d : List Int) (i : Nat) (v : Value) (ys : List Value) (wr : World) : Prop := Blk wr w5.heap.size (seenL n d i) 4 ∧ wr.ownsRow (w5.heap.size + 1) 22 1 v i ys ∧ (ys.length = i ∧ ∀ j, j < i → ∃ A m c, ys[j]? = some (.slice A m c) ∧ WdR w5 (wordAt us (d.getD j 0)) A m c) ∧ Below w5.heap.size w5 wr
section
variable {w5 wr : World} {n i k : Nat} {us : List (List Int)} {d : List Int} {v : Value} {ys : List Value}
theorem RgI.own (h : RgI w5 n us d i v ys wr) (u : Value) : (wr.setCell ⟨w5.heap.size, k, none⟩ u).ownsRow (w5.heap.size + 1) 22 1 v i ys :=
  h.2.1.kept (grown_set wr _ k u) (.inr (fun e => by have := (h.2.1.lt _ e).1; omega))
theorem RgI.lt (h : RgI w5 n us d i v ys wr) : w5.heap.size < wr.heap.size := h.1.lt
theorem RgI.other (h : RgI w5 n us d i v ys wr) (u : Value) {b o : Nat} {x : Value} (hc : w5.cell? ⟨b, o, none⟩ = some x) : (wr.setCell ⟨w5.heap.size, k, none⟩ u).cell? ⟨b, o, none⟩ = some x := by
  have hl := World.block_lt_of_cell? w5 _ hc
  have hl2 : b < w5.heap.size := hl
  exact (World.cell?_setCell_other _ _ _ _ (by intro e'; simp only [Addr.mk.injEq] at e'; omega)).trans ((h.2.2.2.cell (p := ⟨b, o, none⟩) hl).trans hc)
theorem RgI.size (h : RgI w5 n us d i v ys wr) (u : Value) (o : Obj) : w5.heap.size + 1 ≤ ((wr.setCell ⟨w5.heap.size, k, none⟩ u).alloc o).heap.size := by
  have h1 := h.lt
  have h2 := (grown_set wr w5.heap.size k u).size
  have h3 := (World.grownBy_alloc (wr.setCell ⟨w5.heap.size, k, none⟩ u) o none).size
  omega
theorem RgI.step (h : RgI w5 n us d i v ys wr) (hi : i < d.length) (hk : d.getD i 0 = k) {A : Option Addr} {m c : Nat} (hw : WdR w5 (us.getD k []) A m c) {o : Obj} {v4 : Value} {w4 : World} (hown : w4.ownsRow (w5.heap.size + 1) 22 1 v4 (i + 1) (ys ++ [.slice A m c])) (hg : ((wr.setCell ⟨w5.heap.size, k, none⟩ (.bool true)).alloc o).grownBy w4 v.ownBlock) :
    RgI w5 n us d (i + 1) v4 (ys ++ [.slice A m c]) w4 := by
  have hne : ∀ g, v.ownBlock = some g → w5.heap.size + 1 ≤ g := fun g e => (h.2.1.lt g e).1
  refine ⟨?_, hown, ⟨by rw [List.length_append, h.2.2.1.1]; rfl, fun j hj => ?_⟩, ?_⟩
  · have h1 := (h.1.set k (.bool true))
    rw [seen_step hi hk] at h1
    have h2 := h1.alloc o
    exact (hg.block _ h2.lt (fun e => by have := hne _ e.symm; omega)).trans h2
  · by_cases e : j < i
    · obtain ⟨A', m', c', e1, e2⟩ := h.2.2.1.2 j e
      exact ⟨A', m', c', by rw [List.getElem?_append_left (by rw [h.2.2.1.1]; exact e)]; exact e1, e2⟩
    · obtain rfl : j = i := by omega
      refine ⟨A, m, c, by rw [List.getElem?_append_right (by rw [h.2.2.1.1]; exact Nat.le_refl _), h.2.2.1.1, Nat.sub_self]; rfl, ?_⟩
      rw [hk, wordAt_nat]
      exact hw
  · exact below_own (below_al (h.2.2.2.setCell (Nat.le_refl _) _) o) hg fun g e => by have := hne g e; omega
theorem RgI.done (h : RgI w5 n us d n v ys wr) (hl : d.length = n) (hn : n ≤ 1000) : ∃ A c, v = .slice A n c ∧ WsR wr (d.map (wordAt us)) A n c := by
  obtain ⟨A, c, e, hr, h1, h2⟩ := Rd.of_own h.2.1
  have hss : (d.map (wordAt us)).length = n := by rw [List.length_map, hl]
  refine ⟨A, c, e, hss.symm, hn, h1, h2, ys, ⟨by rw [hss, h.2.2.1.1], fun k hk => ?_⟩, hr⟩
  rw [hss] at hk
  obtain ⟨A', m', c', e1, e2⟩ := h.2.2.1.2 k hk
  refine ⟨A', m', c', e1, ?_⟩
  have : (d.map (wordAt us)).getD k [] = wordAt us (d.getD k 0) := by simp [List.getD, show k < d.length by omega]
  rw [this]
  exact e2.below h.2.2.2
end
theorem words_out {w w2 : World} {N : Nat} {Q : List (List Int) → Prop} {e : Ending} (hN : N ≤ 1000) (h : WnPost w (fun ws => ws.length = N ∧ Q ws) e w2) : ∃ A c us, e = .returned (.slice A N c) ∧ WsR w2 us A N c ∧ Below w.heap.size w w2 := by
  obtain ⟨v, xs, us, h1, h2, h3⟩ := wn_out h
  obtain ⟨A, c, e, hr⟩ := wn_open h3 (by omega)
  rw [h2] at e hr
  exact ⟨A, c, us, by rw [h1, e], hr, h3.bel⟩
set_option maxRecDepth 1000000 in
set_option maxHeartbeats 32000000 in
theorem walk (l : List Int) (Al : Option Addr) (cl : Nat) (li : ∀ x ∈ l, inI x) (ln : l.length ≤ cl) (lm : cl ≤ maxLen) (m : List Int) (Am : Option Addr) (cm : Nat) (mi : ∀ x ∈ m, inI x) (mn : m.length ≤ cm) (mm : cm ≤ maxLen) (many : Int) (manyi : inI many) (pos : Int) (posi : inI pos) (w : World) (lr : Rd w Al (iv l)) (mr : Rd w Am (iv m)) : Calls Try.prog 9 #[.slice Al l.length cl, .slice Am m.length cm, .int .i64 many, .int .i64 pos] w fun e w' => e = .returned (.bool true) ∧ Below w.heap.size w w' := by
  obtain ⟨L, hL⟩ : ∃ L, L = lettersP l := ⟨_, rfl⟩
  have hv : valP L = true := by rw [hL]; exact letters_val l
  obtain ⟨j0, hj0, hy0, hy1, hy2⟩ := info_parts Try.infoSl
  have HTX : Hid (∀ x ∈ L, x.text.length ≤ maxLen) := Lib.hid fun x hx => by have := (val_plain hv hx).2.1; unfold maxLen; omega
  have HLE : Hid (Calls Try.prog 12 #[.slice Al l.length cl] w (LtPost w L)) := Lib.hid (by rw [hL]; exact letters_any l Al _ cl rfl ln lm li w lr)
  obtain ⟨N, hN⟩ : ∃ N : Nat, arP many 20 = N := ⟨_, (Int.toNat_of_nonneg (arP_bd many (by omega)).1).symm⟩
  obtain ⟨N1, hN1⟩ : ∃ N1 : Nat, N1 = 1 + N := ⟨_, rfl⟩
  have hN1i : 1 + (N : Int) = (N1 : Int) := by omega
  have hN1b : N1 ≤ 20 := by have := (arP_bd many (m := 20) (by omega)).2; omega
  have hN10 : 0 < N1 := by omega
  have HNB : Hid (N1 ≤ 30) := Lib.hid (by have := (arP_bd many (m := 20) (by omega)).2; omega)
  have HAR : Hid (∀ W, Calls Try.prog 27 #[.int .i64 many, .int .i64 20] W fun e w' => e = .returned (.int .i64 N) ∧ W = w') := Lib.hid fun W => by rw [← hN]; exact raround_any many 20 manyi.1 manyi.2 (by omega) (by omega) W
  have HWD : Hid (∀ AL q cq W, Below w.heap.size w W → AlR W L AL q cq → Calls Try.prog 15 #[.slice AL q cq, .slice Am m.length cm, .int .i64 ((N1 : Nat) : Int)] W (WnPost W fun ws => ws.length = N1 ∧ ∀ k, k < N1 → (ws.getD k []).length ≤ 3 * (k + 1))) := Lib.hid fun AL q cq W hb ha => by
    have h1 := ((valP_iff L).1 hv).1
    have h2 := ((valP_iff L).1 hv).2.1
    have h3 := words_any L AL q cq (by rw [ha.len]; exact h1) (by rw [ha.len]; exact h2) m Am m.length cm rfl mn mm mi (N1) HNB.out W ha (mr.below hb)
    exact h3
  have HLI : Hid (∀ W, Calls Try.prog 20 #[] W (BoolB W true)) := Lib.hid fun W => lives_any W
  have HV := Lib.hid hv
  have HSO : Hid (∀ (ws : List (List Int)) (A A1 : Option Addr) (q cq n c1 : Nat) (W : World), AlR W L A q cq → WsR W ws A1 n c1 → Calls Try.prog 28 #[.slice A q cq, .slice A1 n c1] W (SoPost W L ws)) := Lib.hid fun ws A A1 q cq n c1 W ha hw => sort_yes L hv A A1 q cq n c1 ws W ha hw
  have HCM : Hid (∀ (x y : List Int) (A A1 A2 : Option Addr) (q cq n1 c1 n2 c2 : Nat) (R : Int) (W : World), AlR W L A q cq → WdR W x A1 n1 c1 → WdR W y A2 n2 c2 → R = cmpU L x y 0 4 → Calls Try.prog 23 #[.slice A q cq, .slice A1 n1 c1, .slice A2 n2 c2] W (IPost W R)) := Lib.hid fun x y A A1 A2 q cq n1 c1 n2 c2 R W ha hx hy hR => compare_any L A A1 A2 q cq n1 c1 n2 c2 x y R (by rw [cmpP_yes hv, hR]) W ha hx hy
  have HSP : Hid (∀ (x y : List Int) (A A1 A2 : Option Addr) (q cq n1 c1 n2 c2 n : Nat) (V : Bool) (W : World), 1 ≤ n → n ≤ 4 → AlR W L A q cq → WdR W x A1 n1 c1 → WdR W y A2 n2 c2 → V = decide (cmpU L x y 0 n = 0) → Calls Try.prog 25 #[.slice A q cq, .slice A1 n1 c1, .slice A2 n2 c2, .int .i64 (n : Int)] W (BoolB W V)) := Lib.hid fun x y A A1 A2 q cq n1 c1 n2 c2 n V W h1 h4 ha hx hy hV => same_any' L A A1 A2 q cq n1 c1 n2 c2 (n : Int) x y V (by
    rw [hV]; unfold sameP; rw [Int.toNat_natCast]
    exact decide_eq_decide.2 ⟨fun h => ⟨hv, ⟨by omega, by omega⟩, h⟩, fun h => h.2.2⟩) W ha hx hy
  have HFN : Hid (∀ (ss : List (List Int)) (x : List Int) (A A1 A2 : Option Addr) (q cq n1 c1 n2 c2 n F T : Nat) (W : World), 1 ≤ n → n ≤ 4 → AlR W L A q cq → WsR W ss A1 n1 c1 → WdR W x A2 n2 c2 → F = lessN L ss x n → T = lessN L ss x n + sameN L ss x n → Calls Try.prog 30 #[.slice A q cq, .slice A1 n1 c1, .slice A2 n2 c2, .int .i64 (n : Int)] W (FPost W (F, T))) := Lib.hid fun ss x A A1 A2 q cq n1 c1 n2 c2 n F T W h1 h4 ha hs hx hF hT => find_any L A A1 A2 q cq n1 c1 n2 c2 (n : Int) ss x (F, T) (by
    unfold findP okN
    rw [if_pos (decide_eq_true ⟨hv, by omega, by omega⟩), Int.toNat_natCast, hF, hT]) W ha hs hx
  have hmk := fun W => run_make_bools N1 (by omega) W
  obtain ⟨Z, hZ⟩ : ∃ Z, Z = (List.replicate N1 (Value.bool false)).toArray := ⟨_, rfl⟩
  have HZ := Lib.hid hZ
  rw [← hZ] at hmk
  obtain ⟨k0, hk0⟩ : ∃ k0 : Nat, arP pos (N1 : Int) = k0 := ⟨_, (Int.toNat_of_nonneg (arP_bd pos (by omega)).1).symm⟩
  have hk0n : k0 < N1 := by have := (arP_bd pos (m := (N1 : Int)) (by omega)).2; omega
  have HAR2 : Hid (∀ W, Calls Try.prog 27 #[.int .i64 pos, .int .i64 (N1 : Int)] W fun e w' => e = .returned (.int .i64 k0) ∧ W = w') := Lib.hid fun W => by rw [← hk0]; exact raround_any pos (N1 : Int) posi.1 posi.2 (by omega) (by omega) W
  clear hL hv hN hN1 li lr mi mr manyi posi hZ hk0
  go_enter Try.func9, Try.ntmps9
  go_wp2_with (first
    | ((with_reducible refine HLE.out.mono ?_); rintro e w1 hp; obtain ⟨AL, q, cq, rfl, h1, h2, h3, h4, hb⟩ := lt_out hp; have HA : Hid (AlR w1 L AL q cq ∧ Below w.heap.size w w1) := Lib.hid ⟨⟨h1, h3, h4, HTX.out, h2⟩, hb⟩; have hqc : q ≤ cq := h3; have hqb : cq ≤ 9223372036854775807 := (by unfold maxLen at h4; omega); clear hp h1 h2 h3 h4 hb)
    | ((with_reducible refine (HAR.out _).mono ?_); rintro e wa ⟨rfl, rfl⟩)
    | ((with_reducible refine (HWD.out _ _ _ _ HA.out.2 HA.out.1).mono ?_); rintro e w2 hp; obtain ⟨A4, c4, us, rfl, hws, hb⟩ := words_out (by omega) hp; have HW : Hid (WsR w2 us A4 N1 c4 ∧ Below w.heap.size w w2 ∧ AlR w2 L AL q cq) := Lib.hid ⟨hws, below_next HA.out.2 hb, HA.out.1.below hb⟩; have hc4 : N1 ≤ c4 := hws.cap; have hm4 : c4 ≤ 9223372036854775807 := (by have := hws.max; unfold maxLen at this; omega); clear hp hws hb)
    | ((with_reducible refine (HSO.out _ _ _ _ _ _ _ _ HW.out.2.2 HW.out.1).mono ?_); rintro e w5 hp; obtain ⟨d, A5, n5, c5, rfl, h1, h2, h3, h4, h5, h6, hb⟩ := so_out hp; obtain rfl : n5 = N1 := (by rw [h1]; exact HW.out.1.len.symm); have HS : Hid (d.Perm (upL n5) ∧ Sd (cmpW L us) d ∧ d.length = n5 ∧ Rd w5 A5 (iv d)) := Lib.hid ⟨h2, h3, by rw [h2.length_eq, upL_length], h4⟩; have hc5 : n5 ≤ c5 := h5; have hm5 : c5 ≤ 9223372036854775807 := (by unfold maxLen at h6; omega); have H5 : Hid (WsR w5 us A4 n5 c4 ∧ Below w.heap.size w w5 ∧ AlR w5 L AL q cq) := Lib.hid ⟨HW.out.1.below hb, below_next HW.out.2.1 hb, HW.out.2.2.below hb⟩; clear hp h1 h2 h3 h4 h5 h6 hb))
  obtain ⟨b5, o5, hA5⟩ := il_or HS.out.2.2.1.symm HS.out.2.2.2
  obtain ⟨b4, o4, hA4⟩ := ws_or H5.out.1
  obtain ⟨b, o, rfl, hrl⟩ := rl_open H5.out.2.2.rd (val_ne HV.out)
  obtain ⟨rfl, hil⟩ : A5 = some ⟨b5, o5, none⟩ ∧ IL w5 b5 o5 d := by
    rcases hA5 with h | h
    · omega
    · exact h
  obtain ⟨rfl, hwa⟩ : A4 = some ⟨b4, o4, none⟩ ∧ WsAt w5 b4 o4 us := by
    rcases hA4 with h | h
    · omega
    · exact h
  have HIL := Lib.hid hil
  have HWA : Hid (∀ k, k < n5 → ∃ A n c, w5.cell? ⟨b4, o4 + k, none⟩ = some (.slice A n c) ∧ WdR w5 (us.getD k []) A n c) := Lib.hid fun k hk => hwa k (by have := H5.out.1.len; omega)
  clear hA5 hA4 hrl hil hwa HA HW hmk
  go_loopg [13, 14] n5 (fun g s13 s14 wr => ∃ (i : Nat) (ys : List Value), i + g = n5 ∧ s14 = .int .i64 (i : Int) ∧ Hid (RgI w5 n5 us d i s13 ys wr))
  case atStart => exact ⟨0, [], by omega, rfl, Lib.hid ⟨by rw [seen_zero]; exact Blk.at w5 (List.replicate n5 (Value.bool false)) _ _ _ HZ.out rfl, ⟨rfl, .inl ⟨rfl, rfl⟩⟩, ⟨rfl, fun j hj => by omega⟩, below_a1 _ _⟩⟩
  case round =>
    obtain ⟨i, ys, hi, rfl, HI⟩ := hrel
    by_cases hlt : i < n5
    · obtain ⟨g, rfl⟩ : ∃ g, gk = g + 1 := ⟨gk - 1, by omega⟩
      obtain ⟨k, hk, hkn⟩ := up_at HS.out.1 hlt
      obtain ⟨Ak, nk, ck, hcw, hwk⟩ := HWA.out k hkn
      have hc0 : w5.cell? ⟨b5, o5 + i, none⟩ = some (.int .i64 (k : Int)) := HIL.out.at (Below.refl _ _) (by rw [HS.out.2.2.1]; exact hlt) hk.symm
      have hck : wr.cell? ⟨b5, o5 + i, none⟩ = some (.int .i64 (k : Int)) := (HI.out.2.2.2.cell (p := ⟨b5, o5 + i, none⟩) (World.block_lt_of_cell? w5 _ hc0)).trans hc0
      have hck2 := HI.out.other (k := k) (.bool true) hc0
      have hcw2 := HI.out.other (k := k) (.bool true) hcw
      obtain ⟨hcs, hfz⟩ := there wr _ _ _ HI.out.1 k _ (seen_no HS.out.1 hlt hk hkn)
      have HK : Hid (d.getD i 0 = k ∧ WdR w5 (us.getD k []) Ak nk ck) := Lib.hid ⟨hk, hwk⟩
      have hd1 : decide ((k : Int) < 0) = false := decide_eq_false (by omega)
      have hd2 : decide ((n5 : Int) ≤ (k : Int)) = false := decide_eq_false (by omega)
      have hu1 : i + 1 ≤ maxLen := by unfold maxLen; omega
      have hu2 : (i + 1) * 24 ≤ 140737488355328 := by omega
      clear hk hwk hcw hc0
      go_wp2_with (at_builtin; refine wpList_own_src rfl (.tmp 76) (.tmp 84) 23 23 rfl (w5.heap.size + 1) 22 j0 _ 1 24 Try.underlying23 hj0 hy0 hy1 hy2 rfl _ _ _ rfl (own_alc (HI.out.own _) _) _ 1 [.slice Ak nk ck] rfl (src_set Try.underlying23 hy1 wr _ _ _ _ rfl) hu1 hu2 (HI.out.size _ _) ?_; intro v4 w4 hown4 hg4 hat4; have HZ4 : Hid (RgI w5 n5 us d (i + 1) v4 (ys ++ [.slice Ak nk ck]) w4) := Lib.hid (HI.out.step (by rw [HS.out.2.2.1]; exact hlt) HK.out.1 HK.out.2 hown4 hg4); clear hown4 hg4 hat4)
      go_roundg g
      case rel => exact ⟨i + 1, _, by omega, by go_num, Lib.hid HZ4.out⟩
      case measure => omega
    · obtain rfl : n5 = i := by omega
      rename World => w7
      obtain ⟨A7, c7, rfl, hss⟩ := HI.out.done HS.out.2.2.1 (by omega)
      obtain ⟨ss, hsd⟩ : ∃ ss, ss = d.map (wordAt us) := ⟨_, rfl⟩
      rw [← hsd] at hss
      obtain ⟨b7, o7, hA7⟩ := ws_or hss
      obtain ⟨rfl, hwa7⟩ : A7 = some ⟨b7, o7, none⟩ ∧ WsAt w7 b7 o7 ss := by
        rcases hA7 with h | h
        · omega
        · exact h
      obtain ⟨Ax, nx, cx, hcx0, hwx⟩ := HWA.out k0 hk0n
      have hcx : w7.cell? ⟨b4, o4 + k0, none⟩ = some (.slice Ax nx cx) := (HI.out.2.2.2.cell (p := ⟨b4, o4 + k0, none⟩) (World.block_lt_of_cell? w5 _ hcx0)).trans hcx0
      obtain ⟨X, hX⟩ : ∃ X, X = us.getD k0 [] := ⟨_, rfl⟩
      rw [← hX] at hwx
      have HX : Hid (AlR w7 L (some ⟨b, o, none⟩) q cq ∧ WdR w7 X Ax nx cx) := Lib.hid ⟨H5.out.2.2.below HI.out.2.2.2, hwx.below HI.out.2.2.2⟩
      have HSS : Hid (WsR w7 ss (some ⟨b7, o7, none⟩) n5 c7 ∧ WsAt w7 b7 o7 ss ∧ SsD L ss ∧ X ∈ ss ∧ Below w.heap.size w w7 ∧ ss.length = n5) := Lib.hid ⟨hss, hwa7, by rw [hsd]; exact sorted_ss HS.out.2.1, by rw [hsd, hX]; exact mem_ss HS.out.1 hk0n, (below_next H5.out.2.1 HI.out.2.2.2), hss.len.symm⟩
      have hc7 : n5 ≤ c7 := hss.cap
      have hm7 : c7 ≤ 9223372036854775807 := by have := hss.max; unfold maxLen at this; omega
      have HCO : Hid (∀ (y : List Int) (A1 : Option Addr) (n1 c1 : Nat) (R : Int) (W : World), Below w7.heap.size w7 W → WdR W y A1 n1 c1 → WdR W X Ax nx cx → R = cmpU L y X 0 4 → Calls Try.prog 23 #[.slice (some ⟨b, o, none⟩) q cq, .slice A1 n1 c1, .slice Ax nx cx] W (IPost W R)) := Lib.hid fun y A1 n1 c1 R W hb h1 h2 hR => HCM.out _ _ _ _ _ _ _ _ _ _ _ R W (HX.out.1.below hb) h1 h2 hR
      have HSM : Hid (∀ (y : List Int) (A1 : Option Addr) (n1 c1 n : Nat) (V : Bool) (W : World), 1 ≤ n → n ≤ 4 → Below w7.heap.size w7 W → WdR W y A1 n1 c1 → WdR W X Ax nx cx → V = decide (cmpU L y X 0 n = 0) → Calls Try.prog 25 #[.slice (some ⟨b, o, none⟩) q cq, .slice A1 n1 c1, .slice Ax nx cx, .int .i64 (n : Int)] W (BoolB W V)) := Lib.hid fun y A1 n1 c1 n V W h3 h4 hb h1 h2 hV => HSP.out _ _ _ _ _ _ _ _ _ _ _ n V W h3 h4 (HX.out.1.below hb) h1 h2 hV
      clear hsd hss hA7 hwa7 hwx hX hcx0 HI
      go_wp2_with ((with_reducible refine (HAR2.out _).mono ?_); rintro e wa ⟨rfl, rfl⟩)
      go_loopg [16, 17, 18, 19, 20, 21] 4 (fun g s16 s17 s18 s19 s20 s21 wr => ∃ (n : Nat), n + g = 5 ∧ 1 ≤ n ∧ s16 = .int .i64 (n : Int) ∧ Hid (Below w7.heap.size w7 wr))
      case atStart => exact ⟨1, by omega, by omega, rfl, Lib.hid (Below.refl _ _)⟩
      case round =>
        obtain ⟨n, hn, hn1, rfl, HN⟩ := hrel
        by_cases hn4 : n ≤ 4
        · obtain ⟨g, rfl⟩ : ∃ g, gk = g + 1 := ⟨gk - 1, by omega⟩
          have e1 : decide ((n : Int) ≤ 4) = true := decide_eq_true (by omega)
          have e2 : decide (n ≤ 4) = true := decide_eq_true hn4
          obtain ⟨F, hF⟩ : ∃ F, F = lessN L ss X n := ⟨_, rfl⟩
          obtain ⟨T, hT⟩ : ∃ T, T = lessN L ss X n + sameN L ss X n := ⟨_, rfl⟩
          have hFT : F < T := by rw [hF, hT]; have := same_pos (L := L) (n := n) HSS.out.2.2.2.1; omega
          have hTn : T ≤ ss.length := by rw [hT]; exact same_len
          have hTi : T ≤ n5 := by rw [HSS.out.2.2.2.2.2] at hTn; exact hTn
          have HFD : Hid (∀ W, Below w7.heap.size w7 W → Calls Try.prog 30 #[.slice (some ⟨b, o, none⟩) q cq, .slice (some ⟨b7, o7, none⟩) n5 c7, .slice Ax nx cx, .int .i64 (n : Int)] W (FPost W (F, T))) := Lib.hid fun W hb => HFN.out _ _ _ _ _ _ _ _ _ _ _ n F T W hn1 hn4 (HX.out.1.below hb) (HSS.out.1.below hb) (HX.out.2.below hb) hF hT
          have HLT : Hid (∀ i, i < n5 → (i < F ↔ cmpU L (ss.getD i []) X 0 n < 0) ∧ (i < T ↔ cmpU L (ss.getD i []) X 0 n ≤ 0)) := Lib.hid fun i hi => ⟨by rw [hF]; exact less_iff HSS.out.2.2.1 hn4 (by rw [HSS.out.2.2.2.2.2]; exact hi), by rw [hT]; exact le_iff HSS.out.2.2.1 hn4 (by rw [HSS.out.2.2.2.2.2]; exact hi)⟩
          have f1 : decide ((F : Int) < 0) = false := decide_eq_false (by omega)
          have f2 : decide ((T : Int) ≤ (F : Int)) = false := decide_eq_false (by omega)
          have f3 : decide ((n5 : Int) < (T : Int)) = false := decide_eq_false (by omega)
          have f2n : decide (T ≤ F) = false := decide_eq_false (by omega)
          have f3n : decide (n5 < T) = false := decide_eq_false (by omega)
          clear hF hT hTn
          go_wp2_with ((with_reducible refine (HFD.out _ HN.out).mono ?_); rintro e w8 hp; obtain ⟨rfl, hb⟩ := f_out hp; have H8 : Hid (Below w7.heap.size w7 w8) := Lib.hid (below_next HN.out hb); clear hp hb)
          go_loopg [19, 20, 21] n5 (fun g s19 s20 s21 wr => ∃ (i : Nat), i + g = n5 ∧ s19 = .int .i64 (i : Int) ∧ Hid (Below w7.heap.size w7 wr))
          case atStart => exact ⟨0, by omega, rfl, Lib.hid H8.out⟩
          case round =>
            obtain ⟨i, hi, rfl, HI⟩ := hrel
            by_cases hlt : i < n5
            · obtain ⟨g, rfl⟩ : ∃ g, gk = g + 1 := ⟨gk - 1, by omega⟩
              obtain ⟨Ai, ni, ci, hci, hwi⟩ := (HSS.out.2.1.below HI.out) i (by rw [HSS.out.2.2.2.2.2]; exact hlt)
              obtain ⟨t1, t2⟩ := HLT.out i hlt
              obtain ⟨R, hRR⟩ : ∃ R, R = cmpU L (ss.getD i []) X 0 n := ⟨_, rfl⟩
              have hrng := (cmpU_cmp L n 0).rng (ss.getD i []) X
              rcases (by omega : i < F ∨ (F ≤ i ∧ i < T) ∨ T ≤ i) with hc | ⟨hc1, hc2⟩ | hc
              · have g1 : decide ((F : Int) ≤ (i : Int)) = false := decide_eq_false (by omega)
                have g2 : decide ((i : Int) < (F : Int)) = true := decide_eq_true (by omega)
                have g3 : decide ((T : Int) ≤ (i : Int)) = false := decide_eq_false (by omega)
                have hneg := t1.1 hc
                have hRv : cmpU L (ss.getD i []) X 0 4 = -1 := by rw [cmp_up4 L _ _ hn4 (by omega)]; rcases hrng with h | h | h <;> omega
                have hVv : false = decide (cmpU L (ss.getD i []) X 0 n = 0) := (decide_eq_false (by omega)).symm
                clear t1 t2 hneg hrng hRR
                have HR : Hid (Calls Try.prog 23 #[.slice (some ⟨b, o, none⟩) q cq, .slice Ai ni ci, .slice Ax nx cx] wr (IPost wr (-1))) := Lib.hid (HCO.out _ _ _ _ (-1) wr HI.out hwi (HX.out.2.below HI.out) hRv.symm)
                have HQ : Hid (∀ W, Below wr.heap.size wr W → Calls Try.prog 25 #[.slice (some ⟨b, o, none⟩) q cq, .slice Ai ni ci, .slice Ax nx cx, .int .i64 (n : Int)] W (BoolB W false)) := Lib.hid fun W hb => HSM.out _ _ _ _ n false W hn1 hn4 (below_next HI.out hb) (hwi.below hb) ((HX.out.2.below HI.out).below hb) hVv
                have hcs7 : ∀ W, Below wr.heap.size wr W → W.cell? ⟨b7, o7 + i, none⟩ = some (.slice Ai ni ci) := fun W hb => (hb.cell (p := ⟨b7, o7 + i, none⟩) (World.block_lt_of_cell? wr _ hci)).trans hci
                have HC7 := Lib.hid hcs7
                clear hcs7 hRv hVv hwi
                go_wp2_with (first
                  | ((with_reducible refine HR.out.mono ?_); rintro e wc hp; obtain ⟨rfl, hb⟩ := i_out hp; have Hc : Hid (Below wr.heap.size wr wc) := Lib.hid hb; have hcic := HC7.out wc hb; clear hp hb)
                  | ((with_reducible refine (HQ.out _ Hc.out).mono ?_); rintro e we hp; obtain ⟨rfl, hb⟩ := boolb_out hp; have He : Hid (Below w7.heap.size w7 we) := Lib.hid (below_next HI.out (below_next Hc.out hb)); clear hp hb))
                go_roundg g
                case rel => exact ⟨i + 1, by omega, by go_num, Lib.hid He.out⟩
                case measure => omega
              · have g1 : decide ((F : Int) ≤ (i : Int)) = true := decide_eq_true (by omega)
                have g2 : decide ((i : Int) < (F : Int)) = false := decide_eq_false (by omega)
                have g3 : decide ((T : Int) ≤ (i : Int)) = false := decide_eq_false (by omega)
                have g4 : decide ((i : Int) < (T : Int)) = true := decide_eq_true (by omega)
                have hle := t2.1 hc2
                have hVv : true = decide (cmpU L (ss.getD i []) X 0 n = 0) := (decide_eq_true (by have := mt t1.2 (by omega); omega)).symm
                clear hRR R
                obtain ⟨R, hRv⟩ : ∃ R, R = cmpU L (ss.getD i []) X 0 4 := ⟨_, rfl⟩
                clear t1 t2 hle hrng
                have HR : Hid (Calls Try.prog 23 #[.slice (some ⟨b, o, none⟩) q cq, .slice Ai ni ci, .slice Ax nx cx] wr (IPost wr R)) := Lib.hid (HCO.out _ _ _ _ R wr HI.out hwi (HX.out.2.below HI.out) hRv)
                have HQ : Hid (∀ W, Below wr.heap.size wr W → Calls Try.prog 25 #[.slice (some ⟨b, o, none⟩) q cq, .slice Ai ni ci, .slice Ax nx cx, .int .i64 (n : Int)] W (BoolB W true)) := Lib.hid fun W hb => HSM.out _ _ _ _ n true W hn1 hn4 (below_next HI.out hb) (hwi.below hb) ((HX.out.2.below HI.out).below hb) hVv
                have hcs7 : ∀ W, Below wr.heap.size wr W → W.cell? ⟨b7, o7 + i, none⟩ = some (.slice Ai ni ci) := fun W hb => (hb.cell (p := ⟨b7, o7 + i, none⟩) (World.block_lt_of_cell? wr _ hci)).trans hci
                have HC7 := Lib.hid hcs7
                clear hcs7 hRv hVv hwi
                go_wp2_with (first
                  | ((with_reducible refine HR.out.mono ?_); rintro e wc hp; obtain ⟨rfl, hb⟩ := i_out hp; have Hc : Hid (Below wr.heap.size wr wc) := Lib.hid hb; have hcic := HC7.out wc hb; clear hp hb)
                  | ((with_reducible refine (HQ.out _ Hc.out).mono ?_); rintro e we hp; obtain ⟨rfl, hb⟩ := boolb_out hp; have He : Hid (Below w7.heap.size w7 we) := Lib.hid (below_next HI.out (below_next Hc.out hb)); clear hp hb))
                go_roundg g
                case rel => exact ⟨i + 1, by omega, by go_num, Lib.hid He.out⟩
                case measure => omega
              · have g1 : decide ((F : Int) ≤ (i : Int)) = true := decide_eq_true (by omega)
                have g2 : decide ((i : Int) < (F : Int)) = false := decide_eq_false (by omega)
                have g3 : decide ((T : Int) ≤ (i : Int)) = true := decide_eq_true (by omega)
                have g4 : decide ((i : Int) < (T : Int)) = false := decide_eq_false (by omega)
                have hpos := mt t2.2 (by omega : ¬ i < T)
                have hRv : cmpU L (ss.getD i []) X 0 4 = 1 := by rw [cmp_up4 L _ _ hn4 (by omega)]; rcases hrng with h | h | h <;> omega
                have hVv : false = decide (cmpU L (ss.getD i []) X 0 n = 0) := (decide_eq_false (by omega)).symm
                clear t1 t2 hpos hrng hRR
                have HR : Hid (Calls Try.prog 23 #[.slice (some ⟨b, o, none⟩) q cq, .slice Ai ni ci, .slice Ax nx cx] wr (IPost wr 1)) := Lib.hid (HCO.out _ _ _ _ 1 wr HI.out hwi (HX.out.2.below HI.out) hRv.symm)
                have HQ : Hid (∀ W, Below wr.heap.size wr W → Calls Try.prog 25 #[.slice (some ⟨b, o, none⟩) q cq, .slice Ai ni ci, .slice Ax nx cx, .int .i64 (n : Int)] W (BoolB W false)) := Lib.hid fun W hb => HSM.out _ _ _ _ n false W hn1 hn4 (below_next HI.out hb) (hwi.below hb) ((HX.out.2.below HI.out).below hb) hVv
                have hcs7 : ∀ W, Below wr.heap.size wr W → W.cell? ⟨b7, o7 + i, none⟩ = some (.slice Ai ni ci) := fun W hb => (hb.cell (p := ⟨b7, o7 + i, none⟩) (World.block_lt_of_cell? wr _ hci)).trans hci
                have HC7 := Lib.hid hcs7
                clear hcs7 hRv hVv hwi
                go_wp2_with (first
                  | ((with_reducible refine HR.out.mono ?_); rintro e wc hp; obtain ⟨rfl, hb⟩ := i_out hp; have Hc : Hid (Below wr.heap.size wr wc) := Lib.hid hb; have hcic := HC7.out wc hb; clear hp hb)
                  | ((with_reducible refine (HQ.out _ Hc.out).mono ?_); rintro e we hp; obtain ⟨rfl, hb⟩ := boolb_out hp; have He : Hid (Below w7.heap.size w7 we) := Lib.hid (below_next HI.out (below_next Hc.out hb)); clear hp hb))
                go_roundg g
                case rel => exact ⟨i + 1, by omega, by go_num, Lib.hid He.out⟩
                case measure => omega
            · obtain rfl : i = n5 := by omega
              go_wp2_with fail
              go_roundg g
              case rel => exact ⟨n + 1, by omega, by omega, by go_num, Lib.hid HI.out⟩
              case measure => omega
        · have e1 : decide ((n : Int) ≤ 4) = false := decide_eq_false (by omega)
          have e2 : decide (n ≤ 4) = false := decide_eq_false hn4
          go_wp2_with ((with_reducible refine (HLI.out _).mono ?_); rintro e w6 hp; obtain ⟨rfl, hb⟩ := boolb_out hp; have H6 : Hid (Below w.heap.size w w6) := Lib.hid (below_next HSS.out.2.2.2.2.1 (below_next HN.out hb)); clear hp hb)
          go_ret
          exact ⟨rfl, H6.out⟩

set_option maxRecDepth 100000 in
theorem contract (H : Type) (enc : TypeId × Value → H) (W : World) (base : Nat) (args : Array Value) (ds gs : List (DataW H)) (before : List MemPlace)
    (hval : ∀ (j : Nat) t v, Try.f9.params[j]? = some t → args[j]? = some v → Value.okWide Try.prog W .any base t v)
    (hW : DataW.Whole enc Try.prog Try.f9.params.toList Rows.collateRangesSpec.vars false W args.toList ds gs before) :
    Calls Try.prog 9 args W fun e W' => ∃ v, e = .returned v ∧ Rows.collateRangesSpec.post enc Try.prog Try.f9 false true false false W args v W' := by
  have hW' := hW
  obtain ⟨p, q, hA0, hV, rfl, hfz, hnd⟩ := hW
  have hA : DataW.TrodAll enc Try.prog W 0 (fun _ => true) true Try.f9.params.toList args.toList ds p := hA0
  rw [Try.params9] at hA hval
  obtain ⟨rfl, rfl⟩ := trodVars_none hV
  obtain ⟨v0, w0, d0, e0, p0, q0, hargs, rfl, rfl, h0, r0⟩ := trodAll_cons hA
  obtain ⟨v1, w1, d1, e1, p1, q1, rfl, rfl, rfl, h1, r1⟩ := trodAll_cons r0
  obtain ⟨v2, w2, d2, e2, p2, q2, rfl, rfl, rfl, h2, r2⟩ := trodAll_cons r1
  obtain ⟨v3, w3, d3, e3, p3, q3, rfl, rfl, rfl, h3, r3⟩ := trodAll_cons r2
  obtain ⟨rfl, rfl, rfl⟩ := trodAll_nil r3
  obtain rfl : args = #[v0, v1, v2, v3] := by cases args; simp_all
  clear hargs
  obtain ⟨Al, l, cl, rfl, lr, li, ln, lm⟩ := open_ivs (hval 0 22 v0 rfl rfl) h0
  obtain ⟨Am, m, cm, rfl, mr, mi, mn, mm⟩ := open_ivs (hval 1 22 v1 rfl rfl) h1
  obtain ⟨many, rfl, rfl, rfl, manyw⟩ := open_int Try.underlying3 (hval 2 3 v2 rfl rfl) h2
  obtain ⟨pos, rfl, rfl, rfl, posw⟩ := open_int Try.underlying3 (hval 3 3 v3 rfl rfl) h3
  refine (walk l Al cl li ln lm m Am cm mi mn mm many (inI_wf manyw) pos (inI_wf posw) W lr mr).mono fun e W' ⟨he, hb⟩ => ⟨_, he, ?_⟩
  exact law_post rfl rfl (by kernel_rfl) hW' rfl hb

set_option maxRecDepth 100000 in
theorem lifted (os : Os) (started : os.Started) (H : Type) (enc : TypeId × Value → H) :
    ReturnsInHanded {} Try.checked os 9 .any (Rows.collateRangesSpec.pre6 enc Try.prog Try.f9 Rows.collateRangesRow.domain false) (Rows.collateRangesSpec.post enc Try.prog Try.f9 false true false false) := by
  refine returnsInHanded_of_change_sized (C := Try.checked) Try.own started (by kernel_rfl) Try.func9
    (ChangeSpec.witness6 (enc := enc) (C := Try.checked) false ⟨#[], #[.slice none 0 0, .slice none 0 0, .int .i64 0, .int .i64 0], []⟩ 8 (by kernel_rfl) (by kernel_rfl) (by kernel_rfl) (by kernel_rfl)) ?_
  intro W base args ds gs before hval hW _ hsz _
  exact contract H enc W base args ds gs before hval hW

theorem proved : Rows.CollateRangesSaid :=
  OpenClaim.holds_of_wide 9 Try.f9 rfl rfl rfl rfl rfl rfl rfl ⟨rfl, rfl, rfl, rfl, rfl⟩ rfl rfl rfl rfl rfl (by kernel_rfl) Try.func9 (by kernel_rfl)
    (of_decide_eq_true (by kernel_rfl)) (by unfold Func.isWrapper; first | (rw [if_pos (by decide +kernel)]; kernel_rfl) | (rw [if_neg (by decide +kernel)]; exact ⟨rfl, rfl⟩))
    (fun os started H enc _ => lifted os started H enc)

end KL7
end Go.Proofs.Ytalladdmedmfeaa
