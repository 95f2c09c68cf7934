/-
  Letters in memory; the reference's Around and At; the map of the texts: numbersByText.
-/
import Derived.Test.YtalladdmedmfeaaABytes
import Derived.Maps.OwnSet
namespace Go.Proofs.Ytalladdmedmfeaa
open Go.RowKit
open Alp
set_option linter.unusedVariables false
set_option linter.unusedSimpArgs false

/-- The cells of a letter, and of an alphabet. -/
def lc (l : Lt) : List Value := [.string (tb l.text), .int .i64 l.base, .int .i64 l.mark, .int .i64 l.cas, .int .i64 l.width]
def lv (L : List Lt) : List Value := L.flatMap lc
theorem lc_length (l : Lt) : (lc l).length = 5 := rfl
theorem lc_one (l : Lt) : ∀ u ∈ lc l, u.oneCell' = true := by unfold lc; simp [Value.oneCell']
theorem lv_length (L : List Lt) : (lv L).length = 5 * L.length := by
  induction L with
  | nil => rfl
  | cons a L ih => have : lv (a :: L) = lc a ++ lv L := by simp [lv]
                   rw [this, List.length_append, ih, lc_length, List.length_cons]; omega
theorem lv_snoc (L : List Lt) (l : Lt) : lv (L ++ [l]) = lv L ++ lc l := by simp [lv]
theorem lv_ne {L : List Lt} (h : L ≠ []) : lv L ≠ [] := by
  intro e
  have := congrArg List.length e
  rw [lv_length, List.length_nil] at this
  exact h (List.eq_nil_of_length_eq_zero (by omega))
theorem lv_one (L : List Lt) : ∀ u ∈ lv L, u.oneCell' = true := by
  intro u hu
  obtain ⟨l, _, h⟩ := List.mem_flatMap.1 hu
  exact lc_one l u h
theorem lv_get (L : List Lt) (k : Nat) (h : k < L.length) (j : Nat) (hj : j < 5) : (lv L)[k * 5 + j]? = (lc (L.getD k z))[j]? := by
  induction L generalizing k with
  | nil => simp at h
  | cons a L ih =>
    have e : lv (a :: L) = lc a ++ lv L := by simp [lv]
    rw [e]
    cases k with
    | zero => rw [Nat.zero_mul, Nat.zero_add, List.getElem?_append_left (by rw [lc_length]; exact hj)]; simp
    | succ k =>
      rw [List.getElem?_append_right (by rw [lc_length]; omega), lc_length, show (k + 1) * 5 + j - 5 = k * 5 + j by omega, ih k (by simpa using h)]
      simp
/-- From b, o on the letters of L lie. -/
def RL (w : World) (b o : Nat) (L : List Lt) : Prop := ∀ k, k < L.length → ∀ j v, (lc (L.getD k z))[j]? = some v → w.cell? ⟨b, o + k * 5 + j, none⟩ = some v
theorem rl_open {w : World} {A : Option Addr} {L : List Lt} (h : Rd w A (lv L)) (hn : L ≠ []) : ∃ b o, A = some ⟨b, o, none⟩ ∧ RL w b o L := by
  obtain ⟨b, o, hA, hc⟩ := h.open (lv_ne hn)
  refine ⟨b, o, hA, fun k hk j v hv => ?_⟩
  have hj : j < 5 := by have := (List.getElem?_eq_some_iff.1 hv).1; rwa [lc_length] at this
  rw [Nat.add_assoc]
  exact hc (k * 5 + j) v (by rw [lv_get L k hk j hj]; exact hv)
theorem RL.lt {w : World} {b o : Nat} {L : List Lt} (h : RL w b o L) (hn : 0 < L.length) : b < w.heap.size := World.block_lt_of_cell? w _ (h 0 hn 0 _ rfl)
theorem RL.below {w w' : World} {b o : Nat} {L : List Lt} (h : RL w b o L) (hb : Below w.heap.size w w') : RL w' b o L := fun k hk j v hv => by
  have h1 := h k hk j v hv
  exact (hb.cell (p := ⟨b, o + k * 5 + j, none⟩) (World.block_lt_of_cell? w _ h1)).trans h1
theorem RL.c0 {w : World} {b o : Nat} {L : List Lt} (h : RL w b o L) {k : Nat} (hk : k < L.length) {l : Lt} (hl : l = L.getD k z) : w.cell? ⟨b, o + k * 5, none⟩ = some (.string (tb l.text)) := by subst hl; exact h k hk 0 _ rfl
theorem RL.c1 {w : World} {b o : Nat} {L : List Lt} (h : RL w b o L) {k : Nat} (hk : k < L.length) {l : Lt} (hl : l = L.getD k z) : w.cell? ⟨b, o + k * 5 + 1, none⟩ = some (.int .i64 l.base) := by subst hl; exact h k hk 1 _ rfl
theorem RL.c2 {w : World} {b o : Nat} {L : List Lt} (h : RL w b o L) {k : Nat} (hk : k < L.length) {l : Lt} (hl : l = L.getD k z) : w.cell? ⟨b, o + k * 5 + 2, none⟩ = some (.int .i64 l.mark) := by subst hl; exact h k hk 2 _ rfl
theorem RL.c3 {w : World} {b o : Nat} {L : List Lt} (h : RL w b o L) {k : Nat} (hk : k < L.length) {l : Lt} (hl : l = L.getD k z) : w.cell? ⟨b, o + k * 5 + 3, none⟩ = some (.int .i64 l.cas) := by subst hl; exact h k hk 3 _ rfl
theorem RL.c4 {w : World} {b o : Nat} {L : List Lt} (h : RL w b o L) {k : Nat} (hk : k < L.length) {l : Lt} (hl : l = L.getD k z) : w.cell? ⟨b, o + k * 5 + 4, none⟩ = some (.int .i64 l.width) := by subst hl; exact h k hk 4 _ rfl
theorem RL.range {w : World} {b o : Nat} {L : List Lt} (h : RL w b o L) {k : Nat} (hk : k < L.length) {l : Lt} (hl : l = L.getD k z) : w.rangeAt b (o + k * 5) (lc l) := by subst hl; exact fun j v hv => h k hk j v hv
theorem Try.sizeLt : (Try.prog.info? 54).map (·.size) = some 5 := by kernel_rfl
theorem Try.infoLt : (Try.prog.info? 54).map (fun i => (i.zero, i.size, i.bytes)) = some (some (.agg #[.string ⟨#[]⟩, .int .i64 0, .int .i64 0, .int .i64 0, .int .i64 0]), 5, 48) := by kernel_rfl
/-- The load of a letter. -/
theorem wpList_load_lt {w : World} {ops : Array Oper} {rest : List Oper} {o : Oper} {a : Act} {Q : Exit → Act → World → Prop} (hgd : o.guard = none) (x : Operand) (ho : o.op = .load 54 x)
    (g q : Nat) (hx : a.eval x = .pointer (some ⟨g, q, none⟩)) (l : Lt) (hc : w.rangeAt g q (lc l))
    (h : wpList Try.prog ops Q rest (a.put o.dst (.agg #[.string (tb l.text), .int .i64 l.base, .int .i64 l.mark, .int .i64 l.cas, .int .i64 l.width])) w) : wpList Try.prog ops Q (o :: rest) a w :=
  wpList_load_mid hgd 54 x ho g q hx (lc l) _ hc Try.underlying54 rfl Try.sizeLt h

/-! ## the map of the texts -/
theorem law9 : Go.Maps.Keyed Try.prog 9 := Go.Maps.string_keyed Try.underlying9
theorem zeroInt (w : World) : (zeroValue 3).run Try.prog w = .ok (.int .i64 0) w := by kernel_rfl
def key (t : B) : Lit := .string t
theorem key_mk {t : B} (h : t.length ≤ maxLen) : keyOf Try.prog 9 (.string (tb t)) = some (key t) := Go.WideMaps.keyOf_string_mk Try.underlying9 (by rw [tb_size]; exact h)
theorem key_is (t : B) : WideAt.IsKeyLit (key t) := trivial
theorem key_ne {s t : B} (h : s ≠ t) : key s ≠ key t := fun e => h (by unfold key at e; simpa using e)
/-- Block m holds the map that leads from each text of L to its first number. -/
def MapIs (w : World) (m : Nat) (L : List Lt) : Prop := ∃ (D : DataW Unit) (n : Nat), w.ownsMap Try.prog 9 (plainElem Try.prog 3) m n D ∧ n ≤ L.length ∧ (∀ t, Go.Maps.has D (key t) = (idx L t).isSome) ∧
  (∀ t i, idx L t = some i → ∀ zd, D.atKey (key t) zd = .lit (.int .i64 (i : Int))) ∧ Go.Maps.size D ≤ L.length ∧ (Go.Maps.size D = L.length ↔ (texts L).Nodup)
theorem MapIs.made (w : World) : MapIs (w.alloc (.map #[] 0)) w.heap.size [] :=
  ⟨_, 0, World.ownsMap_made w _ _ _, Nat.le_refl _, fun t => rfl, fun t i h => by simp [idx] at h, Nat.le_refl _, by simp [texts, Go.Maps.size]⟩
theorem MapIs.below {w w' : World} {m : Nat} {L : List Lt} (h : MapIs w m L) (hb : Below w.heap.size w w') : MapIs w' m L := by
  obtain ⟨D, n, h1, h2⟩ := h
  exact ⟨D, n, h1.kept (row := none) ⟨hb.os, hb.tape, hb.output, hb.size, fun k hk _ => hb.block k hk⟩ (by simp), h2⟩
theorem MapIs.lt {w : World} {m : Nat} {L : List Lt} (h : MapIs w m L) : m < w.heap.size := by
  obtain ⟨D, n, h1, _⟩ := h
  exact h1.lt
theorem MapIs.skip {w : World} {m : Nat} {L : List Lt} {l : Lt} (h : MapIs w m L) (hi : (idx L l.text).isSome = true) : MapIs w m (L ++ [l]) := by
  obtain ⟨i, hi⟩ := Option.isSome_iff_exists.1 hi
  obtain ⟨D, n, h1, h2, h3, h4, h5, h6⟩ := h
  have e : ∀ t, idx (L ++ [l]) t = idx L t := fun t => by
    rw [idx_snoc]
    cases ht : idx L t with
    | some k => rfl
    | none =>
      by_cases hl : l.text = t
      · subst hl; rw [hi] at ht; cases ht
      · simp [hl]
  refine ⟨D, n, h1, by simp; omega, fun t => by rw [e]; exact h3 t, fun t k hk => h4 t k (by rw [← e]; exact hk), by simp; omega, ?_⟩
  rw [nodup_snoc, hi]
  simp
  omega
theorem MapIs.put {w w' : World} {m : Nat} {L : List Lt} {l : Lt} {D : DataW Unit} {n : Nat} (h1 : w.ownsMap Try.prog 9 (plainElem Try.prog 3) m n D) (h2 : n ≤ L.length) (h3 : ∀ t, Go.Maps.has D (key t) = (idx L t).isSome)
    (h4 : ∀ t i, idx L t = some i → ∀ zd, D.atKey (key t) zd = .lit (.int .i64 (i : Int))) (h5 : Go.Maps.size D ≤ L.length) (h6 : Go.Maps.size D = L.length ↔ (texts L).Nodup) (hi : idx L l.text = none)
    (hw : w'.ownsMap Try.prog 9 (plainElem Try.prog 3) m (n + 1) (D.put (key l.text) (.lit (.int .i64 (L.length : Int))))) : MapIs w' m (L ++ [l]) := by
  have hT := h1.tidy law9
  refine ⟨_, n + 1, hw, by simp; omega, fun t => ?_, fun t i ht zd => ?_, ?_, ?_⟩
  · rw [idx_snoc]
    by_cases e : l.text = t
    · subst e
      rw [Go.Maps.has_put_same hT.isMap (key_is _), hi]
      simp
    · rw [Go.Maps.has_put_other (key_ne (Ne.symm e)), h3 t]
      cases idx L t <;> simp [e]
  · rw [idx_snoc] at ht
    by_cases e : l.text = t
    · subst e
      rw [hi] at ht
      simp at ht
      subst ht
      exact Go.Maps.atKey_put_same hT.isMap (key_is _) _ _
    · rw [Go.Maps.atKey_put_other (key_ne (Ne.symm e))]
      cases hx : idx L t with
      | none => rw [hx] at ht; simp [e] at ht
      | some k => rw [hx] at ht; exact h4 t i (hx.trans ht) zd
  · rw [Go.Maps.size_put hT, h3, hi]
    simp
    omega
  · rw [Go.Maps.size_put hT, h3, hi, nodup_snoc, ← h6]
    simp [hi]
/-- The look-up of a text. -/
theorem wpList_look {w : World} {ops : Array Oper} {rest : List Oper} {o : Oper} {a : Act} {Q : Exit → Act → World → Prop} (hgd : o.guard = none) (m x : Operand) (hop : o.op = Op.lookup 72 m x true)
    (mb : Nat) (hm : a.eval m = .map (some mb)) {L : List Lt} (hM : MapIs w mb L) (t : B) (ht : t.length ≤ maxLen) (hx : a.eval x = .string (tb t)) (v : Int) (b : Bool) (hv : v = (((idx L t).getD 0 : Nat) : Int)) (hb : b = (idx L t).isSome)
    (h : wpList Try.prog ops Q rest (a.put o.dst (.tuple #[.int .i64 v, .bool b])) w) : wpList Try.prog ops Q (o :: rest) a w := by
  obtain ⟨D, n, h1, h2, h3, h4, _, _⟩ := hM
  refine wpList_lookup_own_ok_int w hgd m x 72 hop 9 3 .i64 law9 Try.underlying72 Try.underlying3 (zeroInt w) mb n D hm h1 _ (key t) hx (key_mk ht) ?_
  intro c hat _
  have hc : c = v := by
    cases hi : idx L t with
    | none =>
      have hh : Go.Maps.has D (key t) = false := by rw [h3, hi]; rfl
      rw [Go.Maps.atKey_of_not_has hh] at hat
      rw [hi] at hv
      simp at hat hv
      rw [hv, ← hat]
    | some i =>
      rw [h4 t i hi] at hat
      rw [hi] at hv
      simp at hat hv
      rw [hv, ← hat]
  rw [hc, h3, ← hb]
  exact h
/-- A text that the map lacks is put into it. -/
theorem wpList_put {w : World} {ops : Array Oper} {rest : List Oper} {o : Oper} {a : Act} {Q : Exit → Act → World → Prop} (hgd : o.guard = none) (m x v : Operand) (hop : o.op = Op.mapUpdate 72 m x v)
    (mb : Nat) (hm : a.eval m = .map (some mb)) {L : List Lt} (hM : MapIs w mb L) (l : Lt) (ht : l.text.length ≤ maxLen) (hx : a.eval x = .string (tb l.text)) (hi : idx L l.text = none) (k : Nat) (hlk : L.length = k) (hl : k < maxLen) (hv : a.eval v = .int .i64 (k : Int))
    (h : ∀ w', MapIs w' mb (L ++ [l]) → w.grownBy w' (some mb) → wpList Try.prog ops Q rest (a.put o.dst undef) w') : wpList Try.prog ops Q (o :: rest) a w := by
  subst hlk
  obtain ⟨D, n, h1, h2, h3, h4, h5, h6⟩ := hM
  refine wpList_mapUpdate_own w hgd m x v 72 hop 9 3 law9 Try.underlying72 _ mb n D hm h1 (by omega) _ _ (key l.text) hx hv (key_mk ht) _ [] (plainElem_int Try.underlying3 (WalkArith.wf_i64 (by unfold maxLen at hl; omega))) ?_
  intro w' hw hg
  exact h w' (MapIs.put h1 h2 h3 h4 h5 h6 hi hw) hg
theorem run_makeMap_hint {P : Program} {t k e : TypeId} (ht : P.underlying t = some (.map k e)) (q : IntKind) (n : Int) (w : World) : (Instr.makeMap t (some (.int q n))).run P w = .ok (.map (some w.heap.size)) (w.alloc (.map #[] 0)) := by
  simp [Instr.makeMap, run_underlying ht, asInt, asIntOf, Result.andThen]
def MapPost (w : World) (L : List Lt) (e : Ending) (w' : World) : Prop := ∃ m, e = .returned (.map (some m)) ∧ w.heap.size ≤ m ∧ MapIs w' m L ∧ Below w.heap.size w w'
theorem map_out {w w' : World} {L : List Lt} {e : Ending} (h : MapPost w L e w') : ∃ m, e = .returned (.map (some m)) ∧ w.heap.size ≤ m ∧ MapIs w' m L ∧ Below w.heap.size w w' := h
set_option maxRecDepth 100000 in
set_option maxHeartbeats 1000000 in
theorem numbers_aux (L : List Lt) (n : Nat) (hn : n = L.length) (b o c : Nat) (hc : n ≤ c) (hm : c ≤ maxLen) (hs : ∀ l ∈ L, l.text.length ≤ maxLen) (w : World) (hr : RL w b o L) :
    Calls Try.prog 67 #[.slice (some ⟨b, o, none⟩) n c] w (MapPost w L) := by
  have hm' : c ≤ 9223372036854775807 := by unfold maxLen at hm; omega
  have HN := Lib.hid hn
  have HR := Lib.hid hr
  have HS := Lib.hid hs
  have hmm := fun q n w => run_makeMap_hint Try.underlying72 q n w
  clear hn hr hs
  go_enter Try.func67, Try.ntmps67
  go_wp2_with fail
  go_loopg [13] n (fun g s13 wr => ∃ (k : Nat), k + g = n ∧ s13 = .int .i64 (k : Int) ∧ Hid (MapIs wr w.heap.size (L.take k) ∧ Below w.heap.size w wr))
  case atStart => exact ⟨0, by omega, rfl, Lib.hid ⟨by rw [List.take_zero]; exact MapIs.made w, below_a1 _ _⟩⟩
  case round =>
    obtain ⟨k, hk, rfl, HI⟩ := hrel
    by_cases hlt : k < n
    · obtain ⟨g, rfl⟩ : ∃ g, gk = g + 1 := ⟨gk - 1, by omega⟩
      obtain ⟨l, hl⟩ : ∃ l, l = L.getD k z := ⟨_, rfl⟩
      have hkl : k < L.length := by rw [← HN.out]; exact hlt
      have HT : Hid (L.take (k + 1) = L.take k ++ [l]) := Lib.hid (by rw [List.take_succ_eq_append_getElem hkl, hl, getD_get hkl])
      have HX : Hid (wr.rangeAt b (o + k * 5) (lc l)) := Lib.hid ((HR.out.below (w' := wr) HI.out.2).range hkl hl)
      have HLE := Lib.hid hl
      clear hl
      have HL : Hid (l.text.length ≤ maxLen) := Lib.hid (HS.out l (by rw [HLE.out]; exact getD_mem hkl))
      have hkm : (L.take k).length = k := by rw [List.length_take]; omega
      have HK := Lib.hid hkm
      have hkx : k < maxLen := by omega
      clear hkm
      cases hi : idx (L.take k) l.text with
      | some i =>
        have HI2 := Lib.hid hi
        clear hi
        go_wp2_with (first
          | (refine wpList_load_lt rfl (.tmp 16) rfl b (o + k * 5) rfl l HX.out ?_)
          | (refine wpList_look rfl (.tmp 19) (.tmp 21) rfl w.heap.size rfl (HI.out.1.below (below_a1 _ _)) l.text HL.out rfl (i : Int) true (by rw [HI2.out]; rfl) (by rw [HI2.out]; rfl) ?_))
        go_roundg g
        case rel => exact ⟨k + 1, by omega, by go_num, Lib.hid ⟨by rw [HT.out]; exact (HI.out.1.below (below_a1 _ _)).skip (by rw [HI2.out]; rfl), below_al HI.out.2 _⟩⟩
        case measure => omega
      | none =>
        have HI2 := Lib.hid hi
        clear hi
        go_wp2_with (first
          | (refine wpList_load_lt rfl (.tmp 16) rfl b (o + k * 5) rfl l HX.out ?_)
          | (refine wpList_look rfl (.tmp 19) (.tmp 21) rfl w.heap.size rfl (HI.out.1.below (below_a1 _ _)) l.text HL.out rfl 0 false (by rw [HI2.out]; rfl) (by rw [HI2.out]; rfl) ?_)
          | (refine wpList_put rfl (.tmp 27) (.tmp 29) (.tmp 30) rfl w.heap.size rfl (HI.out.1.below (below_a1 _ _)) l HL.out rfl HI2.out k HK.out hkx rfl ?_; intro w2 hm2 hg2; have HX2 : Hid (MapIs w2 w.heap.size (L.take (k + 1)) ∧ Below w.heap.size w w2) := Lib.hid ⟨by rw [HT.out]; exact hm2, (below_al HI.out.2 _).grown hg2 (below_al HI.out.2 _).size (fun g hg => Nat.le_of_eq (Option.some.inj hg))⟩; clear hm2 hg2))
        go_roundg g
        case rel => exact ⟨k + 1, by omega, by go_num, HX2⟩
        case measure => omega
    · obtain rfl : k = n := by omega
      have HE : Hid (MapPost w L (.returned (.map (some w.heap.size))) wr) := Lib.hid ⟨w.heap.size, rfl, Nat.le_refl _, by have := HI.out.1; rwa [HN.out, List.take_length] at this, HI.out.2⟩
      go_wp2_with fail
      go_ret
      exact HE.out
set_option maxRecDepth 100000 in
theorem numbers_nil (A : Option Addr) (c : Nat) (w : World) : Calls Try.prog 67 #[.slice A 0 c] w (MapPost w []) := by
  have hmm := fun q n w => run_makeMap_hint Try.underlying72 q n w
  go_enter Try.func67, Try.ntmps67
  go_wp2_with fail
  go_loopg [13] 0 (fun g s13 wr => s13 = .int .i64 0 ∧ wr = w.alloc (.map #[] 0))
  case atStart => exact ⟨rfl, rfl⟩
  case round =>
    obtain ⟨rfl, rfl⟩ := hrel
    have HE : Hid (MapPost w [] (.returned (.map (some w.heap.size))) (w.alloc (.map #[] 0))) := Lib.hid ⟨w.heap.size, rfl, Nat.le_refl _, MapIs.made w, below_a1 _ _⟩
    go_wp2_with fail
    go_ret
    exact HE.out
theorem numbers_any (L : List Lt) (A : Option Addr) (n c : Nat) (hn : n = L.length) (hc : n ≤ c) (hm : c ≤ maxLen) (hs : ∀ l ∈ L, l.text.length ≤ maxLen) (w : World) (hr : Rd w A (lv L)) :
    Calls Try.prog 67 #[.slice A n c] w (MapPost w L) := by
  by_cases h0 : L = []
  · subst h0
    obtain rfl : n = 0 := hn
    exact numbers_nil A c w
  · obtain ⟨b, o, rfl, h⟩ := rl_open hr h0
    exact numbers_aux L n hn b o c hc hm hs w h
end Go.Proofs.Ytalladdmedmfeaa
