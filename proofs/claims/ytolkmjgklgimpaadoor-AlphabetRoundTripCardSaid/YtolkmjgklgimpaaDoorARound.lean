/-
  The pure side of the round trip: what is printed is read back; what is read is what is printed of it.
-/
import Derived.Test.YtolkmjgklgimpaaDoorAPur2
import Derived.Lib.ItoaMem
namespace Go.Proofs.YtolkmjgklgimpaaDoor
set_option linter.unusedVariables false
set_option linter.unusedSimpArgs false
namespace Alp

/-! ## numbers -/
theorem dd_one {u : Nat} (h : u < 10) : Lib.decDigits u = [UInt8.ofNat (48 + u)] := by rw [Lib.decDigits, dif_pos h]
theorem dd_more {u : Nat} (h : ¬ u < 10) : Lib.decDigits u = Lib.decDigits (u / 10) ++ [UInt8.ofNat (48 + u % 10)] := by rw [Lib.decDigits, dif_neg h]
theorem dg_nat {k : Nat} (h : k < 10) : (UInt8.ofNat (48 + k)).toNat = 48 + k := by rw [UInt8.toNat_ofNat']; omega
theorem dg_isD {k : Nat} (h : k < 10) : isD (UInt8.ofNat (48 + k)) = true := by unfold isD; rw [dg_nat h]; simp; omega
theorem numV_one (c : UInt8) : numV [c] = (c.toNat : Int) - 48 := by simp [numV]
theorem dd_val (u : Nat) : (∀ c ∈ Lib.decDigits u, isD c = true) ∧ numV (Lib.decDigits u) = u ∧ 1 ≤ (Lib.decDigits u).length ∧ (1 ≤ u → (Lib.decDigits u).getD 0 0 ≠ 48) := by
  induction u using Nat.strongRecOn with
  | ind u ih =>
    by_cases h : u < 10
    · rw [dd_one h]
      refine ⟨fun c hc => by rw [List.mem_singleton.1 hc]; exact dg_isD h, by rw [numV_one, dg_nat h]; omega, by simp, fun h1 e => ?_⟩
      have e' : UInt8.ofNat (48 + u) = 48 := by simpa using e
      have := congrArg UInt8.toNat e'
      rw [dg_nat h] at this
      have h48 : (48 : UInt8).toNat = 48 := rfl
      omega
    · obtain ⟨h1, h2, h3, h4⟩ := ih (u / 10) (by omega)
      rw [dd_more h]
      refine ⟨fun c hc => ?_, by rw [numV_snoc, h2, dg_nat (by omega)]; omega, by simp, fun _ => ?_⟩
      · rcases List.mem_append.1 hc with hc | hc
        · exact h1 c hc
        · rw [List.mem_singleton.1 hc]; exact dg_isD (by omega)
      · have := h4 (by omega)
        simp only [List.getD, List.getElem?_append_left h3] at this ⊢
        exact this
theorem dd_len {u : Nat} (h : u ≤ 1000) : (Lib.decDigits u).length ≤ 4 ∧ (u < 10 → (Lib.decDigits u).length = 1) := by
  by_cases h1 : u < 10
  · rw [dd_one h1]; simp
  · refine ⟨?_, fun h => absurd h h1⟩
    rw [dd_more h1]
    by_cases h2 : u / 10 < 10
    · rw [dd_one h2]; simp
    · rw [dd_more h2]
      by_cases h3 : u / 10 / 10 < 10
      · rw [dd_one h3]; simp
      · rw [dd_more h3, dd_one (by omega)]; simp
theorem itoa_ok {n : Int} (h0 : 0 ≤ n) (h1 : n ≤ 1000) : numOK (Lib.itoa n) = true ∧ numV (Lib.itoa n) = n ∧ (Lib.itoa n).length ≤ 4 := by
  obtain ⟨u, rfl⟩ : ∃ u : Nat, n = u := ⟨n.toNat, by omega⟩
  rw [Lib.itoa_nonneg]
  obtain ⟨a, b, c, d⟩ := dd_val u
  obtain ⟨e, f⟩ := dd_len (u := u) (by omega)
  refine ⟨(numOK_iff _).2 ⟨c, by omega, ?_, a⟩, b, e⟩
  by_cases h : u < 10
  · exact .inr (f h)
  · exact .inl (d (by omega))
theorem lead_pos {u : B} (hd : ∀ c ∈ u, isD c = true) (hn : 1 ≤ u.length) (h : u.getD 0 0 ≠ 48) : 1 ≤ numV u := by
  induction hl : u.length generalizing u with
  | zero => omega
  | succ n ih =>
    obtain ⟨t, c, rfl⟩ : ∃ t c, u = t ++ [c] := ⟨u.dropLast, u.getLast (by intro e; subst e; simp at hl), (List.dropLast_concat_getLast _).symm⟩
    obtain ⟨h3, h4⟩ := isD_bd (hd c (by simp))
    rw [numV_snoc]
    by_cases ht : t = []
    · subst ht
      rw [numV_nil]
      have : c ≠ 48 := by simpa using h
      have : c.toNat ≠ 48 := fun e => this (UInt8.toNat_inj.1 (by rw [e]; rfl))
      omega
    · have h1 : 1 ≤ t.length := List.length_pos_iff.2 ht
      have := ih (u := t) (fun x hx => hd x (by simp [hx])) h1 (by simpa only [List.getD, List.getElem?_append_left h1] using h) (by simpa using hl)
      omega
theorem dd_canon {c : B} (hd : ∀ x ∈ c, isD x = true) (hn : 1 ≤ c.length) (h : c.getD 0 0 ≠ 48 ∨ c.length = 1) : Lib.decDigits (numV c).toNat = c := by
  induction hl : c.length generalizing c with
  | zero => omega
  | succ n ih =>
    obtain ⟨t, x, rfl⟩ : ∃ t x, c = t ++ [x] := ⟨c.dropLast, c.getLast (by intro e; subst e; simp at hl), (List.dropLast_concat_getLast _).symm⟩
    obtain ⟨h3, h4⟩ := isD_bd (hd x (by simp))
    have hx : ∀ k, k + 48 = x.toNat → UInt8.ofNat (48 + k) = x := fun k hk => UInt8.toNat_inj.1 (by rw [UInt8.toNat_ofNat']; omega)
    rw [numV_snoc]
    by_cases ht : t = []
    · subst ht
      rw [numV_nil, dd_one (by omega), hx _ (by omega)]
      rfl
    · have h1 : 1 ≤ t.length := List.length_pos_iff.2 ht
      have hd' : ∀ y ∈ t, isD y = true := fun y hy => hd y (by simp [hy])
      have hld : t.getD 0 0 ≠ 48 := by
        rcases h with h | h
        · simpa only [List.getD, List.getElem?_append_left h1] using h
        · rw [List.length_append, List.length_singleton] at h; omega
      have hp := lead_pos hd' h1 hld
      have hi := ih hd' h1 (.inl hld) (by simpa using hl)
      rw [dd_more (by omega), show ((10 * numV t + ((x.toNat : Int) - 48)).toNat / 10) = (numV t).toNat by omega, hi, hx _ (by omega)]
theorem itoa_num {c : B} (h : numOK c = true) : Lib.itoa (numV c) = c := by
  obtain ⟨h1, h2, h3, h4⟩ := (numOK_iff c).1 h
  have h0 := (numV_bd h4).1
  unfold Lib.itoa
  rw [if_neg (by omega)]
  exact dd_canon h4 h1 h3

/-! ## lines -/
def rowT (x : Lt × B) : B := x.1.text ++ 32 :: (x.2 ++ 32 :: (Lib.itoa x.1.mark ++ 32 :: (Lib.itoa x.1.cas ++ 32 :: Lib.itoa x.1.width)))
def rowsT (R : Rows) : B := R.flatMap fun x => rowT x ++ [10]
def rowOf (L : List Lt) (l : Lt) : Lt × B := (⟨l.text, 0, l.mark, l.cas, l.width⟩, (L.getD l.base.toNat z).text)
def printI (L : List Lt) : B := rowsT (L.map (rowOf L))
def joinC (c : UInt8) : List B → B
  | [] => []
  | [p] => p
  | p :: q :: r => p ++ c :: joinC c (q :: r)
theorem joinC_split (c : UInt8) (s : B) : joinC c (splitC c s) = s := by
  induction s with
  | nil => rfl
  | cons x t ih =>
    unfold splitC
    split
    · rename_i hx
      have hne := splitC_ne c t
      cases h : splitC c t with
      | nil => exact absurd h hne
      | cons p q =>
        rw [h] at ih
        rw [joinC, ih, hx]
        rfl
    · split
      · rename_i h
        exact absurd h (splitC_ne c t)
      · rename_i p q h
        rw [h] at ih
        cases q with
        | nil => rw [joinC] at ih ⊢; rw [ih]
        | cons q r => rw [joinC] at ih ⊢; rw [← ih]; rfl
theorem lineP_row {h : B} {x : Lt × B} (hl : lineP h = some x) : h = rowT x := by
  obtain ⟨a, b, c, d, e, hp, _, _, h3, h4, h5, rfl⟩ := lineOf_some hl
  have := joinC_split 32 h
  rw [hp] at this
  unfold rowT
  simp only [itoa_num h3, itoa_num h4, itoa_num h5]
  rw [← this]
  rfl
/-- What a row's parts are. -/
structure Fine (x : Lt × B) : Prop where
  t : x.1.text ≠ [] ∧ ∀ c ∈ x.1.text, c ≠ 32 ∧ c ≠ 10
  b : x.2 ≠ [] ∧ ∀ c ∈ x.2, c ≠ 32 ∧ c ≠ 10
  z : x.1.base = 0
  m : 0 ≤ x.1.mark ∧ x.1.mark ≤ 1000
  c : 0 ≤ x.1.cas ∧ x.1.cas ≤ 1000
  w : 0 ≤ x.1.width ∧ x.1.width ≤ 1000
theorem itoa_plain {n : Int} (h0 : 0 ≤ n) (h1 : n ≤ 1000) : ∀ c ∈ Lib.itoa n, c ≠ 32 ∧ c ≠ 10 := fun c hc => by
  have := isD_bd (((numOK_iff _).1 (itoa_ok h0 h1).1).2.2.2 c hc)
  exact ⟨fun e => by subst e; exact absurd this.1 (by decide), fun e => by subst e; exact absurd this.1 (by decide)⟩
theorem row_lineP {x : Lt × B} (h : Fine x) : lineP (rowT x) = some x := by
  unfold lineP rowT
  rw [splitC_at fun c hc => (h.t.2 c hc).1, splitC_at fun c hc => (h.b.2 c hc).1, splitC_at fun c hc => (itoa_plain h.m.1 h.m.2 c hc).1, splitC_at fun c hc => (itoa_plain h.c.1 h.c.2 c hc).1, splitC_none fun c hc => (itoa_plain h.w.1 h.w.2 c hc).1]
  unfold lineOf
  obtain ⟨⟨t, b0, m, c, w⟩, b⟩ := x
  have hz : b0 = 0 := h.z
  subst hz
  have hm := itoa_ok h.m.1 h.m.2
  have hc := itoa_ok h.c.1 h.c.2
  have hw := itoa_ok h.w.1 h.w.2
  simp only at hm hc hw
  simp only [hm.1, hc.1, hw.1, hm.2.1, hc.2.1, hw.2.1]
  rw [if_pos ⟨h.t.1, h.b.1, trivial, trivial, trivial⟩]
theorem row_no10 {x : Lt × B} (h : Fine x) : ∀ c ∈ rowT x, c ≠ 10 := fun c hc => by
  unfold rowT at hc
  simp only [List.mem_append, List.mem_cons] at hc
  rcases hc with hc | rfl | hc | rfl | hc | rfl | hc | rfl | hc
  · exact (h.t.2 c hc).2
  · decide
  · exact (h.b.2 c hc).2
  · decide
  · exact (itoa_plain h.m.1 h.m.2 c hc).2
  · decide
  · exact (itoa_plain h.c.1 h.c.2 c hc).2
  · decide
  · exact (itoa_plain h.w.1 h.w.2 c hc).2
theorem rest_rows {R : Rows} (h : ∀ x ∈ R, Fine x) (k : Nat) : restG (rowsT R) k = .inl R := by
  induction R generalizing k with
  | nil => exact restG_nil k
  | cons x R ih =>
    have e : rowsT (x :: R) = rowT x ++ 10 :: rowsT R := by simp [rowsT]
    rw [e, restG_line (row_no10 (h x (by simp))) (row_lineP (h x (by simp))), ih fun y hy => h y (by simp [hy])]
    rfl
theorem rows_rest : ∀ (n : Nat) (s : B) (R : Rows) (k : Nat), s.length ≤ n → restG s k = .inl R → s = rowsT R := by
  intro n
  induction n with
  | zero =>
    intro s R k hs h
    obtain rfl := List.eq_nil_of_length_eq_zero (Nat.le_zero.1 hs)
    rw [restG_nil] at h
    obtain rfl := Sum.inl.inj h
    rfl
  | succ n ih =>
    intro s R k hs h
    rcases cut_mem 10 s with hno | ⟨p, r, rfl, hh⟩
    · by_cases hse : s = []
      · subst hse
        rw [restG_nil] at h
        obtain rfl := Sum.inl.inj h
        rfl
      · rw [restG_no hno hse] at h
        cases h
    · cases hl : lineP p with
      | none => rw [restG_bad hh hl] at h; cases h
      | some x =>
        rw [restG_line hh hl] at h
        cases hr : restG r (k + 1) with
        | inr e => rw [hr] at h; cases h
        | inl Q =>
          rw [hr] at h
          obtain rfl : [x] ++ Q = R := Sum.inl.inj h
          have := ih r Q (k + 1) (by rw [List.length_append, List.length_cons] at hs; omega) hr
          have e : rowsT ([x] ++ Q) = rowT x ++ 10 :: rowsT Q := by simp [rowsT]
          rw [e, ← lineP_row hl, ← this]

/-! ## bases -/
theorem base_rows {L0 L : List Lt} (ht : texts L0 = texts L) (hn : (texts L).Nodup) : ∀ (M : List Lt) (k : Nat), (∀ l ∈ M, 0 ≤ l.base ∧ l.base < L.length) → baseG L0 (M.map (rowOf L)) k = .inl M := by
  intro M
  induction M with
  | nil => intro k _; rfl
  | cons l M ih =>
    intro k h
    obtain ⟨h0, h1⟩ := h l (by simp)
    have hlen : L0.length = L.length := by have := congrArg List.length ht; simpa [texts] using this
    have hi : idx L0 (rowOf L l).2 = some l.base.toNat := by
      refine idx_of (by rw [ht]; exact hn) (by omega) ?_
      have e : ∀ (X : List Lt) (i : Nat), i < X.length → (X.getD i z).text = (texts X).getD i [] := fun X i hX => by simp [texts, List.getD, hX]
      rw [e L0 _ (by omega), ht, ← e L _ (by omega)]
      rfl
    rw [List.map_cons, baseG, hi]
    simp only
    rw [ih (k + 1) fun y hy => h y (by simp [hy])]
    have : setB (rowOf L l).1 (l.base.toNat : Int) = l := by
      unfold setB rowOf
      exact lt_ext rfl (by simp; omega) rfl rfl rfl
    rw [this]
    rfl
theorem rows_base {L0 : List Lt} : ∀ (R : Rows) (k : Nat) (L : List Lt), baseG L0 R k = .inl L → (∀ x ∈ R, x.1.base = 0) → L.map (rowOf L0) = R ∧ texts L = texts (firsts R) := by
  intro R
  induction R with
  | nil => intro k L h _; obtain rfl := Sum.inl.inj h; exact ⟨rfl, rfl⟩
  | cons x R ih =>
    intro k L h hz
    rw [baseG] at h
    cases hi : idx L0 x.2 with
    | none => rw [hi] at h; cases h
    | some i =>
      rw [hi] at h
      simp only at h
      cases hb : baseG L0 R (k + 1) with
      | inr e => rw [hb] at h; cases h
      | inl M =>
        rw [hb] at h
        obtain rfl : [setB x.1 i] ++ M = L := Sum.inl.inj h
        obtain ⟨h1, h2⟩ := ih (k + 1) M hb fun y hy => hz y (by simp [hy])
        have hx : rowOf L0 (setB x.1 (i : Int)) = x := by
          have h0 := hz x (by simp)
          obtain ⟨⟨t, b0, m, c, w⟩, b⟩ := x
          simp only at h0
          subst h0
          unfold rowOf setB
          simp only [Int.toNat_natCast, (idx_some hi).2.1]
        refine ⟨by rw [List.singleton_append, List.map_cons, hx, h1], ?_⟩
        have : texts ([setB x.1 (i : Int)] ++ M) = x.1.text :: texts M := by simp [texts, setB]
        rw [this, h2]
        simp [texts, firsts]
theorem rowOf_texts {L0 L : List Lt} (h : texts L0 = texts L) (l : Lt) : rowOf L0 l = rowOf L l := by
  have e : ∀ (X : List Lt) (i : Nat), (X.getD i z).text = (texts X).getD i [] := fun X i => by
    unfold texts
    simp only [List.getD, List.getElem?_map]
    cases X[i]? <;> rfl
  unfold rowOf
  rw [e, e, h]
theorem row_base {s : B} {k : Nat} {R : Rows} (h : restG s k = .inl R) : ∀ x ∈ R, x.1.base = 0 := by
  have key : ∀ (P : List B) (k : Nat) (R : Rows), linesG P k = .inl R → ∀ x ∈ R, x.1.base = 0 := by
    intro P
    induction P with
    | nil => intro k R h; cases h
    | cons l t ih =>
      intro k R h x hx
      by_cases ht : t = []
      · subst ht
        rw [linesG] at h
        split at h
        · obtain rfl := Sum.inl.inj h; cases hx
        · cases h
      · rw [linesG_cons l ht] at h
        cases hl : lineP l with
        | none => rw [hl] at h; cases h
        | some y =>
          rw [hl] at h
          simp only at h
          cases hr : linesG t (k + 1) with
          | inr e => rw [hr] at h; cases h
          | inl Q =>
            rw [hr] at h
            obtain rfl : [y] ++ Q = R := Sum.inl.inj h
            rcases List.mem_cons.1 hx with rfl | hx
            · obtain ⟨a, b, c, d, e, hp, _, _, _, _, _, rfl⟩ := lineOf_some hl
              rfl
            · exact ih (k + 1) Q hr x hx
  exact key _ _ _ h

/-! ## both ways -/
theorem parse_print {L : List Lt} (hv : valP L = true) (hl : (printI L).length ≤ 65536) : parseP (printI L) = (L, 0, 0) := by
  obtain ⟨h1, h2, h3, h4⟩ := (valP_iff L).1 hv
  have hb : ∀ l ∈ L, ((0 ≤ l.base ∧ l.base < L.length) ∧ (0 ≤ l.mark ∧ l.mark ≤ 15) ∧ (0 ≤ l.cas ∧ l.cas ≤ 1) ∧ (1 ≤ l.width ∧ l.width ≤ 1000)) := fun l hl => by
    obtain ⟨i, hi, rfl⟩ := mem_getD hl
    have := (lok_iff _ _ _).1 (h3 i hi)
    exact ⟨this.2.1, this.2.2.2.1, this.2.2.2.2.1, this.2.2.2.2.2.1⟩
  have hp : ∀ l ∈ L, l.text ≠ [] ∧ ∀ c ∈ l.text, c ≠ 32 ∧ c ≠ 10 := fun l hl => by
    obtain ⟨a, _, c⟩ := val_plain hv hl
    refine ⟨fun e => by rw [e] at a; simp at a, fun x hx => ⟨fun e => ?_, fun e => ?_⟩⟩
    · have := c x hx; rw [e, resv_32] at this; cases this
    · have := c x hx; rw [e, resv_10] at this; cases this
  have hf : ∀ x ∈ L.map (rowOf L), Fine x := fun x hx => by
    obtain ⟨l, hl, rfl⟩ := List.mem_map.1 hx
    obtain ⟨a, b, c, d⟩ := hb l hl
    exact ⟨hp l hl, hp _ (getD_mem (by omega)), rfl, ⟨b.1, by have := b.2; show l.mark ≤ 1000; omega⟩, ⟨c.1, by have := c.2; show l.cas ≤ 1000; omega⟩, ⟨by have := d.1; show 0 ≤ l.width; omega, d.2⟩⟩
  have ht : texts (firsts (L.map (rowOf L))) = texts L := by simp [texts, firsts, rowOf]
  unfold parseP
  rw [if_neg (by omega)]
  unfold printI
  rw [rest_rows hf 0]
  simp only
  unfold basesP
  rw [base_rows ht h4 L 0 fun l hl => (hb l hl).1]
  simp only
  rw [if_pos hv]
theorem print_parse {s : B} {L : List Lt} (h : parseP s = (L, 0, 0)) (hne : L ≠ []) : printI L = s := by
  unfold parseP at h
  split at h
  · have := (Prod.mk.inj (Prod.mk.inj h).2).2; omega
  · cases hr : restG s 0 with
    | inr k => rw [hr] at h; have := (Prod.mk.inj (Prod.mk.inj h).2).2; omega
    | inl R =>
      rw [hr] at h
      simp only at h
      unfold basesP at h
      cases hb : baseG (firsts R) R 0 with
      | inr k => rw [hb] at h; have := (Prod.mk.inj (Prod.mk.inj h).2).2; omega
      | inl M =>
        rw [hb] at h
        simp only at h
        split at h
        · obtain rfl := (Prod.mk.inj h).1
          obtain ⟨h1, h2⟩ := rows_base R 0 M hb (row_base hr)
          have h3 : M.map (rowOf M) = R := by
            rw [← h1]
            exact List.map_congr_left fun l _ => (rowOf_texts (by rw [h2]) l).symm
          rw [printI, h3]
          exact (rows_rest _ s R 0 (Nat.le_refl _) hr).symm
        · exact absurd (Prod.mk.inj h).1.symm hne
end Alp
end Go.Proofs.YtolkmjgklgimpaaDoor
