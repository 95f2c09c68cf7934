/-
  The pure side of layer 3: digits, chains, trees, signatures as functions on lists of bytes; that what is signed is accepted; that digits cross.
-/
import Derived.Test.YtbgcnfikcddcpaaDoorHOf
namespace Go.Proofs.YtbgcnfikcddcpaaDoor
set_option linter.unusedVariables false
namespace Sgn
open Sha
abbrev B := List UInt8

/-! ## digits -/
def dig4 (n : Nat) : List Nat := [n / 64, n / 16 % 4, n / 4 % 4, n % 4]
def body (d : B) : List Nat := d.flatMap fun c => dig4 c.toNat
def csum : List Nat → Nat
  | [] => 0
  | x :: r => (3 - x) + csum r
def digs (d : B) : List Nat := body d ++ dig4 (csum (body d))
theorem body_length (d : B) : (body d).length = 4 * d.length := by
  induction d with
  | nil => rfl
  | cons c r ih => simp only [body, List.flatMap_cons, List.length_append, List.length_cons] at ih ⊢; rw [ih]; simp [dig4]; omega
theorem digs_length (d : B) (h : d.length = 16) : (digs d).length = 68 := by simp [digs, body_length, h, dig4]
theorem body_le (d : B) : ∀ x ∈ body d, x ≤ 3 := by
  intro x hx
  simp only [body, List.mem_flatMap, dig4] at hx
  obtain ⟨c, _, hx⟩ := hx
  have := c.toNat_lt
  simp at hx
  omega
theorem csum_le (l : List Nat) : csum l ≤ 3 * l.length := by
  induction l with
  | nil => simp [csum]
  | cons x r ih => simp only [csum, List.length_cons]; omega
theorem csum_snoc (l : List Nat) (x : Nat) : csum (l ++ [x]) = csum l + (3 - x) := by
  induction l with
  | nil => simp [csum]
  | cons y r ih => simp only [List.cons_append, csum, ih]; omega
theorem csum_body (d : B) (h : d.length = 16) : csum (body d) ≤ 192 := by have := csum_le (body d); rw [body_length, h] at this; omega
theorem digs_le (d : B) (h : d.length = 16) : ∀ x ∈ digs d, x ≤ 3 := by
  intro x hx
  rcases List.mem_append.1 hx with hx | hx
  · exact body_le d x hx
  · have := csum_body d h
    simp [dig4] at hx
    omega
theorem digs_getD_le (d : B) (h : d.length = 16) (i : Nat) : (digs d).getD i 0 ≤ 3 := by
  by_cases hi : i < (digs d).length
  · have := digs_le d h _ (List.getElem_mem hi)
    simpa [List.getD, hi] using this
  · simp [List.getD, List.getElem?_eq_none (by omega : (digs d).length ≤ i)]
theorem body_get (d : B) (i : Nat) (h : i < 4 * d.length) : (body d).getD i 0 = (d.getD (i / 4) 0).toNat / 4 ^ (3 - i % 4) % 4 := by
  induction d generalizing i with
  | nil => simp at h
  | cons c r ih =>
    have hc := c.toNat_lt
    show (dig4 c.toNat ++ body r).getD i 0 = _
    rcases Nat.lt_or_ge i 4 with h4 | h4
    · have e : i / 4 = 0 := by omega
      rw [e]
      have : i = 0 ∨ i = 1 ∨ i = 2 ∨ i = 3 := by omega
      rcases this with rfl | rfl | rfl | rfl <;> simp [dig4] <;> omega
    · obtain ⟨k, rfl⟩ : ∃ k, i = k + 4 := ⟨i - 4, by omega⟩
      have e1 : (dig4 c.toNat ++ body r).getD (k + 4) 0 = (body r).getD k 0 := by
        simp [List.getD, dig4]
      have e2 : (k + 4) / 4 = k / 4 + 1 := by omega
      have e3 : (k + 4) % 4 = k % 4 := by omega
      rw [e1, e2, e3, ih k (by simp at h; omega)]
      simp [List.getD]
/-- Two lists as long as each other: each number of one at most that of the other, and one less: the sum of what is missing is greater. -/
theorem csum_lt : ∀ (a b : List Nat), a.length = b.length → (∀ x ∈ b, x ≤ 3) → (∀ i, a.getD i 0 ≤ b.getD i 0) → a ≠ b → csum b < csum a
  | [], [], _, _, _, h => absurd rfl h
  | [], _ :: _, h, _, _, _ => by simp at h
  | _ :: _, [], h, _, _, _ => by simp at h
  | x :: a, y :: b, h, h3, hle, hne => by
    have h0 : x ≤ y := by simpa [List.getD] using hle 0
    have hr : ∀ i, a.getD i 0 ≤ b.getD i 0 := fun i => by simpa [List.getD] using hle (i + 1)
    have hy : y ≤ 3 := h3 y (by simp)
    have hl : a.length = b.length := by simpa using h
    by_cases hab : a = b
    · subst hab
      have : x ≠ y := fun e => hne (by rw [e])
      simp only [csum]
      omega
    · have := csum_lt a b hl (fun z hz => h3 z (by simp [hz])) hr hab
      simp only [csum]
      omega
theorem dig4_lt (x y : Nat) (h : x < y) (hy : y < 256) : ∃ i, i < 4 ∧ (dig4 x).getD i 0 < (dig4 y).getD i 0 := by
  by_cases h0 : x / 64 < y / 64
  · exact ⟨0, by omega, by simpa [dig4] using h0⟩
  · by_cases h1 : x / 16 % 4 < y / 16 % 4
    · exact ⟨1, by omega, by simpa [dig4] using h1⟩
    · by_cases h2 : x / 4 % 4 < y / 4 % 4
      · exact ⟨2, by omega, by simpa [dig4] using h2⟩
      · exact ⟨3, by omega, by simp [dig4]; omega⟩
theorem dig4_inj {x y : Nat} (hx : x < 256) (hy : y < 256) (h : dig4 x = dig4 y) : x = y := by simp [dig4] at h; omega
theorem body_inj : ∀ (a b : B), a.length = b.length → body a = body b → a = b
  | [], [], _, _ => rfl
  | [], _ :: _, h, _ => by simp at h
  | _ :: _, [], h, _ => by simp at h
  | x :: a, y :: b, h, he => by
    have hx := x.toNat_lt
    have hy := y.toNat_lt
    have he' : dig4 x.toNat ++ body a = dig4 y.toNat ++ body b := he
    obtain ⟨h1, h2⟩ := List.append_inj he' rfl
    rw [UInt8.toNat_inj.1 (dig4_inj hx hy h1), body_inj a b (by simpa using h) h2]
theorem digs_low (d : B) (i : Nat) (h : i < 4 * d.length) : (digs d).getD i 0 = (body d).getD i 0 := by
  have hl := body_length d
  simp [digs, List.getD, List.getElem?_append, hl, h]
theorem digs_high (d : B) (i : Nat) : (digs d).getD (4 * d.length + i) 0 = (dig4 (csum (body d))).getD i 0 := by
  have hl := body_length d
  have hn : ¬ 4 * d.length + i < 4 * d.length := by omega
  simp [digs, List.getD, List.getElem?_append, hl, hn]
theorem cross_half (a b : B) (ha : a.length = 16) (hb : b.length = 16) (hne : a ≠ b) (hle : ∀ i, (body a).getD i 0 ≤ (body b).getD i 0) : (∃ i, i < 68 ∧ (digs a).getD i 0 < (digs b).getD i 0) ∧ ∃ i, i < 68 ∧ (digs b).getD i 0 < (digs a).getD i 0 := by
  have hbn : body a ≠ body b := fun e => hne (body_inj a b (by omega) e)
  have hl : (body a).length = (body b).length := by rw [body_length, body_length, ha, hb]
  have hs := csum_lt _ _ hl (body_le b) hle hbn
  have hca := csum_body a ha
  obtain ⟨k, hk, hd⟩ := dig4_lt _ _ hs (by omega)
  refine ⟨?_, 64 + k, by omega, ?_⟩
  · by_cases hex : ∃ i, i < 64 ∧ (body a).getD i 0 < (body b).getD i 0
    · obtain ⟨i, hi, h⟩ := hex
      exact ⟨i, by omega, by rw [digs_low a i (by omega), digs_low b i (by omega)]; exact h⟩
    · refine absurd (List.ext_getElem hl fun i h1 h2 => ?_) hbn
      have hi : i < 64 := by rw [body_length, ha] at h1; omega
      have h3 := hle i
      have h4 : ¬ (body a).getD i 0 < (body b).getD i 0 := fun h => hex ⟨i, hi, h⟩
      simp only [List.getD, List.getElem?_eq_getElem h1, List.getElem?_eq_getElem h2, Option.getD_some] at h3 h4
      omega
  · have e1 := digs_high a k
    have e2 := digs_high b k
    rw [ha] at e1
    rw [hb] at e2
    rw [show 64 + k = 4 * 16 + k from rfl, e1, e2]
    exact hd
/-- P3.6. -/
theorem cross (a b : B) (ha : a.length = 16) (hb : b.length = 16) (hne : a ≠ b) : (∃ i, i < 68 ∧ (digs a).getD i 0 < (digs b).getD i 0) ∧ ∃ i, i < 68 ∧ (digs b).getD i 0 < (digs a).getD i 0 := by
  by_cases h1 : ∀ i, (body a).getD i 0 ≤ (body b).getD i 0
  · exact cross_half a b ha hb hne h1
  · by_cases h2 : ∀ i, (body b).getD i 0 ≤ (body a).getD i 0
    · obtain ⟨h3, h4⟩ := cross_half b a hb ha (Ne.symm hne) h2
      exact ⟨h4, h3⟩
    · obtain ⟨i, hi⟩ := Classical.not_forall.1 h1
      obtain ⟨j, hj⟩ := Classical.not_forall.1 h2
      have hlt : ∀ (x y : B) (n : Nat), x.length = 16 → y.length = 16 → ¬ (body x).getD n 0 ≤ (body y).getD n 0 → n < 64 := fun x y n hx hy h => by
        rcases Nat.lt_or_ge n 64 with h' | h'
        · exact h'
        · refine absurd ?_ h
          simp [List.getD, List.getElem?_eq_none (by rw [body_length, hx]; omega : (body x).length ≤ n)]
      have hi64 := hlt a b i ha hb hi
      have hj64 := hlt b a j hb ha hj
      refine ⟨⟨j, by omega, ?_⟩, i, by omega, ?_⟩
      · rw [digs_low a j (by omega), digs_low b j (by omega)]; omega
      · rw [digs_low a i (by omega), digs_low b i (by omega)]; omega

/-! ## chains, keys, trees -/
def cmsg (i : Int) (c : Nat) : B := [99, 104, 97, 105, 110] ++ eL [i, (c : Int)]
def bot (s : B) (i : Int) (c : Nat) : B := (mac s (cmsg i c)).take 16
def stp (i : Int) (c t : Nat) (v : B) : B := dig 8 [eL [i, (c : Int), (t : Int)], v]
def adv (i : Int) (c : Nat) : Nat → Nat → B → B
  | _, 0, v => v
  | f, n + 1, v => adv i c (f + 1) n (stp i c f v)
theorem adv_snoc (i : Int) (c : Nat) : ∀ (n f : Nat) (v : B), adv i c f (n + 1) v = stp i c (f + n) (adv i c f n v) := by
  intro n
  induction n with
  | zero => intro f v; rfl
  | succ n ih => intro f v; rw [adv, ih, show f + 1 + n = f + (n + 1) from by omega]; rfl
theorem adv_add (i : Int) (c : Nat) : ∀ (m n f : Nat) (v : B), adv i c (f + m) n (adv i c f m v) = adv i c f (m + n) v := by
  intro m
  induction m with
  | zero => intro n f v; rw [Nat.zero_add]; rfl
  | succ m ih => intro n f v; rw [show m + 1 + n = (m + n) + 1 from by omega, adv, adv, ← ih, show f + 1 + m = f + (m + 1) from by omega]
theorem bot_length (s : B) (i : Int) (c : Nat) : (bot s i c).length = 16 := by rw [bot, List.length_take, mac, sha_length]; rfl
theorem stp_length (i : Int) (c t : Nat) (v : B) : (stp i c t v).length = 16 := dig_length _ _
theorem adv_length (i : Int) (c : Nat) : ∀ (n f : Nat) (v : B), v.length = 16 → (adv i c f n v).length = 16
  | 0, _, _, h => h
  | n + 1, f, v, h => by rw [adv]; exact adv_length i c n _ _ (stp_length _ _ _ _)
/-- The first k tops, one behind the other. -/
def topsN (i : Int) (vs : List B) (hs : List Nat) (k : Nat) : B := (List.range k).flatMap fun c => adv i c (hs.getD c 0) (3 - hs.getD c 0) (vs.getD c [])
def leafN (i : Int) (vs : List B) (hs : List Nat) : B := dig 1 [dig 9 [topsN i vs hs 68]]
def bots (s : B) (i : Int) : List B := (List.range 68).map (bot s i)
def Z68 : List Nat := List.replicate 68 0
def par (a b : B) : B := dig 2 [a, b]
def node (s : B) : Nat → Nat → B
  | 0, i => leafN i (bots s i) Z68
  | l + 1, i => par (node s l (2 * i)) (node s l (2 * i + 1))
def sib (i : Nat) : Nat := if i % 2 = 0 then i + 1 else i - 1
def besid (s : B) (h i : Nat) : List B := (List.range h).map fun l => node s l (sib (i / 2 ^ l))
def rootO (i : Nat) : Nat → B → List B → B
  | _, n, [] => n
  | l, n, o :: r => rootO i (l + 1) (if i / 2 ^ l % 2 = 0 then par n o else par o n) r
def dgst (p : B) (i : Int) (m : B) : B := dig 3 [p, en i, m]
def sigN (s : B) (i : Int) (d : List Nat) (k : Nat) : B := (List.range k).flatMap fun c => adv i c 0 (d.getD c 0) (bot s i c)
def sgn (s : B) (h i : Nat) (m : B) : B := en i ++ (sigN s i (digs (dgst (node s h 0) i m)) 68 ++ (besid s h i).flatten)
theorem topsN_succ (i : Int) (vs : List B) (hs : List Nat) (k : Nat) : topsN i vs hs (k + 1) = topsN i vs hs k ++ adv i k (hs.getD k 0) (3 - hs.getD k 0) (vs.getD k []) := by
  rw [topsN, List.range_succ, List.flatMap_append]; simp [topsN]
theorem sigN_succ (s : B) (i : Int) (d : List Nat) (k : Nat) : sigN s i d (k + 1) = sigN s i d k ++ adv i k 0 (d.getD k 0) (bot s i k) := by
  rw [sigN, List.range_succ, List.flatMap_append]; simp [sigN]
theorem topsN_length (i : Int) (vs : List B) (hs : List Nat) (hv : ∀ c, c < vs.length → (vs.getD c []).length = 16) : ∀ k, k ≤ vs.length → (topsN i vs hs k).length = 16 * k := by
  intro k
  induction k with
  | zero => intro _; rfl
  | succ k ih => intro hk; rw [topsN_succ, List.length_append, ih (by omega), adv_length _ _ _ _ _ (hv k (by omega))]; omega
theorem sigN_length (s : B) (i : Int) (d : List Nat) (k : Nat) : (sigN s i d k).length = 16 * k := by
  induction k with
  | zero => rfl
  | succ k ih => rw [sigN_succ, List.length_append, ih, adv_length _ _ _ _ _ (bot_length _ _ _)]; omega
theorem leafN_length (i : Int) (vs : List B) (hs : List Nat) : (leafN i vs hs).length = 16 := dig_length _ _
theorem par_length (a b : B) : (par a b).length = 16 := dig_length _ _
theorem dgst_length (p : B) (i : Int) (m : B) : (dgst p i m).length = 16 := dig_length _ _
theorem node_length (s : B) (l i : Nat) : (node s l i).length = 16 := by cases l <;> exact dig_length _ _
theorem bots_length (s : B) (i : Int) : (bots s i).length = 68 := by simp [bots]
theorem bots_get (s : B) (i : Int) (c : Nat) (h : c < 68) : (bots s i).getD c [] = bot s i c := by simp [bots, List.getD, h]
theorem Z68_get (c : Nat) : Z68.getD c 0 = 0 := by
  rcases Nat.lt_or_ge c 68 with h | h
  · rw [Z68, List.getD, List.getElem?_replicate, if_pos h]; rfl
  · simp [List.getD, List.getElem?_eq_none (show Z68.length ≤ c from h)]
theorem besid_length (s : B) (h i : Nat) : (besid s h i).length = h := by simp [besid]
theorem besid_get (s : B) (h i l : Nat) (hl : l < h) : (besid s h i).getD l [] = node s l (sib (i / 2 ^ l)) := by simp [besid, List.getD, hl]
theorem besid_succ (s : B) (h i : Nat) : besid s (h + 1) i = besid s h i ++ [node s h (sib (i / 2 ^ h))] := by simp [besid, List.range_succ]
theorem besid_flat (s : B) (h i : Nat) : (besid s h i).flatten.length = 16 * h := by
  induction h with
  | zero => rfl
  | succ h ih => rw [besid_succ, List.flatten_append, List.length_append, ih]; simp [node_length]; omega
theorem sgn_length (s : B) (h i : Nat) (m : B) : (sgn s h i m).length = (en i).length + (1088 + 16 * h) := by
  rw [sgn, List.length_append, List.length_append, sigN_length, besid_flat]

/-- From a node on the way to the root. -/
theorem rootO_way (s : B) (i : Nat) : ∀ (k l : Nat), rootO i l (node s l (i / 2 ^ l)) ((List.range' l k).map fun l => node s l (sib (i / 2 ^ l))) = node s (l + k) (i / 2 ^ (l + k)) := by
  intro k
  induction k with
  | zero => intro l; rfl
  | succ k ih =>
    intro l
    rw [List.range'_succ, List.map_cons, rootO]
    have e : (if i / 2 ^ l % 2 = 0 then par (node s l (i / 2 ^ l)) (node s l (sib (i / 2 ^ l))) else par (node s l (sib (i / 2 ^ l))) (node s l (i / 2 ^ l))) = node s (l + 1) (i / 2 ^ (l + 1)) := by
      have h2 : i / 2 ^ (l + 1) = i / 2 ^ l / 2 := by rw [Nat.pow_succ, Nat.div_div_eq_div_mul]
      rw [node, h2]
      generalize i / 2 ^ l = j
      by_cases hj : j % 2 = 0
      · rw [if_pos hj, sib, if_pos hj, show 2 * (j / 2) = j from by omega]
      · rw [if_neg hj, sib, if_neg hj, show 2 * (j / 2) = j - 1 from by omega, show j - 1 + 1 = j from by omega]
    rw [e, ih (l + 1), show l + 1 + k = l + (k + 1) from by omega]
theorem rootO_besid (s : B) (h i : Nat) (hi : i < 2 ^ h) : rootO i 0 (node s 0 i) (besid s h i) = node s h 0 := by
  have := rootO_way s i h 0
  rw [Nat.zero_add, Nat.pow_zero, Nat.div_one, Nat.div_eq_of_lt hi] at this
  rw [besid, List.range_eq_range']
  exact this
theorem rootO_snoc (i : Nat) : ∀ (r : List B) (l : Nat) (n o : B), rootO i l n (r ++ [o]) = if i / 2 ^ (l + r.length) % 2 = 0 then par (rootO i l n r) o else par o (rootO i l n r)
  | [], l, n, o => rfl
  | x :: r, l, n, o => by
    rw [List.cons_append, rootO, rootO_snoc i r (l + 1), rootO, List.length_cons, show l + 1 + r.length = l + (r.length + 1) from by omega]
theorem rootO_length (i : Nat) : ∀ (r : List B) (l : Nat) (n : B), n.length = 16 → (rootO i l n r).length = 16
  | [], _, _, h => h
  | o :: r, l, n, h => by rw [rootO]; exact rootO_length i r _ _ (by split <;> exact par_length _ _)

/-! ## what Verify answers -/
def cut16 (r : B) (k : Nat) : B := (r.drop (16 * k)).take 16
def valsOf (r : B) : List B := (List.range 68).map (cut16 r)
def othersOf (r : B) (h : Nat) : List B := (List.range h).map fun l => cut16 r (68 + l)
/-- The root over a leaf, as a signature's values lead to it. -/
def way (p : B) (h i : Nat) (m r : B) : B := rootO i 0 (leafN i (valsOf r) (digs (dgst p i m))) (othersOf r h)
theorem way_length (p : B) (h i : Nat) (m r : B) : (way p h i m r).length = 16 := rootO_length _ _ _ _ (leafN_length _ _ _)
theorem valsOf_length (r : B) : (valsOf r).length = 68 := by simp [valsOf]
theorem valsOf_get (r : B) (c : Nat) (h : c < 68) : (valsOf r).getD c [] = cut16 r c := by simp [valsOf, List.getD, h]
theorem cut16_length (r : B) (k : Nat) (h : 16 * k + 16 ≤ r.length) : (cut16 r k).length = 16 := by rw [cut16, List.length_take, List.length_drop]; omega
theorem cut16_append (a b : B) (k : Nat) (h : a.length = 16 * k) : ∀ (v : B), v.length = 16 → cut16 (a ++ (v ++ b)) k = v := fun v hv => by
  rw [cut16, ← h, List.drop_left, ← hv, List.take_left]
/-- Cutting what was written in pieces of sixteen. -/
theorem cut16_flat (f : Nat → B) (hf : ∀ c, (f c).length = 16) (n k : Nat) (hk : k < n) (b : B) : cut16 ((List.range n).flatMap f ++ b) k = f k := by
  have hl : ∀ (m : Nat), ((List.range m).flatMap f).length = 16 * m := fun m => by
    induction m with
    | zero => rfl
    | succ m ih => rw [List.range_succ, List.flatMap_append, List.length_append, ih]; simp [hf]; omega
  have e : List.range n = List.range k ++ (k :: (List.range' (k + 1) (n - k - 1))) := by
    rw [List.range_eq_range', List.range_eq_range', show n = k + (n - k - 1 + 1) from by omega, ← List.range'_append_1, List.range'_succ, show 0 + k = k from by omega, show k + (n - k - 1 + 1) - k - 1 = n - k - 1 from by omega]
  rw [e, List.flatMap_append, List.flatMap_cons, List.append_assoc, List.append_assoc]
  exact cut16_append _ _ k (hl k) _ (hf k)
theorem vals_sgn (s : B) (i : Int) (d : List Nat) (b : B) (c : Nat) (h : c < 68) : (valsOf (sigN s i d 68 ++ b)).getD c [] = adv i c 0 (d.getD c 0) (bot s i c) := by
  rw [valsOf_get _ _ h, sigN]
  exact cut16_flat _ (fun c => adv_length _ _ _ _ _ (bot_length _ _ _)) 68 c h b
theorem others_sgn (s : B) (i : Int) (d : List Nat) (h j : Nat) : othersOf (sigN s i d 68 ++ (besid s h j).flatten) h = besid s h j := by
  rw [othersOf, besid]
  apply List.map_congr_left
  intro l hl
  have hlh : l < h := by simpa using hl
  have e : cut16 (sigN s i d 68 ++ (List.map (fun l => node s l (sib (j / 2 ^ l))) (List.range h)).flatten) (68 + l) = cut16 ((List.range h).flatMap fun l => node s l (sib (j / 2 ^ l))) l := by
    rw [cut16, cut16, List.flatMap_def]
    congr 1
    rw [show 16 * (68 + l) = (sigN s i d 68).length + 16 * l from by rw [sigN_length]; omega, List.drop_append]
    simp
  rw [e]
  have := cut16_flat (fun l => node s l (sib (j / 2 ^ l))) (fun c => node_length _ _ _) h l hlh []
  rwa [List.append_nil] at this
/-- P3.5: the values of a signature lead to the signer's root. -/
theorem way_sgn (s : B) (h i : Nat) (m : B) (hi : i < 2 ^ h) : way (node s h 0) h i m (sigN s i (digs (dgst (node s h 0) i m)) 68 ++ (besid s h i).flatten) = node s h 0 := by
  rw [way, others_sgn]
  have hd16 : (dgst (node s h 0) i m).length = 16 := dgst_length _ _ _
  generalize hdd : digs (dgst (node s h 0) i m) = d
  have hd3 : ∀ c, d.getD c 0 ≤ 3 := fun c => by rw [← hdd]; exact digs_getD_le _ hd16 c
  have e : leafN (i : Int) (valsOf (sigN s i d 68 ++ (besid s h i).flatten)) d = node s 0 i := by
    rw [leafN, node, leafN]
    congr 2
    refine congrArg (fun x => dig 9 [x]) ?_
    rw [topsN, topsN, List.flatMap_def, List.flatMap_def]
    refine congrArg List.flatten ?_
    apply List.map_congr_left
    intro c hc
    have hc : c < 68 := by simpa using hc
    have := hd3 c
    have h2 := adv_add i c (d.getD c 0) (3 - d.getD c 0) 0 (bot s i c)
    rw [Nat.zero_add] at h2
    rw [vals_sgn _ _ _ _ _ hc, Z68_get, bots_get _ _ _ hc, h2, show d.getD c 0 + (3 - d.getD c 0) = 3 from by omega]
  rw [e]
  exact rootO_besid s h i hi
end Sgn
end Go.Proofs.YtbgcnfikcddcpaaDoor
