/-
  collate.upTo, Compare, Same, Section.
-/
import Derived.Test.YtalladdmedmfeaaKCmp
import Derived.Test.YtalladdmedmfeaaANums
namespace Go.Proofs.Ytalladdmedmfeaa
open Go.RowKit
open Alp
open Col
set_option linter.unusedVariables false
set_option linter.unusedSimpArgs false

/-- A slice that reads as an alphabet. -/
structure AlR (w : World) (L : List Lt) (A : Option Addr) (q c : Nat) : Prop where
  len : q = L.length
  cap : q ≤ c
  max : c ≤ maxLen
  txt : ∀ l ∈ L, l.text.length ≤ maxLen
  rd : Rd w A (lv L)
theorem AlR.below {w w' : World} {L : List Lt} {A : Option Addr} {q c : Nat} (h : AlR w L A q c) (hb : Below w.heap.size w w') : AlR w' L A q c := ⟨h.len, h.cap, h.max, h.txt, h.rd.below hb⟩
/-- A slice that reads as a word. -/
structure WdR (w : World) (l : List Int) (A : Option Addr) (n c : Nat) : Prop where
  len : n = l.length
  few : n ≤ 100000
  cap : n ≤ c
  max : c ≤ maxLen
  rd : Rd w A (iv l)
theorem WdR.below {w w' : World} {l : List Int} {A : Option Addr} {n c : Nat} (h : WdR w l A n c) (hb : Below w.heap.size w w') : WdR w' l A n c := ⟨h.len, h.few, h.cap, h.max, h.rd.below hb⟩
theorem valid_of {w : World} {L : List Lt} {A : Option Addr} {q c : Nat} (h : AlR w L A q c) (V : Bool) (hV : V = valP L) : Calls Try.prog 43 #[.slice A q c] w (BoolB w V) := valid_any L A q c h.len h.cap h.max h.txt V hV w h.rd
theorem letters_wd {w : World} {L : List Lt} {A A2 : Option Addr} {q c n c2 : Nat} {l : List Int} (h : AlR w L A q c) (h2 : WdR w l A2 n c2) : Calls Try.prog 44 #[.slice A q c, .slice A2 n c2] w fun e w' => ∃ A3 n3 c3, e = .returned (.slice A3 n3 c3) ∧ WdR w' (ltr q l) A3 n3 c3 ∧ Below w.heap.size w w' :=
  (letters_of q c A l A2 n c2 h2.len h2.few h2.cap h2.max h.cap h.max w h2.rd).mono fun e w' hp => by
    obtain ⟨A3, c3, n3, he, hn, hr, h3, h4, hb⟩ := l_out hp
    exact ⟨A3, n3, c3, he, ⟨hn, by have := ltr_length q l; have := h2.len; have := h2.few; omega, h3, h4, hr⟩, hb⟩
theorem by_wd {w : World} {L : List Lt} {b o q c : Nat} (h : AlR w L (some ⟨b, o, none⟩) q c) (hL : L ≠ []) (g n cg : Nat) (hn4 : n ≤ 4) (hcg : n ≤ cg) (hcg2 : cg ≤ maxLen) (ht : Tab w (.slice (some ⟨b, o, none⟩) q c) g) {l1 l2 : List Int} {A1 A2 : Option Addr} {n1 n2 c1 c2 : Nat} (h1 : WdR w (ltr q l1) A1 n1 c1) (h2 : WdR w (ltr q l2) A2 n2 c2) (R : Int) (hR : R = cmpU L l1 l2 0 n) :
    Calls Try.prog 48 #[.slice (some ⟨g, 0, none⟩) n cg, .slice A1 n1 c1, .slice A2 n2 c2] w (IPost w R) := by
  obtain ⟨b', o', e, hrl⟩ := rl_open h.rd hL
  obtain ⟨rfl, rfl⟩ : b = b' ∧ o = o' := by simpa using e
  exact by_any L b o g q c n cg h.len h.cap h.max hn4 hcg hcg2 (ltr q l1) (ltr q l2) A1 A2 n1 n2 c1 c2 h1.len h2.len h1.cap h1.max h2.cap h2.max (inL_ltr q l1) (inL_ltr q l2) R (by rw [hR, h.len, cmpU_ltr]) w ht hrl h1.rd h2.rd
theorem val_ne {L : List Lt} (h : valP L = true) : L ≠ [] := by
  intro e
  rw [e] at h
  simp [valP] at h
theorem al_open {w : World} {L : List Lt} {A : Option Addr} {q c : Nat} (h : AlR w L A q c) (hL : L ≠ []) : ∃ b o, A = some ⟨b, o, none⟩ := by
  obtain ⟨b, o, e, _⟩ := rl_open h.rd hL
  exact ⟨b, o, e⟩
set_option maxRecDepth 100000 in
set_option maxHeartbeats 4000000 in
theorem compare_any (L : List Lt) (A A1 A2 : Option Addr) (q c n1 c1 n2 c2 : Nat) (l1 l2 : List Int) (R : Int) (hR : R = cmpP L l1 l2) (w : World) (ha : AlR w L A q c) (h1 : WdR w l1 A1 n1 c1) (h2 : WdR w l2 A2 n2 c2) :
    Calls Try.prog 23 #[.slice A q c, .slice A1 n1 c1, .slice A2 n2 c2] w (IPost w R) := by
  obtain ⟨V, hV⟩ : ∃ V, V = valP L := ⟨_, rfl⟩
  have HV : Hid (Calls Try.prog 43 #[.slice A q c] w (BoolB w V)) := Lib.hid (valid_of ha V hV)
  cases V
  · have HE : Hid (R = 0) := Lib.hid (by rw [hR, cmpP_no hV.symm])
    clear hV hR ha h1 h2
    go_enter Try.func23, Try.ntmps23
    go_wp2_with ((with_reducible refine HV.out.mono ?_); rintro e w1 hp; obtain ⟨rfl, hb1⟩ := boolb_out hp; have HB1 : Hid (Below w.heap.size w w1) := Lib.hid hb1; clear hp hb1)
    go_ret
    exact ⟨ret_int HE.out.symm, HB1.out⟩
  · obtain ⟨b, o, rfl⟩ := al_open ha (val_ne hV.symm)
    have HX : Hid (R = cmpU L l1 l2 0 4 ∧ AlR w L (some ⟨b, o, none⟩) q c ∧ WdR w l1 A1 n1 c1 ∧ WdR w l2 A2 n2 c2 ∧ L ≠ []) := Lib.hid ⟨by rw [hR, cmpP_yes hV.symm], ha, h1, h2, val_ne hV.symm⟩
    clear hV hR ha h1 h2
    go_enter Try.func23, Try.ntmps23
    go_wp2_with (first
      | ((with_reducible refine HV.out.mono ?_); rintro e w1 hp; obtain ⟨rfl, hb1⟩ := boolb_out hp; have HB1 : Hid (Below w.heap.size w w1) := Lib.hid hb1; clear hp hb1)
      | ((with_reducible refine (levels_any _ _ _ _).mono ?_); rintro e w2 hp; obtain ⟨g, rfl, ht, hb⟩ := tab_out hp; have HB2 : Hid (Tab w2 (.slice (some ⟨b, o, none⟩) q c) g ∧ Below w.heap.size w w2) := Lib.hid ⟨ht, below_next HB1.out hb⟩; clear hp ht hb)
      | ((with_reducible refine (letters_wd (HX.out.2.1.below HB2.out.2) (HX.out.2.2.1.below HB2.out.2)).mono ?_); rintro e w3 ⟨A3, n3, c3, rfl, hw3, hb⟩; have HB3 : Hid (WdR w3 (ltr q l1) A3 n3 c3 ∧ Below w2.heap.size w2 w3 ∧ Below w.heap.size w w3) := Lib.hid ⟨hw3, hb, below_next HB2.out.2 hb⟩; clear hw3 hb)
      | ((with_reducible refine (letters_wd (HX.out.2.1.below HB3.out.2.2) (HX.out.2.2.2.1.below HB3.out.2.2)).mono ?_); rintro e w4 ⟨A4, n4, c4, rfl, hw4, hb⟩; have HB4 : Hid (WdR w4 (ltr q l2) A4 n4 c4 ∧ Below w3.heap.size w3 w4 ∧ Below w.heap.size w w4) := Lib.hid ⟨hw4, hb, below_next HB3.out.2.2 hb⟩; clear hw4 hb)
      | ((with_reducible refine (by_wd (HX.out.2.1.below HB4.out.2.2) HX.out.2.2.2.2 g 4 4 (Nat.le_refl _) (Nat.le_refl _) (by unfold maxLen; omega) ((HB2.out.1.below HB3.out.2.1).below HB4.out.2.1) (HB3.out.1.below HB4.out.2.1) HB4.out.1 R HX.out.1).mono ?_); rintro e w5 hp; obtain ⟨rfl, hb⟩ := i_out hp; have HB5 : Hid (Below w.heap.size w w5) := Lib.hid (below_next HB4.out.2.2 hb); clear hp hb))
    go_ret
    exact ⟨rfl, HB5.out⟩
set_option maxRecDepth 100000 in
set_option maxHeartbeats 4000000 in
theorem up_lo (A : Option Addr) (q c : Nat) (n : Int) (hn : n < 1) (w : World) : Calls Try.prog 50 #[.slice A q c, .int .i64 n] w fun e w' => e = .returned (.tuple #[.slice none 0 0, .bool false]) ∧ Below w.heap.size w w' := by
  have HLV : Hid (∀ W, Calls Try.prog 45 #[.slice A q c] W (TabPost W (.slice A q c))) := Lib.hid fun W => levels_any A q c W
  have d1 : decide (n < 1) = true := decide_eq_true hn
  clear hn
  go_enter Try.func50, Try.ntmps50
  go_wp2_with ((with_reducible refine (HLV.out _).mono ?_); rintro e w1 hp; obtain ⟨g, rfl, ht, hb⟩ := tab_out hp; have HB1 : Hid (Tab w1 (.slice A q c) g ∧ Below w.heap.size w w1) := Lib.hid ⟨ht, hb⟩; clear hp ht hb)
  go_ret2
  exact ⟨rfl, HB1.out.2⟩
set_option maxRecDepth 100000 in
set_option maxHeartbeats 4000000 in
theorem up_hi (A : Option Addr) (q c : Nat) (n : Int) (hn : 4 < n) (w : World) : Calls Try.prog 50 #[.slice A q c, .int .i64 n] w fun e w' => e = .returned (.tuple #[.slice none 0 0, .bool false]) ∧ Below w.heap.size w w' := by
  have HLV : Hid (∀ W, Calls Try.prog 45 #[.slice A q c] W (TabPost W (.slice A q c))) := Lib.hid fun W => levels_any A q c W
  have d1 : decide (n < 1) = false := decide_eq_false (by omega)
  have d2 : decide (4 < n) = true := decide_eq_true hn
  clear hn
  go_enter Try.func50, Try.ntmps50
  go_wp2_with ((with_reducible refine (HLV.out _).mono ?_); rintro e w1 hp; obtain ⟨g, rfl, ht, hb⟩ := tab_out hp; have HB1 : Hid (Tab w1 (.slice A q c) g ∧ Below w.heap.size w w1) := Lib.hid ⟨ht, hb⟩; clear hp ht hb)
  go_ret2
  exact ⟨rfl, HB1.out.2⟩
set_option maxRecDepth 100000 in
set_option maxHeartbeats 4000000 in
theorem up_false (L : List Lt) (A : Option Addr) (q c : Nat) (n : Nat) (h1 : 1 ≤ n) (h4 : n ≤ 4) (hV : valP L = false) (w : World) (ha : AlR w L A q c) : Calls Try.prog 50 #[.slice A q c, .int .i64 (n : Int)] w fun e w' => e = .returned (.tuple #[.slice none 0 0, .bool false]) ∧ Below w.heap.size w w' := by
  have HLV : Hid (∀ W, Calls Try.prog 45 #[.slice A q c] W (TabPost W (.slice A q c))) := Lib.hid fun W => levels_any A q c W
  have HVA : Hid (∀ W, Below w.heap.size w W → Calls Try.prog 43 #[.slice A q c] W (BoolB W false)) := Lib.hid fun W hb => valid_of (ha.below hb) false hV.symm
  have d1 : decide ((n : Int) < 1) = false := decide_eq_false (by omega)
  have d2 : decide (4 < (n : Int)) = false := decide_eq_false (by omega)
  have d3 : decide (n < 1) = false := decide_eq_false (by omega)
  have d4 : decide (4 < n) = false := decide_eq_false (by omega)
  clear hV ha
  go_enter Try.func50, Try.ntmps50
  go_wp2_with (first
    | ((with_reducible refine (HLV.out _).mono ?_); rintro e w1 hp; obtain ⟨g, rfl, ht, hb⟩ := tab_out hp; have HB1 : Hid (Tab w1 (.slice A q c) g ∧ Below w.heap.size w w1) := Lib.hid ⟨ht, hb⟩; clear hp ht hb)
    | ((with_reducible refine (HVA.out _ HB1.out.2).mono ?_); rintro e w2 hp; obtain ⟨rfl, hb⟩ := boolb_out hp; have HB2 : Hid (Below w1.heap.size w1 w2 ∧ Below w.heap.size w w2) := Lib.hid ⟨hb, below_next HB1.out.2 hb⟩; clear hp hb))
  go_ret2
  exact ⟨rfl, HB2.out.2⟩
set_option maxRecDepth 100000 in
set_option maxHeartbeats 4000000 in
theorem up_true (L : List Lt) (A : Option Addr) (q c : Nat) (n : Nat) (h1 : 1 ≤ n) (h4 : n ≤ 4) (hV : valP L = true) (w : World) (ha : AlR w L A q c) : Calls Try.prog 50 #[.slice A q c, .int .i64 (n : Int)] w fun e w' => ∃ g, e = .returned (.tuple #[.slice (some ⟨g, 0, none⟩) n 4, .bool true]) ∧ Tab w' (.slice A q c) g ∧ Below w.heap.size w w' := by
  have HLV : Hid (∀ W, Calls Try.prog 45 #[.slice A q c] W (TabPost W (.slice A q c))) := Lib.hid fun W => levels_any A q c W
  have HVA : Hid (∀ W, Below w.heap.size w W → Calls Try.prog 43 #[.slice A q c] W (BoolB W true)) := Lib.hid fun W hb => valid_of (ha.below hb) true hV.symm
  have d1 : decide ((n : Int) < 1) = false := decide_eq_false (by omega)
  have d2 : decide (4 < (n : Int)) = false := decide_eq_false (by omega)
  have d3 : decide (n < 1) = false := decide_eq_false (by omega)
  have d4 : decide (4 < n) = false := decide_eq_false (by omega)
  clear hV ha
  go_enter Try.func50, Try.ntmps50
  go_wp2_with (first
    | ((with_reducible refine (HLV.out _).mono ?_); rintro e w1 hp; obtain ⟨g, rfl, ht, hb⟩ := tab_out hp; have HB1 : Hid (Tab w1 (.slice A q c) g ∧ Below w.heap.size w w1) := Lib.hid ⟨ht, hb⟩; clear hp ht hb)
    | ((with_reducible refine (HVA.out _ HB1.out.2).mono ?_); rintro e w2 hp; obtain ⟨rfl, hb⟩ := boolb_out hp; have HB2 : Hid (Below w1.heap.size w1 w2 ∧ Below w.heap.size w w2) := Lib.hid ⟨hb, below_next HB1.out.2 hb⟩; clear hp hb))
  go_ret2
  exact ⟨g, rfl, HB1.out.1.below HB2.out.1, HB2.out.2⟩
set_option maxRecDepth 100000 in
set_option maxHeartbeats 4000000 in
theorem same_no (A A1 A2 : Option Addr) (q c n1 c1 n2 c2 : Nat) (n : Int) (w : World) (HU : Hid (Calls Try.prog 50 #[.slice A q c, .int .i64 n] w fun e w' => e = .returned (.tuple #[.slice none 0 0, .bool false]) ∧ Below w.heap.size w w')) :
    Calls Try.prog 25 #[.slice A q c, .slice A1 n1 c1, .slice A2 n2 c2, .int .i64 n] w (BoolB w false) := by
  go_enter Try.func25, Try.ntmps25
  go_wp2_with ((with_reducible refine HU.out.mono ?_); rintro e w1 ⟨rfl, hb⟩; have HB1 := Lib.hid hb; clear hb)
  go_ret
  exact ⟨rfl, HB1.out⟩
set_option maxRecDepth 100000 in
set_option maxHeartbeats 4000000 in
theorem same_yes (L : List Lt) (b o : Nat) (A1 A2 : Option Addr) (q c n1 c1 n2 c2 : Nat) (n : Nat) (h1 : 1 ≤ n) (h4 : n ≤ 4) (l1 l2 : List Int) (V : Bool) (hV : V = decide (cmpU L l1 l2 0 n = 0)) (hL : valP L = true) (w : World) (ha : AlR w L (some ⟨b, o, none⟩) q c) (hw1 : WdR w l1 A1 n1 c1) (hw2 : WdR w l2 A2 n2 c2) :
    Calls Try.prog 25 #[.slice (some ⟨b, o, none⟩) q c, .slice A1 n1 c1, .slice A2 n2 c2, .int .i64 (n : Int)] w (BoolB w V) := by
  have HU := Lib.hid (up_true L (some ⟨b, o, none⟩) q c n h1 h4 hL w ha)
  obtain ⟨R, hR⟩ : ∃ R, R = cmpU L l1 l2 0 n := ⟨_, rfl⟩
  have HX : Hid (R = cmpU L l1 l2 0 n ∧ AlR w L (some ⟨b, o, none⟩) q c ∧ WdR w l1 A1 n1 c1 ∧ WdR w l2 A2 n2 c2 ∧ L ≠ []) := Lib.hid ⟨hR, ha, hw1, hw2, val_ne hL⟩
  have hq : (R == 0) = V := by rw [hV, ← hR, Bool.eq_iff_iff]; simp
  clear hV hR ha hw1 hw2 hL
  go_enter Try.func25, Try.ntmps25
  go_wp2_with (first
    | ((with_reducible refine HU.out.mono ?_); rintro e w2 ⟨g, rfl, ht, hb⟩; have HB2 : Hid (Tab w2 (.slice (some ⟨b, o, none⟩) q c) g ∧ Below w.heap.size w w2) := Lib.hid ⟨ht, hb⟩; clear ht hb)
    | ((with_reducible refine (letters_wd (HX.out.2.1.below HB2.out.2) (HX.out.2.2.1.below HB2.out.2)).mono ?_); rintro e w3 ⟨A3, n3, c3, rfl, hw3, hb⟩; have HB3 : Hid (WdR w3 (ltr q l1) A3 n3 c3 ∧ Below w2.heap.size w2 w3 ∧ Below w.heap.size w w3) := Lib.hid ⟨hw3, hb, below_next HB2.out.2 hb⟩; clear hw3 hb)
    | ((with_reducible refine (letters_wd (HX.out.2.1.below HB3.out.2.2) (HX.out.2.2.2.1.below HB3.out.2.2)).mono ?_); rintro e w4 ⟨A4, n4, c4, rfl, hw4, hb⟩; have HB4 : Hid (WdR w4 (ltr q l2) A4 n4 c4 ∧ Below w3.heap.size w3 w4 ∧ Below w.heap.size w w4) := Lib.hid ⟨hw4, hb, below_next HB3.out.2.2 hb⟩; clear hw4 hb)
    | ((with_reducible refine (by_wd (HX.out.2.1.below HB4.out.2.2) HX.out.2.2.2.2 g n 4 h4 h4 (by unfold maxLen; omega) ((HB2.out.1.below HB3.out.2.1).below HB4.out.2.1) (HB3.out.1.below HB4.out.2.1) HB4.out.1 R HX.out.1).mono ?_); rintro e w5 hp; obtain ⟨rfl, hb⟩ := i_out hp; have HB5 : Hid (Below w.heap.size w w5) := Lib.hid (below_next HB4.out.2.2 hb); clear hp hb))
  go_ret
  exact ⟨rfl, HB5.out⟩
theorem same_any' (L : List Lt) (A A1 A2 : Option Addr) (q c n1 c1 n2 c2 : Nat) (n : Int) (l1 l2 : List Int) (V : Bool) (hV : V = sameP L l1 l2 n) (w : World) (ha : AlR w L A q c) (h1 : WdR w l1 A1 n1 c1) (h2 : WdR w l2 A2 n2 c2) :
    Calls Try.prog 25 #[.slice A q c, .slice A1 n1 c1, .slice A2 n2 c2, .int .i64 n] w (BoolB w V) := by
  by_cases hlo : n < 1
  · have e : V = false := by rw [hV]; exact decide_eq_false fun h => by have := h.2.1.1; omega
    rw [e]
    exact same_no A A1 A2 q c n1 c1 n2 c2 n w (Lib.hid (up_lo A q c n hlo w))
  · by_cases hhi : 4 < n
    · have e : V = false := by rw [hV]; exact decide_eq_false fun h => by have := h.2.1.2; omega
      rw [e]
      exact same_no A A1 A2 q c n1 c1 n2 c2 n w (Lib.hid (up_hi A q c n hhi w))
    · obtain ⟨m, rfl⟩ : ∃ m : Nat, n = m := ⟨n.toNat, by omega⟩
      cases hL : valP L
      · have e : V = false := by rw [hV]; exact decide_eq_false fun h => by have := h.1; rw [hL] at this; cases this
        rw [e]
        exact same_no A A1 A2 q c n1 c1 n2 c2 m w (Lib.hid (up_false L A q c m (by omega) (by omega) hL w ha))
      · obtain ⟨b, o, rfl⟩ := al_open ha (val_ne hL)
        refine same_yes L b o A1 A2 q c n1 c1 n2 c2 m (by omega) (by omega) l1 l2 V ?_ hL w ha h1 h2
        rw [hV]
        unfold sameP
        rw [Int.toNat_natCast, Bool.eq_iff_iff]
        simp only [decide_eq_true_eq]
        exact ⟨fun h => h.2.2, fun h => ⟨hL, by omega, h⟩⟩
theorem sec_yes {L : List Lt} {l : List Int} {k : Nat} (hk : k < l.length) (hb : ∀ j, j < k → ¬ (0 ≤ l.getD j 0 ∧ l.getD j 0 < (L.length : Int))) {x : Nat} (hx : (x : Int) = l.getD k 0) (hxq : x < L.length) : secL L l = (L.getD x z).base := by
  have e1 : ltr L.length (l.take k) = [] := by
    unfold ltr
    rw [List.filter_eq_nil_iff]
    intro a ha
    obtain ⟨j, hj, rfl⟩ := List.getElem_of_mem ha
    rw [List.length_take] at hj
    rw [isL_iff, List.getElem_take]
    have := hb j (by omega)
    simpa [List.getD, (by omega : j < l.length)] using this
  have e2 : l = l.take k ++ (x : Int) :: l.drop (k + 1) := by
    conv => lhs; rw [← List.take_append_drop k l]
    rw [drop_getD hk hx]
  have e3 : ltr L.length l = (x : Int) :: ltr L.length (l.drop (k + 1)) := by
    conv => lhs; rw [e2]
    unfold ltr at e1 ⊢
    rw [List.filter_append, e1, List.nil_append, List.filter_cons_of_pos ((isL_iff _ _).2 ⟨by omega, by omega⟩)]
  unfold secL lev
  rw [e3]
  show (L.getD ((x : Int)).toNat z).base = _
  rw [Int.toNat_natCast]
theorem sec_no {L : List Lt} {l : List Int} (hb : ∀ j, j < l.length → ¬ (0 ≤ l.getD j 0 ∧ l.getD j 0 < (L.length : Int))) : secL L l = -1 := by
  have e1 : ltr L.length l = [] := by
    unfold ltr
    rw [List.filter_eq_nil_iff]
    intro a ha
    obtain ⟨j, hj, rfl⟩ := List.getElem_of_mem ha
    rw [isL_iff]
    have := hb j hj
    simpa [List.getD, hj] using this
  unfold secL lev
  rw [e1]
  rfl
set_option maxRecDepth 100000 in
set_option maxHeartbeats 4000000 in
theorem section_any (L : List Lt) (A A1 : Option Addr) (q c n1 c1 : Nat) (l1 : List Int) (R : Int) (hR : R = secP L l1) (w : World) (ha : AlR w L A q c) (h1 : WdR w l1 A1 n1 c1) :
    Calls Try.prog 21 #[.slice A q c, .slice A1 n1 c1] w (IPost w R) := by
  obtain ⟨V, hV⟩ : ∃ V, V = valP L := ⟨_, rfl⟩
  have HV : Hid (Calls Try.prog 43 #[.slice A q c] w (BoolB w V)) := Lib.hid (valid_of ha V hV)
  cases V
  · have HE : Hid (R = -1) := Lib.hid (by rw [hR]; unfold secP; rw [← hV]; rfl)
    clear hV hR ha h1
    go_enter Try.func21, Try.ntmps21
    go_wp2_with ((with_reducible refine HV.out.mono ?_); rintro e w1 hp; obtain ⟨rfl, hb1⟩ := boolb_out hp; have HB1 : Hid (Below w.heap.size w w1) := Lib.hid hb1; clear hp hb1)
    go_ret
    exact ⟨ret_int HE.out.symm, HB1.out⟩
  · obtain ⟨b, o, rfl, hrl⟩ := rl_open ha.rd (val_ne hV.symm)
    obtain ⟨b1, o1, hA1⟩ := il_or h1.len h1.rd
    have HX : Hid (R = secL L l1 ∧ q = L.length ∧ RL w b o L ∧ n1 = l1.length ∧ (n1 = 0 ∨ (A1 = some ⟨b1, o1, none⟩ ∧ IL w b1 o1 l1))) := Lib.hid ⟨by rw [hR]; unfold secP; rw [← hV]; rfl, ha.len, hrl, h1.len, hA1⟩
    have hm' : c ≤ 9223372036854775807 := by have := ha.max; unfold maxLen at this; omega
    have hm1' : c1 ≤ 9223372036854775807 := by have := h1.max; unfold maxLen at this; omega
    have hqc := ha.cap
    have hnc := h1.cap
    clear hV hR ha h1 hrl hA1
    go_enter Try.func21, Try.ntmps21
    go_wp2_with ((with_reducible refine HV.out.mono ?_); rintro e w1 hp; obtain ⟨rfl, hb1⟩ := boolb_out hp; have HB1 : Hid (Below w.heap.size w w1) := Lib.hid hb1; clear hp hb1)
    go_loopg [6, 12] n1 (fun g s6 s12 wr => ∃ (k : Nat), k + g = n1 ∧ s12 = .int .i64 (k : Int) ∧ Hid ((∀ j, j < k → ¬ (0 ≤ l1.getD j 0 ∧ l1.getD j 0 < (q : Int))) ∧ Below w.heap.size w wr))
    case atStart => exact ⟨0, by omega, rfl, Lib.hid ⟨fun j hj => by omega, HB1.out⟩⟩
    case round =>
      obtain ⟨k, hk, rfl, HI⟩ := hrel
      by_cases hlt : k < n1
      · obtain ⟨g, rfl⟩ : ∃ g, gk = g + 1 := ⟨gk - 1, by omega⟩
        obtain ⟨x, hx⟩ : ∃ x, x = l1.getD k 0 := ⟨_, rfl⟩
        have hkl : k < l1.length := by rw [← HX.out.2.2.2.1]; exact hlt
        obtain ⟨rfl, hil⟩ : A1 = some ⟨b1, o1, none⟩ ∧ IL w b1 o1 l1 := by
          rcases HX.out.2.2.2.2 with h | h
          · omega
          · exact h
        have hcx : wr.cell? ⟨b1, o1 + k, none⟩ = some (.int .i64 x) := hil.at HI.out.2 hkl hx
        by_cases h0 : 0 ≤ x ∧ x < (q : Int)
        · have HH : Hid (∀ W, Calls Try.prog 47 #[.slice (some ⟨b, o, none⟩) q c, .int .i64 x] W fun e w' => e = .returned (.bool true) ∧ W = w') := Lib.hid fun W => isLetter_any _ q c x W true ((isL_iff q x).2 h0).symm
          obtain ⟨x, rfl⟩ : ∃ y : Nat, x = y := ⟨x.toNat, by omega⟩
          obtain ⟨v, hv⟩ : ∃ v, v = (L.getD x z).base := ⟨_, rfl⟩
          have hcv : wr.cell? ⟨b, o + x * 5 + 1, none⟩ = some (.int .i64 v) := by rw [hv]; exact (HX.out.2.2.1.below HI.out.2).c1 (by rw [← HX.out.2.1]; omega) rfl
          have HE : Hid (R = v) := Lib.hid (by rw [HX.out.1, hv]; exact sec_yes hkl (by rw [← HX.out.2.1]; exact HI.out.1) hx (by rw [← HX.out.2.1]; omega))
          have hxq : x < q := by omega
          clear hx hil h0 hv
          go_wp2_with ((with_reducible refine (HH.out _).mono ?_); rintro e w0 ⟨rfl, rfl⟩)
          go_ret
          exact ⟨ret_int HE.out.symm, HI.out.2⟩
        · have HH : Hid (∀ W, Calls Try.prog 47 #[.slice (some ⟨b, o, none⟩) q c, .int .i64 x] W fun e w' => e = .returned (.bool false) ∧ W = w') := Lib.hid fun W => isLetter_any _ q c x W false (Bool.eq_false_iff.2 fun h => h0 ((isL_iff q x).1 h)).symm
          have HS : Hid (∀ j, j < k + 1 → ¬ (0 ≤ l1.getD j 0 ∧ l1.getD j 0 < (q : Int))) := Lib.hid fun j hj => by
            by_cases e : j = k
            · subst e; rw [← hx]; exact h0
            · exact HI.out.1 j (by omega)
          clear hx hil h0
          go_wp2_with ((with_reducible refine (HH.out _).mono ?_); rintro e w0 ⟨rfl, rfl⟩)
          go_roundg g
          case rel => exact ⟨k + 1, by omega, by go_num, Lib.hid ⟨HS.out, HI.out.2⟩⟩
          case measure => omega
      · obtain rfl : k = n1 := by omega
        have HE : Hid (R = -1) := Lib.hid (by rw [HX.out.1]; exact sec_no (by rw [← HX.out.2.1, ← HX.out.2.2.2.1]; exact HI.out.1))
        go_wp2_with fail
        go_ret
        exact ⟨ret_int HE.out.symm, HI.out.2⟩
end Go.Proofs.Ytalladdmedmfeaa
