/-
  collate.Find, the reference's Find.
-/
import Derived.Test.YtalladdmedmfeaaKRef2
import Derived.Test.YtalladdmedmfeaaKFresh
namespace Go.Proofs.Ytalladdmedmfeaa
open Go.RowKit
open Alp
open Col
set_option linter.unusedVariables false
set_option linter.unusedSimpArgs false

def FPost (w : World) (p : Nat × Nat) (e : Ending) (w' : World) : Prop := e = .returned (.tuple #[.int .i64 (p.1 : Int), .int .i64 (p.2 : Int)]) ∧ Below w.heap.size w w'
theorem f_out {w w' : World} {x y : Nat} {e : Ending} (h : FPost w (x, y) e w') : e = .returned (.tuple #[.int .i64 (x : Int), .int .i64 (y : Int)]) ∧ Below w.heap.size w w' := h
theorem ws_take {ws : List (List Int)} {k : Nat} (hk : k < ws.length) : ws.take (k + 1) = ws.take k ++ [ws.getD k []] := by
  rw [List.take_succ_eq_append_getElem hk]
  simp [List.getD, hk]
theorem less_step {L : List Lt} {ws : List (List Int)} {k : Nat} (hk : k < ws.length) (u : List Int) (n : Nat) : lessN L (ws.take (k + 1)) u n = lessN L (ws.take k) u n + (if cmpU L (ws.getD k []) u 0 n < 0 then 1 else 0) := by
  unfold lessN
  rw [ws_take hk, List.countP_append]
  by_cases h : cmpU L (ws.getD k []) u 0 n < 0 <;> simp [h, List.countP_cons] <;> omega
theorem same_step {L : List Lt} {ws : List (List Int)} {k : Nat} (hk : k < ws.length) (u : List Int) (n : Nat) : sameN L (ws.take (k + 1)) u n = sameN L (ws.take k) u n + (if cmpU L (ws.getD k []) u 0 n = 0 then 1 else 0) := by
  unfold sameN
  rw [ws_take hk, List.countP_append]
  by_cases h : cmpU L (ws.getD k []) u 0 n = 0 <;> simp [h, List.countP_cons]
theorem less_le (L : List Lt) (ws : List (List Int)) (u : List Int) (n : Nat) : lessN L ws u n + sameN L ws u n ≤ 2 * ws.length := by
  have h1 : lessN L ws u n ≤ ws.length := List.countP_le_length
  have h2 : sameN L ws u n ≤ ws.length := List.countP_le_length
  omega
set_option maxRecDepth 1000000 in
set_option maxHeartbeats 8000000 in
theorem find_no (A A1 A2 : Option Addr) (q c n1 c1 n2 c2 : Nat) (n : Int) (w : World) (HU : Hid (Calls Try.prog 50 #[.slice A q c, .int .i64 n] w fun e w' => e = .returned (.tuple #[.slice none 0 0, .bool false]) ∧ Below w.heap.size w w')) :
    Calls Try.prog 30 #[.slice A q c, .slice A1 n1 c1, .slice A2 n2 c2, .int .i64 n] w (FPost w (0, 0)) := by
  go_enter Try.func30, Try.ntmps30
  go_wp2_with ((with_reducible refine HU.out.mono ?_); rintro e w1 ⟨rfl, hb⟩; have HB1 := Lib.hid hb; clear hb)
  go_ret2
  exact ⟨rfl, HB1.out⟩
set_option maxRecDepth 1000000 in
set_option maxHeartbeats 16000000 in
theorem find_yes (L : List Lt) (b o : Nat) (A1 A2 : Option Addr) (q c n1 c1 n2 c2 : Nat) (n : Nat) (hn1 : 1 ≤ n) (hn4 : n ≤ 4) (ws : List (List Int)) (l : List Int) (F T : Nat) (hF : F = lessN L ws l n) (hT : T = lessN L ws l n + sameN L ws l n) (hL : valP L = true) (w : World) (ha : AlR w L (some ⟨b, o, none⟩) q c) (hws : WsR w ws A1 n1 c1) (hwd : WdR w l A2 n2 c2) :
    Calls Try.prog 30 #[.slice (some ⟨b, o, none⟩) q c, .slice A1 n1 c1, .slice A2 n2 c2, .int .i64 (n : Int)] w (FPost w (F, T)) := by
  have HU := Lib.hid (up_true L (some ⟨b, o, none⟩) q c n hn1 hn4 hL w ha)
  obtain ⟨b1, o1, hA1⟩ := ws_or hws
  have hm1' : c1 ≤ 9223372036854775807 := by have := hws.max; unfold maxLen at this; omega
  have hnc := hws.cap
  have hn1000 := hws.few
  have HX : Hid (AlR w L (some ⟨b, o, none⟩) q c ∧ n1 = ws.length ∧ (n1 = 0 ∨ (A1 = some ⟨b1, o1, none⟩ ∧ WsAt w b1 o1 ws)) ∧ WdR w l A2 n2 c2 ∧ L ≠ [] ∧ F = lessN L ws l n ∧ T = lessN L ws l n + sameN L ws l n) := Lib.hid ⟨ha, hws.len, hA1, hwd, val_ne hL, hF, hT⟩
  clear ha hws hwd hA1 hL hF hT
  go_enter Try.func30, Try.ntmps30
  go_wp2_with (first
    | ((with_reducible refine HU.out.mono ?_); rintro e w2 ⟨g, rfl, ht, hb⟩; have HB2 : Hid (Tab w2 (.slice (some ⟨b, o, none⟩) q c) g ∧ Below w.heap.size w w2) := Lib.hid ⟨ht, hb⟩; clear ht hb)
    | ((with_reducible refine (letters_wd (HX.out.1.below HB2.out.2) (HX.out.2.2.2.1.below HB2.out.2)).mono ?_); rintro e w3 ⟨A4, n4, c4, rfl, hw3, hb⟩; have HB3 : Hid (WdR w3 (ltr q l) A4 n4 c4 ∧ Tab w3 (.slice (some ⟨b, o, none⟩) q c) g ∧ Below w.heap.size w w3) := Lib.hid ⟨hw3, HB2.out.1.below hb, below_next HB2.out.2 hb⟩; clear hw3 hb))
  have HBY : Hid (∀ W (v : List Int) A3 n3 c3, Below w3.heap.size w3 W → WdR W (ltr q v) A3 n3 c3 → Calls Try.prog 48 #[.slice (some ⟨g, 0, none⟩) n 4, .slice A3 n3 c3, .slice A4 n4 c4] W (IPost W (cmpU L v l 0 n))) := Lib.hid fun W v A3 n3 c3 hb h3 => by_wd (HX.out.1.below (below_next HB3.out.2.2 hb)) HX.out.2.2.2.2.1 g n 4 hn4 hn4 (by unfold maxLen; omega) (HB3.out.2.1.below hb) h3 (HB3.out.1.below hb) _ rfl
  go_loopg [13, 14, 16, 30] n1 (fun gg s13 s14 s16 s30 wr => ∃ (k x y : Nat), k + gg = n1 ∧ x + y ≤ 2 * k ∧ s30 = .int .i64 (k : Int) ∧ s13 = .int .i64 (x : Int) ∧ s14 = .int .i64 ((x + y : Nat) : Int) ∧ Hid (x = lessN L (ws.take k) l n ∧ y = sameN L (ws.take k) l n ∧ Below w3.heap.size w3 wr))
  case atStart => exact ⟨0, 0, 0, by omega, by omega, rfl, rfl, rfl, Lib.hid ⟨rfl, rfl, Below.refl _ _⟩⟩
  case round =>
    obtain ⟨k, x, y, hk, hxy, rfl, rfl, rfl, HI⟩ := hrel
    by_cases hlt : k < n1
    · obtain ⟨gg, rfl⟩ : ∃ x, gk = x + 1 := ⟨gk - 1, by omega⟩
      have hkl : k < ws.length := by rw [← HX.out.2.1]; exact hlt
      obtain ⟨rfl, hat⟩ : A1 = some ⟨b1, o1, none⟩ ∧ WsAt w b1 o1 ws := by
        rcases HX.out.2.2.1 with h | h
        · omega
        · exact h
      obtain ⟨Ak, nk, ck, hck, hwk⟩ := (hat.below (below_next HB3.out.2.2 HI.out.2.2)) k hkl
      have HWK := Lib.hid hwk
      have HLO : Hid (∀ W, W = wr → Calls Try.prog 44 #[.slice (some ⟨b, o, none⟩) q c, .slice Ak nk ck] W fun e w' => ∃ A3 n3 c3, e = .returned (.slice A3 n3 c3) ∧ WdR w' (ltr q (ws.getD k [])) A3 n3 c3 ∧ Below W.heap.size W w') := Lib.hid fun W e => by subst e; exact letters_wd (HX.out.1.below (below_next HB3.out.2.2 HI.out.2.2)) HWK.out
      clear hat hwk HWK
      rcases (cmpU_cmp L n 0).rng (ws.getD k []) l with hc | hc | hc
      · have hc := hc
        have hr : (-1 : Int) = cmpU L (ws.getD k []) l 0 n := hc.symm
        clear hc
        have HS : Hid (lessN L (ws.take (k + 1)) l n = x + 1 ∧ sameN L (ws.take (k + 1)) l n = y + 0) := Lib.hid ⟨by rw [less_step hkl, ← HI.out.1, ← hr]; rfl, by rw [same_step hkl, ← HI.out.2.1, ← hr]; rfl⟩
        have HCC : Hid (∀ W A3 n3 c3, Below w3.heap.size w3 W → WdR W (ltr q (ws.getD k [])) A3 n3 c3 → Calls Try.prog 48 #[.slice (some ⟨g, 0, none⟩) n 4, .slice A3 n3 c3, .slice A4 n4 c4] W (IPost W (-1))) := Lib.hid fun W A3 n3 c3 hb h3 => by rw [hr]; exact HBY.out W (ws.getD k []) A3 n3 c3 hb h3
        clear hr
        go_wp2_with (first
          | ((with_reducible refine (HLO.out _ rfl).mono ?_); rintro e w5 ⟨A3, n3, c3, rfl, hw3, hb⟩; have HB5 : Hid (WdR w5 (ltr q (ws.getD k [])) A3 n3 c3 ∧ Below w3.heap.size w3 w5) := Lib.hid ⟨hw3, below_next HI.out.2.2 hb⟩; clear hw3 hb)
          | ((with_reducible refine (HCC.out _ _ _ _ HB5.out.2 HB5.out.1).mono ?_); rintro e w6 hp; obtain ⟨rfl, hb⟩ := i_out hp; have HB6 : Hid (Below w3.heap.size w3 w6) := Lib.hid (below_next HB5.out.2 hb); clear hp hb))
        go_roundg gg
        case rel => exact ⟨k + 1, x + 1, y + 0, by omega, by omega, by go_num, by go_num, by go_num, Lib.hid ⟨HS.out.1.symm, HS.out.2.symm, HB6.out⟩⟩
        case measure => omega
      · have hc := hc
        have hr : (0 : Int) = cmpU L (ws.getD k []) l 0 n := hc.symm
        clear hc
        have HS : Hid (lessN L (ws.take (k + 1)) l n = x + 0 ∧ sameN L (ws.take (k + 1)) l n = y + 1) := Lib.hid ⟨by rw [less_step hkl, ← HI.out.1, ← hr]; rfl, by rw [same_step hkl, ← HI.out.2.1, ← hr]; rfl⟩
        have HCC : Hid (∀ W A3 n3 c3, Below w3.heap.size w3 W → WdR W (ltr q (ws.getD k [])) A3 n3 c3 → Calls Try.prog 48 #[.slice (some ⟨g, 0, none⟩) n 4, .slice A3 n3 c3, .slice A4 n4 c4] W (IPost W (0))) := Lib.hid fun W A3 n3 c3 hb h3 => by rw [hr]; exact HBY.out W (ws.getD k []) A3 n3 c3 hb h3
        clear hr
        go_wp2_with (first
          | ((with_reducible refine (HLO.out _ rfl).mono ?_); rintro e w5 ⟨A3, n3, c3, rfl, hw3, hb⟩; have HB5 : Hid (WdR w5 (ltr q (ws.getD k [])) A3 n3 c3 ∧ Below w3.heap.size w3 w5) := Lib.hid ⟨hw3, below_next HI.out.2.2 hb⟩; clear hw3 hb)
          | ((with_reducible refine (HCC.out _ _ _ _ HB5.out.2 HB5.out.1).mono ?_); rintro e w6 hp; obtain ⟨rfl, hb⟩ := i_out hp; have HB6 : Hid (Below w3.heap.size w3 w6) := Lib.hid (below_next HB5.out.2 hb); clear hp hb))
        go_roundg gg
        case rel => exact ⟨k + 1, x + 0, y + 1, by omega, by omega, by go_num, by go_num, by go_num, Lib.hid ⟨HS.out.1.symm, HS.out.2.symm, HB6.out⟩⟩
        case measure => omega
      · have hc := hc
        have hr : (1 : Int) = cmpU L (ws.getD k []) l 0 n := hc.symm
        clear hc
        have HS : Hid (lessN L (ws.take (k + 1)) l n = x + 0 ∧ sameN L (ws.take (k + 1)) l n = y + 0) := Lib.hid ⟨by rw [less_step hkl, ← HI.out.1, ← hr]; rfl, by rw [same_step hkl, ← HI.out.2.1, ← hr]; rfl⟩
        have HCC : Hid (∀ W A3 n3 c3, Below w3.heap.size w3 W → WdR W (ltr q (ws.getD k [])) A3 n3 c3 → Calls Try.prog 48 #[.slice (some ⟨g, 0, none⟩) n 4, .slice A3 n3 c3, .slice A4 n4 c4] W (IPost W (1))) := Lib.hid fun W A3 n3 c3 hb h3 => by rw [hr]; exact HBY.out W (ws.getD k []) A3 n3 c3 hb h3
        clear hr
        go_wp2_with (first
          | ((with_reducible refine (HLO.out _ rfl).mono ?_); rintro e w5 ⟨A3, n3, c3, rfl, hw3, hb⟩; have HB5 : Hid (WdR w5 (ltr q (ws.getD k [])) A3 n3 c3 ∧ Below w3.heap.size w3 w5) := Lib.hid ⟨hw3, below_next HI.out.2.2 hb⟩; clear hw3 hb)
          | ((with_reducible refine (HCC.out _ _ _ _ HB5.out.2 HB5.out.1).mono ?_); rintro e w6 hp; obtain ⟨rfl, hb⟩ := i_out hp; have HB6 : Hid (Below w3.heap.size w3 w6) := Lib.hid (below_next HB5.out.2 hb); clear hp hb))
        go_roundg gg
        case rel => exact ⟨k + 1, x + 0, y + 0, by omega, by omega, by go_num, by go_num, by go_num, Lib.hid ⟨HS.out.1.symm, HS.out.2.symm, HB6.out⟩⟩
        case measure => omega
    · obtain rfl : k = n1 := by omega
      have HE : Hid (x = F ∧ x + y = T) := Lib.hid (by
        obtain ⟨e1, e2, e3⟩ := HI.out
        rw [HX.out.2.1, List.take_length] at e1 e2
        exact ⟨by rw [e1, HX.out.2.2.2.2.2.1], by rw [e1, e2, HX.out.2.2.2.2.2.2]⟩)
      go_wp2_with fail
      go_ret2
      refine ⟨?_, below_next HB3.out.2.2 HI.out.2.2⟩
      rw [← HE.out.1, ← HE.out.2]
      first | rfl | simp
theorem find_any (L : List Lt) (A A1 A2 : Option Addr) (q c n1 c1 n2 c2 : Nat) (n : Int) (ws : List (List Int)) (l : List Int) (p : Nat × Nat) (hp : p = findP L ws l n) (w : World) (ha : AlR w L A q c) (hws : WsR w ws A1 n1 c1) (hwd : WdR w l A2 n2 c2) :
    Calls Try.prog 30 #[.slice A q c, .slice A1 n1 c1, .slice A2 n2 c2, .int .i64 n] w (FPost w p) := by
  subst hp
  unfold findP
  cases hok : okN L n
  · rw [if_neg (by simp)]
    have hno : ¬ (valP L = true ∧ 1 ≤ n ∧ n ≤ 4) := by unfold okN at hok; simpa using hok
    by_cases hlo : n < 1
    · exact find_no A A1 A2 q c n1 c1 n2 c2 n w (Lib.hid (up_lo A q c n hlo w))
    · by_cases hhi : 4 < n
      · exact find_no A A1 A2 q c n1 c1 n2 c2 n w (Lib.hid (up_hi A q c n hhi w))
      · obtain ⟨m, rfl⟩ : ∃ m : Nat, n = m := ⟨n.toNat, by omega⟩
        have hL : valP L = false := by
          cases h : valP L
          · rfl
          · exact absurd ⟨h, by omega, by omega⟩ hno
        exact find_no A A1 A2 q c n1 c1 n2 c2 m w (Lib.hid (up_false L A q c m (by omega) (by omega) hL w ha))
  · rw [if_pos rfl]
    have hyes : valP L = true ∧ 1 ≤ n ∧ n ≤ 4 := by unfold okN at hok; simpa using hok
    obtain ⟨m, rfl⟩ : ∃ m : Nat, n = m := ⟨n.toNat, by omega⟩
    obtain ⟨b, o, rfl⟩ := al_open ha (val_ne hyes.1)
    rw [Int.toNat_natCast]
    exact find_yes L b o A1 A2 q c n1 c1 n2 c2 m (by omega) (by omega) ws l _ _ rfl rfl hyes.1 w ha hws hwd
set_option maxRecDepth 1000000 in
set_option maxHeartbeats 8000000 in
theorem rfind_inv (L : List Lt) (A A1 A2 : Option Addr) (q c n1 c1 n2 c2 : Nat) (n : Int) (hV : valP L = false) (w : World) (ha : AlR w L A q c) :
    Calls Try.prog 31 #[.slice A q c, .slice A1 n1 c1, .slice A2 n2 c2, .int .i64 n] w (FPost w (0, 0)) := by
  have HV : Hid (Calls Try.prog 46 #[.slice A q c] w (BoolB w false)) := Lib.hid (rvalid_of ha false hV.symm)
  clear hV ha
  go_enter Try.func31, Try.ntmps31
  go_wp2_with ((with_reducible refine HV.out.mono ?_); rintro e w1 hp; obtain ⟨rfl, hb1⟩ := boolb_out hp; have HB1 : Hid (Below w.heap.size w w1) := Lib.hid hb1; clear hp hb1)
  go_ret2
  exact ⟨rfl, HB1.out⟩
set_option maxRecDepth 1000000 in
set_option maxHeartbeats 8000000 in
theorem rfind_lo (L : List Lt) (A A1 A2 : Option Addr) (q c n1 c1 n2 c2 : Nat) (n : Int) (hV : valP L = true) (hn : n < 1) (w : World) (ha : AlR w L A q c) :
    Calls Try.prog 31 #[.slice A q c, .slice A1 n1 c1, .slice A2 n2 c2, .int .i64 n] w (FPost w (0, 0)) := by
  have HV : Hid (Calls Try.prog 46 #[.slice A q c] w (BoolB w true)) := Lib.hid (rvalid_of ha true hV.symm)
  have d1 : decide (n < 1) = true := decide_eq_true hn
  clear hV ha
  go_enter Try.func31, Try.ntmps31
  go_wp2_with ((with_reducible refine HV.out.mono ?_); rintro e w1 hp; obtain ⟨rfl, hb1⟩ := boolb_out hp; have HB1 : Hid (Below w.heap.size w w1) := Lib.hid hb1; clear hp hb1)
  go_ret2
  exact ⟨rfl, HB1.out⟩
set_option maxRecDepth 1000000 in
set_option maxHeartbeats 8000000 in
theorem rfind_hi (L : List Lt) (A A1 A2 : Option Addr) (q c n1 c1 n2 c2 : Nat) (n : Int) (hV : valP L = true) (hn : 4 < n) (w : World) (ha : AlR w L A q c) :
    Calls Try.prog 31 #[.slice A q c, .slice A1 n1 c1, .slice A2 n2 c2, .int .i64 n] w (FPost w (0, 0)) := by
  have HV : Hid (Calls Try.prog 46 #[.slice A q c] w (BoolB w true)) := Lib.hid (rvalid_of ha true hV.symm)
  have d1 : decide (n < 1) = false := decide_eq_false (by omega)
  have d2 : decide (4 < n) = true := decide_eq_true hn
  clear hV ha
  go_enter Try.func31, Try.ntmps31
  go_wp2_with ((with_reducible refine HV.out.mono ?_); rintro e w1 hp; obtain ⟨rfl, hb1⟩ := boolb_out hp; have HB1 : Hid (Below w.heap.size w w1) := Lib.hid hb1; clear hp hb1)
  go_ret2
  exact ⟨rfl, HB1.out⟩
set_option maxRecDepth 1000000 in
set_option maxHeartbeats 16000000 in
theorem rfind_yes (L : List Lt) (A A1 A2 : Option Addr) (q c n1 c1 n2 c2 : Nat) (n : Nat) (hn1 : 1 ≤ n) (hn4 : n ≤ 4) (ws : List (List Int)) (l : List Int) (F T : Nat) (hF : F = lessN L ws l n) (hT : T = lessN L ws l n + sameN L ws l n) (hL : valP L = true) (w : World) (ha : AlR w L A q c) (hws : WsR w ws A1 n1 c1) (hwd : WdR w l A2 n2 c2) :
    Calls Try.prog 31 #[.slice A q c, .slice A1 n1 c1, .slice A2 n2 c2, .int .i64 (n : Int)] w (FPost w (F, T)) := by
  have HV : Hid (Calls Try.prog 46 #[.slice A q c] w (BoolB w true)) := Lib.hid (rvalid_of ha true hL.symm)
  obtain ⟨b1, o1, hA1⟩ := ws_or hws
  have hm1' : c1 ≤ 9223372036854775807 := by have := hws.max; unfold maxLen at this; omega
  have hnc := hws.cap
  have hn1000 := hws.few
  have HX : Hid (AlR w L A q c ∧ n1 = ws.length ∧ (n1 = 0 ∨ (A1 = some ⟨b1, o1, none⟩ ∧ WsAt w b1 o1 ws)) ∧ WdR w l A2 n2 c2 ∧ F = lessN L ws l n ∧ T = lessN L ws l n + sameN L ws l n) := Lib.hid ⟨ha, hws.len, hA1, hwd, hF, hT⟩
  have d1 : decide ((n : Int) < 1) = false := decide_eq_false (by omega)
  have d2 : decide (4 < (n : Int)) = false := decide_eq_false (by omega)
  have d3 : decide (n < 1) = false := decide_eq_false (by omega)
  have d4 : decide (4 < n) = false := decide_eq_false (by omega)
  clear ha hws hwd hA1 hL hF hT
  go_enter Try.func31, Try.ntmps31
  go_wp2_with ((with_reducible refine HV.out.mono ?_); rintro e w1 hp; obtain ⟨rfl, hb1⟩ := boolb_out hp; have HB1 : Hid (Below w.heap.size w w1) := Lib.hid hb1; clear hp hb1)
  go_loopg [10, 11, 12, 13] n1 (fun gg s10 s11 s12 s13 wr => ∃ (k x y : Nat), k + gg = n1 ∧ x + y ≤ 2 * k ∧ s12 = .int .i64 (k : Int) ∧ s10 = .int .i64 (x : Int) ∧ s11 = .int .i64 (y : Int) ∧ Hid (x = lessN L (ws.take k) l n ∧ y = sameN L (ws.take k) l n ∧ Below w.heap.size w wr))
  case atStart => exact ⟨0, 0, 0, by omega, by omega, rfl, rfl, rfl, Lib.hid ⟨rfl, rfl, HB1.out⟩⟩
  case round =>
    obtain ⟨k, x, y, hk, hxy, rfl, rfl, rfl, HI⟩ := hrel
    by_cases hlt : k < n1
    · obtain ⟨gg, rfl⟩ : ∃ x, gk = x + 1 := ⟨gk - 1, by omega⟩
      have hkl : k < ws.length := by rw [← HX.out.2.1]; exact hlt
      obtain ⟨rfl, hat⟩ : A1 = some ⟨b1, o1, none⟩ ∧ WsAt w b1 o1 ws := by
        rcases HX.out.2.2.1 with h | h
        · omega
        · exact h
      obtain ⟨Ak, nk, ck, hck, hwk⟩ := (hat.below HI.out.2.2) k hkl
      have HUU : Calls Try.prog 49 #[.slice A q c, .slice Ak nk ck, .slice A2 n2 c2, .int .i64 (n : Int)] wr (IPost wr (cmpU L (ws.getD k []) l 0 n)) := upto_any L A Ak A2 q c nk ck n2 c2 n hn4 _ _ _ rfl wr (HX.out.1.below HI.out.2.2) hwk (HX.out.2.2.2.1.below HI.out.2.2)
      clear hat hwk
      rcases (cmpU_cmp L n 0).rng (ws.getD k []) l with hc | hc | hc
      · have hc := hc
        have hr : (-1 : Int) = cmpU L (ws.getD k []) l 0 n := hc.symm
        clear hc
        have HS : Hid (lessN L (ws.take (k + 1)) l n = x + 1 ∧ sameN L (ws.take (k + 1)) l n = y + 0) := Lib.hid ⟨by rw [less_step hkl, ← HI.out.1, ← hr]; rfl, by rw [same_step hkl, ← HI.out.2.1, ← hr]; rfl⟩
        have HCC : Hid (Calls Try.prog 49 #[.slice A q c, .slice Ak nk ck, .slice A2 n2 c2, .int .i64 (n : Int)] wr (IPost wr (-1))) := Lib.hid (by rw [hr]; exact HUU)
        clear hr HUU
        go_wp2_with ((with_reducible refine HCC.out.mono ?_); rintro e w6 hp; obtain ⟨rfl, hb⟩ := i_out hp; have HB6 : Hid (Below w.heap.size w w6) := Lib.hid (below_next HI.out.2.2 hb); clear hp hb)
        go_roundg gg
        case rel => exact ⟨k + 1, x + 1, y + 0, by omega, by omega, by go_num, by go_num, by go_num, Lib.hid ⟨HS.out.1.symm, HS.out.2.symm, HB6.out⟩⟩
        case measure => omega
      · have hc := hc
        have hr : (0 : Int) = cmpU L (ws.getD k []) l 0 n := hc.symm
        clear hc
        have HS : Hid (lessN L (ws.take (k + 1)) l n = x + 0 ∧ sameN L (ws.take (k + 1)) l n = y + 1) := Lib.hid ⟨by rw [less_step hkl, ← HI.out.1, ← hr]; rfl, by rw [same_step hkl, ← HI.out.2.1, ← hr]; rfl⟩
        have HCC : Hid (Calls Try.prog 49 #[.slice A q c, .slice Ak nk ck, .slice A2 n2 c2, .int .i64 (n : Int)] wr (IPost wr (0))) := Lib.hid (by rw [hr]; exact HUU)
        clear hr HUU
        go_wp2_with ((with_reducible refine HCC.out.mono ?_); rintro e w6 hp; obtain ⟨rfl, hb⟩ := i_out hp; have HB6 : Hid (Below w.heap.size w w6) := Lib.hid (below_next HI.out.2.2 hb); clear hp hb)
        go_roundg gg
        case rel => exact ⟨k + 1, x + 0, y + 1, by omega, by omega, by go_num, by go_num, by go_num, Lib.hid ⟨HS.out.1.symm, HS.out.2.symm, HB6.out⟩⟩
        case measure => omega
      · have hc := hc
        have hr : (1 : Int) = cmpU L (ws.getD k []) l 0 n := hc.symm
        clear hc
        have HS : Hid (lessN L (ws.take (k + 1)) l n = x + 0 ∧ sameN L (ws.take (k + 1)) l n = y + 0) := Lib.hid ⟨by rw [less_step hkl, ← HI.out.1, ← hr]; rfl, by rw [same_step hkl, ← HI.out.2.1, ← hr]; rfl⟩
        have HCC : Hid (Calls Try.prog 49 #[.slice A q c, .slice Ak nk ck, .slice A2 n2 c2, .int .i64 (n : Int)] wr (IPost wr (1))) := Lib.hid (by rw [hr]; exact HUU)
        clear hr HUU
        go_wp2_with ((with_reducible refine HCC.out.mono ?_); rintro e w6 hp; obtain ⟨rfl, hb⟩ := i_out hp; have HB6 : Hid (Below w.heap.size w w6) := Lib.hid (below_next HI.out.2.2 hb); clear hp hb)
        go_roundg gg
        case rel => exact ⟨k + 1, x + 0, y + 0, by omega, by omega, by go_num, by go_num, by go_num, Lib.hid ⟨HS.out.1.symm, HS.out.2.symm, HB6.out⟩⟩
        case measure => omega
    · obtain rfl : k = n1 := by omega
      have HE : Hid (x = F ∧ x + y = T) := Lib.hid (by
        obtain ⟨e1, e2, e3⟩ := HI.out
        rw [HX.out.2.1, List.take_length] at e1 e2
        exact ⟨by rw [e1, HX.out.2.2.2.2.1], by rw [e1, e2, HX.out.2.2.2.2.2]⟩)
      go_wp2_with fail
      go_ret2
      refine ⟨?_, HI.out.2.2⟩
      rw [← HE.out.1, ← HE.out.2]
      first | rfl | simp
theorem rfind_any (L : List Lt) (A A1 A2 : Option Addr) (q c n1 c1 n2 c2 : Nat) (n : Int) (ws : List (List Int)) (l : List Int) (p : Nat × Nat) (hp : p = findP L ws l n) (w : World) (ha : AlR w L A q c) (hws : WsR w ws A1 n1 c1) (hwd : WdR w l A2 n2 c2) :
    Calls Try.prog 31 #[.slice A q c, .slice A1 n1 c1, .slice A2 n2 c2, .int .i64 n] w (FPost w p) := by
  subst hp
  unfold findP
  cases hok : okN L n
  · rw [if_neg (by simp)]
    have hno : ¬ (valP L = true ∧ 1 ≤ n ∧ n ≤ 4) := by unfold okN at hok; simpa using hok
    cases hL : valP L
    · exact rfind_inv L A A1 A2 q c n1 c1 n2 c2 n hL w ha
    · by_cases hlo : n < 1
      · exact rfind_lo L A A1 A2 q c n1 c1 n2 c2 n hL hlo w ha
      · exact rfind_hi L A A1 A2 q c n1 c1 n2 c2 n hL (by by_cases h : 4 < n; exact h; exact absurd ⟨hL, by omega, by omega⟩ hno) w ha
  · rw [if_pos rfl]
    have hyes : valP L = true ∧ 1 ≤ n ∧ n ≤ 4 := by unfold okN at hok; simpa using hok
    obtain ⟨m, rfl⟩ : ∃ m : Nat, n = m := ⟨n.toNat, by omega⟩
    rw [Int.toNat_natCast]
    exact rfind_yes L A A1 A2 q c n1 c1 n2 c2 m (by omega) (by omega) ws l _ _ rfl rfl hyes.1 w ha hws hwd
end Go.Proofs.Ytalladdmedmfeaa
