/-
  WireTruncated: for every integer, every string and every list of integers, strings and digests the law returns true, and nothing that was there has turned. No condition.
-/
import Derived.Test.YtelkekicceoaoaaWL6
import Derived.Test.YtelkekicceoaoaaWBig
import Derived.Deep.LoopGhost
namespace Go.Proofs.Ytelkekicceoaoaa
open Go.ChangeShapes Go.WideShapes Go.ChangeAt Go.RowKit Go.ChangeMaps
set_option linter.unusedVariables false
namespace L7s

theorem rd_take {w : World} {A : Option Addr} {l : List UInt8} (h : Rd w A (bs l)) (i : Nat) : Rd w A (bs (l.take i)) := by
  rcases h with h | ⟨b, o, e, hc⟩
  · have hl : l = [] := by simpa [bs] using h
    subst hl
    exact .inl (by rw [List.take_nil]; rfl)
  · refine .inr ⟨b, o, e, fun k v hv => hc k v ?_⟩
    rw [← bs_take, List.getElem?_take] at hv
    split at hv
    · exact hv
    · cases hv

/-! ## a decoder on a proper prefix -/
theorem cut_int (E : List UInt8) (i : Nat) (A : Option Addr) (c : Nat) (w : World) (hi : i ≤ E.length) (hc : E.length ≤ c) (hm : c ≤ maxLen) (h : (gI (E.take i)).2.2 = 3) (hr : Rd w A (bs E)) :
    Calls Try.prog 24 #[.slice A i c] w fun e w' => ∃ v u, e = .returned (.tuple #[v, .int .i64 u, .int .i64 3]) ∧ Below w.heap.size w w' := by
  have h1 := getInt_any (E.take i) A c w (by rw [List.length_take]; omega) hm (rd_take hr i)
  rw [show (E.take i).length = i from by rw [List.length_take]; omega] at h1
  exact h1.mono fun e w' ⟨he, hw⟩ => ⟨.int .i64 (gI (E.take i)).1, ((gI (E.take i)).2.1 : Int), by rw [he]; unfold ret3; rw [h], by subst hw; exact Below.refl _ _⟩
theorem cut_bytes (E : List UInt8) (i : Nat) (A : Option Addr) (c : Nat) (w : World) (hi : i ≤ E.length) (hc : E.length ≤ c) (hm : c ≤ maxLen) (h : (gB3 (E.take i)).2.2 = 3) (hr : Rd w A (bs E)) :
    Calls Try.prog 26 #[.slice A i c] w fun e w' => ∃ v u, e = .returned (.tuple #[v, .int .i64 u, .int .i64 3]) ∧ Below w.heap.size w w' := by
  have h1 := getBytes_any (E.take i) A c w (by rw [List.length_take]; omega) hm (rd_take hr i)
  rw [show (E.take i).length = i from by rw [List.length_take]; omega] at h1
  exact h1.mono fun e w' ⟨he, hw⟩ => ⟨.string ⟨(gB3 (E.take i)).1.toArray⟩, ((gB3 (E.take i)).2.1 : Int), by rw [he]; unfold retS; rw [h], by subst hw; exact Below.refl _ _⟩
theorem cut_list {f : FuncId} {args : Array Value} {w : World} {t : TypeId} {size : Nat} {res : Nat × Int} {cells : List (List Value)} (h : Calls Try.prog f args w (PostL w t size res cells)) (h3 : res.2 = 3) :
    Calls Try.prog f args w fun e w' => ∃ v u, e = .returned (.tuple #[v, .int .i64 u, .int .i64 3]) ∧ Below w.heap.size w w' :=
  h.mono fun e w' ⟨v, he, hb, _, _⟩ => ⟨v, (res.1 : Int), by rw [he, h3], hb⟩

theorem cut_getI (E : List UInt8) (i : Nat) (A : Option Addr) (c : Nat) (w : World) (hi : i ≤ E.length) (hc : E.length ≤ c) (hm : c ≤ maxLen) (hl : E.length ≤ 1099511627776) (h : (gList elI (E.take i) 1).2 = 3) (hr : Rd w A (bs E)) :
    Calls Try.prog 28 #[.slice A i c] w fun e w' => ∃ v u, e = .returned (.tuple #[v, .int .i64 u, .int .i64 3]) ∧ Below w.heap.size w w' := by
  have h1 := getI_any (E.take i) A c w (by rw [List.length_take]; omega) (by rw [List.length_take]; omega) hm (rd_take hr i)
  rw [show (E.take i).length = i from by rw [List.length_take]; omega] at h1
  exact cut_list h1 h

theorem cut_getS (E : List UInt8) (i : Nat) (A : Option Addr) (c : Nat) (w : World) (hi : i ≤ E.length) (hc : E.length ≤ c) (hm : c ≤ maxLen) (hl : E.length ≤ 1099511627776) (h : (gList elS (E.take i) 1).2 = 3) (hr : Rd w A (bs E)) :
    Calls Try.prog 31 #[.slice A i c] w fun e w' => ∃ v u, e = .returned (.tuple #[v, .int .i64 u, .int .i64 3]) ∧ Below w.heap.size w w' := by
  have h1 := getS_any (E.take i) A c w (by rw [List.length_take]; omega) (by rw [List.length_take]; omega) hm (rd_take hr i)
  rw [show (E.take i).length = i from by rw [List.length_take]; omega] at h1
  exact cut_list h1 h

theorem cut_getD (E : List UInt8) (i : Nat) (A : Option Addr) (c : Nat) (w : World) (hi : i ≤ E.length) (hc : E.length ≤ c) (hm : c ≤ maxLen) (hl : E.length ≤ 1099511627776) (h : (gList elD (E.take i) 16).2 = 3) (hr : Rd w A (bs E)) :
    Calls Try.prog 34 #[.slice A i c] w fun e w' => ∃ v u, e = .returned (.tuple #[v, .int .i64 u, .int .i64 3]) ∧ Below w.heap.size w w' := by
  have h1 := getD_any (E.take i) A c w (by rw [List.length_take]; omega) (by rw [List.length_take]; omega) hm (rd_take hr i)
  rw [show (E.take i).length = i from by rw [List.length_take]; omega] at h1
  exact cut_list h1 h

set_option maxRecDepth 100000 in
set_option maxHeartbeats 4000000 in
theorem walk (n : Int) (s : ByteArray) (Al : Option Addr) (l : List Int) (cl : Nat) (Ax : Option Addr) (x : List ByteArray) (cx : Nat) (Ad : Option Addr) (d : List (List UInt8)) (cd : Nat) (w : World)
    (hn : inI n) (hs : s.size ≤ 140737488355328) (hl : l.length ≤ 17592186044416) (hxl : x.length ≤ 17592186044416) (hxb : x.length ≤ 40 → tot x ≤ 9007199254740992) (hd : d.length ≤ 17592186044416)
    (hi : ∀ n ∈ l, inI n) (h16 : ∀ y ∈ d, y.length = 16) (hrl : Rd w Al (l.map (Value.int .i64))) (hrx : Rd w Ax (x.map Value.string)) (hrd : Rd w Ad (bs d.flatten)) :
    Calls Try.prog 9 #[.int .i64 n, .string s, .slice Al l.length cl, .slice Ax x.length cx, .slice Ad d.length cd] w (San w) := by
  have HXB := Lib.hid hxb; clear hxb
  have HN := Lib.hid hn; clear hn
  have HI := Lib.hid hi; clear hi
  have H16 := Lib.hid h16; clear h16
  have RL := Lib.hid hrl; clear hrl
  have RX := Lib.hid hrx; clear hrx
  have RD := Lib.hid hrd; clear hrd
  go_enter Try.func9, Try.ntmps9
  by_cases hbig : 400 < s.size + 9 * l.length + 16 * d.length
  · go_wp2_with fail
    refine (sanity_any w).mono ?_
    rintro e w1 ⟨rfl, hb⟩
    go_wp2_with fail
    go_ret
    exact ⟨rfl, hb⟩
  by_cases h40 : 40 < x.length
  · go_wp2_with fail
    refine (sanity_any w).mono ?_
    rintro e w1 ⟨rfl, hb⟩
    go_wp2_with fail
    go_ret
    exact ⟨rfl, hb⟩
  by_cases hfew : (tot x : Int) ≤ 2000
  case neg =>
    have HF := Lib.hid hfew
    clear hfew
    go_wp2_with fail
    refine (few_big x Ax cx w (HXB.out (by omega)) RX.out).mono ?_
    rintro e w1 ⟨rfl, rfl⟩
    rw [decide_eq_false (by have := HF.out; omega)]
    go_wp2_with fail
    refine (sanity_any w).mono ?_
    rintro e w1 ⟨rfl, hb⟩
    go_wp2_with fail
    go_ret
    exact ⟨rfl, hb⟩
  have HF := Lib.hid hfew
  clear hfew
  have hb0 := Below.refl w.heap.size w
  have HX : Hid (tot x ≤ 2000) := by have := HF.out; show _ ≤ _; omega
  go_wp2_with fail
  refine (few_big x Ax cx w (HXB.out (by omega)) RX.out).mono ?_
  rintro e w1 ⟨rfl, rfl⟩
  rw [decide_eq_true HF.out]
  go_wp2_with fail
  refine (st_own (w := w) (int_any n HN.out w) _ rfl (Below.refl _ _)).mono ?_
  rintro e w1 ⟨Bn, dn, rfl, hn, hn1⟩
  have Qn := Lib.hid hn.1
  have hcn := hn.2.1
  have HMn := Lib.hid hn.2.2
  have hmn : dn ≤ 9223372036854775807 := by have := hn.2.2; unfold maxLen at this; omega
  clear hn
  obtain ⟨En, hEn⟩ : ∃ E, E = en n := ⟨_, rfl⟩
  have hlenn : En.length ≤ 20000000 := by rw [hEn]; have := en_len9 n; omega
  rw [← hEn] at Qn hcn ⊢
  have EEn := Lib.hid hEn
  clear hEn
  have RL := Lib.hid (RL.out.below hn1)
  have RX := Lib.hid (RX.out.below hn1)
  have RD := Lib.hid (RD.out.below hn1)
  have hb1 := below_next hb0 hn1
  clear hn1 hb0
  go_wp2_with fail
  refine (st_own (w := w1) (bytes_any s w1 (by omega)) _ rfl (Below.refl _ _)).mono ?_
  rintro e w2 ⟨Bs, ds, rfl, hs, hn2⟩
  have Qs := Lib.hid hs.1
  have hcs := hs.2.1
  have HMs := Lib.hid hs.2.2
  have hms : ds ≤ 9223372036854775807 := by have := hs.2.2; unfold maxLen at this; omega
  clear hs
  obtain ⟨Es, hEs⟩ : ∃ E, E = eB s.data.toList := ⟨_, rfl⟩
  have hlens : Es.length ≤ 20000000 := by rw [hEs]; have := eB_len s.data.toList; have : s.data.toList.length = s.size := rfl; omega
  rw [← hEs] at Qs hcs ⊢
  have EEs := Lib.hid hEs
  clear hEs
  have RL := Lib.hid (RL.out.below hn2)
  have RX := Lib.hid (RX.out.below hn2)
  have RD := Lib.hid (RD.out.below hn2)
  have Qn := Lib.hid (Qn.out.below hn2)
  have hb2 := below_next hb1 hn2
  clear hn2 hb1
  go_wp2_with fail
  refine (st_own (w := w2) (ints_any l Al cl w2 (by omega) HI.out RL.out) _ rfl (Below.refl _ _)).mono ?_
  rintro e w3 ⟨Bl, dl, rfl, hl, hn3⟩
  have Ql := Lib.hid hl.1
  have hcl := hl.2.1
  have HMl := Lib.hid hl.2.2
  have hml : dl ≤ 9223372036854775807 := by have := hl.2.2; unfold maxLen at this; omega
  clear hl
  obtain ⟨El, hEl⟩ : ∃ E, E = eL l := ⟨_, rfl⟩
  have hlenl : El.length ≤ 20000000 := by rw [hEl]; have := L6.eL_len l; omega
  rw [← hEl] at Ql hcl ⊢
  have EEl := Lib.hid hEl
  clear hEl
  have RL := Lib.hid (RL.out.below hn3)
  have RX := Lib.hid (RX.out.below hn3)
  have RD := Lib.hid (RD.out.below hn3)
  have Qn := Lib.hid (Qn.out.below hn3)
  have Qs := Lib.hid (Qs.out.below hn3)
  have hb3 := below_next hb2 hn3
  clear hn3 hb2
  go_wp2_with fail
  refine (st_own (w := w3) (strings_any x Ax cx w3 (by omega) (by have := HX.out; unfold tot at this; omega) RX.out) _ rfl (Below.refl _ _)).mono ?_
  rintro e w4 ⟨Bx, dx, rfl, hx, hn4⟩
  have Qx := Lib.hid hx.1
  have hcx := hx.2.1
  have HMx := Lib.hid hx.2.2
  have hmx : dx ≤ 9223372036854775807 := by have := hx.2.2; unfold maxLen at this; omega
  clear hx
  obtain ⟨Ex, hEx⟩ : ∃ E, E = eS (lists x) := ⟨_, rfl⟩
  have hlenx : Ex.length ≤ 20000000 := by rw [hEx]; have := L6.eS_len (lists x); have h3 : (lists x).length = x.length := (by simp [lists]); have h4 := HX.out; unfold tot at h4; omega
  rw [← hEx] at Qx hcx ⊢
  have EEx := Lib.hid hEx
  clear hEx
  have RL := Lib.hid (RL.out.below hn4)
  have RX := Lib.hid (RX.out.below hn4)
  have RD := Lib.hid (RD.out.below hn4)
  have Qn := Lib.hid (Qn.out.below hn4)
  have Qs := Lib.hid (Qs.out.below hn4)
  have Ql := Lib.hid (Ql.out.below hn4)
  have hb4 := below_next hb3 hn4
  clear hn4 hb3
  go_wp2_with fail
  refine (st_own (w := w4) (digests_any d Ad cd w4 (by omega) H16.out RD.out) _ rfl (Below.refl _ _)).mono ?_
  rintro e w5 ⟨Bd, dd, rfl, hd, hn5⟩
  have Qd := Lib.hid hd.1
  have hcd := hd.2.1
  have HMd := Lib.hid hd.2.2
  have hmd : dd ≤ 9223372036854775807 := by have := hd.2.2; unfold maxLen at this; omega
  clear hd
  obtain ⟨Ed, hEd⟩ : ∃ E, E = eD d := ⟨_, rfl⟩
  have hlend : Ed.length ≤ 20000000 := by rw [hEd]; have := L6.eD_len d H16.out; omega
  rw [← hEd] at Qd hcd ⊢
  have EEd := Lib.hid hEd
  clear hEd
  have RL := Lib.hid (RL.out.below hn5)
  have RX := Lib.hid (RX.out.below hn5)
  have RD := Lib.hid (RD.out.below hn5)
  have Qn := Lib.hid (Qn.out.below hn5)
  have Qs := Lib.hid (Qs.out.below hn5)
  have Ql := Lib.hid (Ql.out.below hn5)
  have Qx := Lib.hid (Qx.out.below hn5)
  have hb5 := below_next hb4 hn5
  clear hn5 hb4
  obtain ⟨W, hW⟩ : ∃ W, W = w5.alloc (.cells #[.slice Bn En.length dn, .slice Bs Es.length ds, .slice Bl El.length dl, .slice Bx Ex.length dx, .slice Bd Ed.length dd] 28) := ⟨_, rfl⟩
  have hbW : Below w5.heap.size w5 W := by rw [hW]; exact below_a1 _ _
  have hcells : ∀ j v, #[Value.slice Bn En.length dn, .slice Bs Es.length ds, .slice Bl El.length dl, .slice Bx Ex.length dx, .slice Bd Ed.length dd][j]? = some v → W.cell? ⟨w5.heap.size, j, none⟩ = some v := fun j v hv => by
    rw [hW, cell_of_row _ w5.heap.size j _ _ _ (heap_alloc_new w5 _)]; exact hv
  have C0 := Lib.hid (hcells 0 _ rfl)
  have C1 := Lib.hid (hcells 1 _ rfl)
  have C2 := Lib.hid (hcells 2 _ rfl)
  have C3 := Lib.hid (hcells 3 _ rfl)
  have C4 := Lib.hid (hcells 4 _ rfl)
  have hbW' := below_next hb5 hbW
  have Qn := Lib.hid (Qn.out.below hbW)
  have Qs := Lib.hid (Qs.out.below hbW)
  have Ql := Lib.hid (Ql.out.below hbW)
  have Qx := Lib.hid (Qx.out.below hbW)
  have Qd := Lib.hid (Qd.out.below hbW)
  clear hcells
  go_wp2_with fail
  rw [← hW]
  clear hW hbW hb5 RL RX RD
  go_loopg [49] 5 (fun g s49 wr => ∃ j : Nat, j + g = 5 ∧ s49 = .int .i64 j ∧ Below W.heap.size W wr)
  case atStart => exact ⟨0, rfl, rfl, Below.refl _ _⟩
  case round =>
    obtain ⟨j, hj, rfl, hbr⟩ := hrel
    obtain ⟨wo, rfl⟩ : ∃ wo : World, wo = wr := ⟨_, rfl⟩
    cases gk with
    | zero =>
      obtain rfl : j = 5 := by omega
      go_wp2_with fail
      refine (sanity_any _).mono ?_
      rintro e wz ⟨rfl, hbz⟩
      have hbf := below_next hbW' (below_next hbr hbz)
      go_wp2_with fail
      go_ret
      exact ⟨rfl, hbf⟩
    | succ g =>
      have hj5 : j = 0 ∨ j = 1 ∨ j = 2 ∨ j = 3 ∨ j = 4 := by omega
      rcases hj5 with rfl | rfl | rfl | rfl | rfl
      · have hcell := (hbr.cell (p := ⟨w5.heap.size, 0, none⟩) (World.block_lt_of_cell? W _ C0.out)).trans C0.out
        have hgj : g = 4 := by omega
        have HG := Lib.hid hgj
        clear hgj hj
        rcases Nat.lt_or_ge 500 En.length with hmin | hmin
        · go_wp2_with fail
          go_loopg [57] 500 (fun g2 s57 wr => ∃ i : Nat, i + g2 = 500 ∧ s57 = .int .i64 i ∧ Below W.heap.size W wr)
          case atStart => exact ⟨0, by omega, rfl, hbr⟩
          case round =>
            obtain ⟨i, hi2, rfl, hbi⟩ := hrel
            cases gk with
            | zero =>
              have hlt : ¬ (i < 500) := by omega
              go_wp2_with fail
              go_roundg g
              case measure => omega
              case rel => exact ⟨1, by have := HG.out; omega, rfl, hbi⟩
            | succ g2 =>
              have hlt : i < 500 := by omega
              have hiE : i < En.length := by omega
              have HIE := Lib.hid hiE
              go_wp2_with fail
              refine (cut_int En i Bn dn _ (by omega) hcn HMn.out (by rw [EEn.out]; exact gI_cut n i (by rw [← EEn.out]; exact HIE.out)) (Qn.out.below hbi)).mono ?_
              rintro e wz ⟨v, u, rfl, hbz⟩
              have hbf := below_next hbi hbz
              go_wp2_with fail
              go_roundg g2
              case measure => omega
              case rel => exact ⟨i + 1, by omega, by go_num, hbf⟩
        · go_wp2_with fail
          go_loopg [57] En.length (fun g2 s57 wr => ∃ i : Nat, i + g2 = En.length ∧ s57 = .int .i64 i ∧ Below W.heap.size W wr)
          case atStart => exact ⟨0, by omega, rfl, hbr⟩
          case round =>
            obtain ⟨i, hi2, rfl, hbi⟩ := hrel
            cases gk with
            | zero =>
              have hlt : ¬ (i < En.length) := by omega
              go_wp2_with fail
              go_roundg g
              case measure => omega
              case rel => exact ⟨1, by have := HG.out; omega, rfl, hbi⟩
            | succ g2 =>
              have hlt : i < En.length := by omega
              have hiE : i < En.length := by omega
              have HIE := Lib.hid hiE
              go_wp2_with fail
              refine (cut_int En i Bn dn _ (by omega) hcn HMn.out (by rw [EEn.out]; exact gI_cut n i (by rw [← EEn.out]; exact HIE.out)) (Qn.out.below hbi)).mono ?_
              rintro e wz ⟨v, u, rfl, hbz⟩
              have hbf := below_next hbi hbz
              go_wp2_with fail
              go_roundg g2
              case measure => omega
              case rel => exact ⟨i + 1, by omega, by go_num, hbf⟩
      · have hcell := (hbr.cell (p := ⟨w5.heap.size, 1, none⟩) (World.block_lt_of_cell? W _ C1.out)).trans C1.out
        have hgj : g = 3 := by omega
        have HG := Lib.hid hgj
        clear hgj hj
        rcases Nat.lt_or_ge 500 Es.length with hmin | hmin
        · go_wp2_with fail
          go_loopg [57] 500 (fun g2 s57 wr => ∃ i : Nat, i + g2 = 500 ∧ s57 = .int .i64 i ∧ Below W.heap.size W wr)
          case atStart => exact ⟨0, by omega, rfl, hbr⟩
          case round =>
            obtain ⟨i, hi2, rfl, hbi⟩ := hrel
            cases gk with
            | zero =>
              have hlt : ¬ (i < 500) := by omega
              go_wp2_with fail
              go_roundg g
              case measure => omega
              case rel => exact ⟨2, by have := HG.out; omega, rfl, hbi⟩
            | succ g2 =>
              have hlt : i < 500 := by omega
              have hiE : i < Es.length := by omega
              have HIE := Lib.hid hiE
              go_wp2_with fail
              refine (cut_bytes Es i Bs ds _ (by omega) hcs HMs.out (by rw [EEs.out]; exact gB3_cut _ (by show s.size ≤ _; omega) i (by rw [← EEs.out]; exact HIE.out)) (Qs.out.below hbi)).mono ?_
              rintro e wz ⟨v, u, rfl, hbz⟩
              have hbf := below_next hbi hbz
              go_wp2_with fail
              go_roundg g2
              case measure => omega
              case rel => exact ⟨i + 1, by omega, by go_num, hbf⟩
        · go_wp2_with fail
          go_loopg [57] Es.length (fun g2 s57 wr => ∃ i : Nat, i + g2 = Es.length ∧ s57 = .int .i64 i ∧ Below W.heap.size W wr)
          case atStart => exact ⟨0, by omega, rfl, hbr⟩
          case round =>
            obtain ⟨i, hi2, rfl, hbi⟩ := hrel
            cases gk with
            | zero =>
              have hlt : ¬ (i < Es.length) := by omega
              go_wp2_with fail
              go_roundg g
              case measure => omega
              case rel => exact ⟨2, by have := HG.out; omega, rfl, hbi⟩
            | succ g2 =>
              have hlt : i < Es.length := by omega
              have hiE : i < Es.length := by omega
              have HIE := Lib.hid hiE
              go_wp2_with fail
              refine (cut_bytes Es i Bs ds _ (by omega) hcs HMs.out (by rw [EEs.out]; exact gB3_cut _ (by show s.size ≤ _; omega) i (by rw [← EEs.out]; exact HIE.out)) (Qs.out.below hbi)).mono ?_
              rintro e wz ⟨v, u, rfl, hbz⟩
              have hbf := below_next hbi hbz
              go_wp2_with fail
              go_roundg g2
              case measure => omega
              case rel => exact ⟨i + 1, by omega, by go_num, hbf⟩
      · have hcell := (hbr.cell (p := ⟨w5.heap.size, 2, none⟩) (World.block_lt_of_cell? W _ C2.out)).trans C2.out
        have hgj : g = 2 := by omega
        have HG := Lib.hid hgj
        clear hgj hj
        rcases Nat.lt_or_ge 500 El.length with hmin | hmin
        · go_wp2_with fail
          go_loopg [57] 500 (fun g2 s57 wr => ∃ i : Nat, i + g2 = 500 ∧ s57 = .int .i64 i ∧ Below W.heap.size W wr)
          case atStart => exact ⟨0, by omega, rfl, hbr⟩
          case round =>
            obtain ⟨i, hi2, rfl, hbi⟩ := hrel
            cases gk with
            | zero =>
              have hlt : ¬ (i < 500) := by omega
              go_wp2_with fail
              go_roundg g
              case measure => omega
              case rel => exact ⟨3, by have := HG.out; omega, rfl, hbi⟩
            | succ g2 =>
              have hlt : i < 500 := by omega
              have hiE : i < El.length := by omega
              have HIE := Lib.hid hiE
              go_wp2_with fail
              refine (cut_getI El i Bl dl _ (by omega) hcl HMl.out (by omega) (by rw [EEl.out]; exact gList_cut codecI (by omega) (.inl fun a i _ h => gI_cut a i h) l HI.out (by omega) i (by show i < (eL l).length; rw [← EEl.out]; exact HIE.out)) (Ql.out.below hbi)).mono ?_
              rintro e wz ⟨v, u, rfl, hbz⟩
              have hbf := below_next hbi hbz
              go_wp2_with fail
              go_roundg g2
              case measure => omega
              case rel => exact ⟨i + 1, by omega, by go_num, hbf⟩
        · go_wp2_with fail
          go_loopg [57] El.length (fun g2 s57 wr => ∃ i : Nat, i + g2 = El.length ∧ s57 = .int .i64 i ∧ Below W.heap.size W wr)
          case atStart => exact ⟨0, by omega, rfl, hbr⟩
          case round =>
            obtain ⟨i, hi2, rfl, hbi⟩ := hrel
            cases gk with
            | zero =>
              have hlt : ¬ (i < El.length) := by omega
              go_wp2_with fail
              go_roundg g
              case measure => omega
              case rel => exact ⟨3, by have := HG.out; omega, rfl, hbi⟩
            | succ g2 =>
              have hlt : i < El.length := by omega
              have hiE : i < El.length := by omega
              have HIE := Lib.hid hiE
              go_wp2_with fail
              refine (cut_getI El i Bl dl _ (by omega) hcl HMl.out (by omega) (by rw [EEl.out]; exact gList_cut codecI (by omega) (.inl fun a i _ h => gI_cut a i h) l HI.out (by omega) i (by show i < (eL l).length; rw [← EEl.out]; exact HIE.out)) (Ql.out.below hbi)).mono ?_
              rintro e wz ⟨v, u, rfl, hbz⟩
              have hbf := below_next hbi hbz
              go_wp2_with fail
              go_roundg g2
              case measure => omega
              case rel => exact ⟨i + 1, by omega, by go_num, hbf⟩
      · have hcell := (hbr.cell (p := ⟨w5.heap.size, 3, none⟩) (World.block_lt_of_cell? W _ C3.out)).trans C3.out
        have hgj : g = 1 := by omega
        have HG := Lib.hid hgj
        clear hgj hj
        rcases Nat.lt_or_ge 500 Ex.length with hmin | hmin
        · go_wp2_with fail
          go_loopg [57] 500 (fun g2 s57 wr => ∃ i : Nat, i + g2 = 500 ∧ s57 = .int .i64 i ∧ Below W.heap.size W wr)
          case atStart => exact ⟨0, by omega, rfl, hbr⟩
          case round =>
            obtain ⟨i, hi2, rfl, hbi⟩ := hrel
            cases gk with
            | zero =>
              have hlt : ¬ (i < 500) := by omega
              go_wp2_with fail
              go_roundg g
              case measure => omega
              case rel => exact ⟨4, by have := HG.out; omega, rfl, hbi⟩
            | succ g2 =>
              have hlt : i < 500 := by omega
              have hiE : i < Ex.length := by omega
              have HIE := Lib.hid hiE
              go_wp2_with fail
              refine (cut_getS Ex i Bx dx _ (by omega) hcx HMx.out (by omega) (by rw [EEx.out]; exact gList_cut codecS (by omega) (.inl fun a i ha h => gB3_cut a ha i h) (lists x) (fun y hy => by have h1 := (List.sublist_flatten_of_mem hy).length_le; have h2 := HX.out; unfold tot at h2; omega) (by simp [lists]; omega) i (by show i < (eS (lists x)).length; rw [← EEx.out]; exact HIE.out)) (Qx.out.below hbi)).mono ?_
              rintro e wz ⟨v, u, rfl, hbz⟩
              have hbf := below_next hbi hbz
              go_wp2_with fail
              go_roundg g2
              case measure => omega
              case rel => exact ⟨i + 1, by omega, by go_num, hbf⟩
        · go_wp2_with fail
          go_loopg [57] Ex.length (fun g2 s57 wr => ∃ i : Nat, i + g2 = Ex.length ∧ s57 = .int .i64 i ∧ Below W.heap.size W wr)
          case atStart => exact ⟨0, by omega, rfl, hbr⟩
          case round =>
            obtain ⟨i, hi2, rfl, hbi⟩ := hrel
            cases gk with
            | zero =>
              have hlt : ¬ (i < Ex.length) := by omega
              go_wp2_with fail
              go_roundg g
              case measure => omega
              case rel => exact ⟨4, by have := HG.out; omega, rfl, hbi⟩
            | succ g2 =>
              have hlt : i < Ex.length := by omega
              have hiE : i < Ex.length := by omega
              have HIE := Lib.hid hiE
              go_wp2_with fail
              refine (cut_getS Ex i Bx dx _ (by omega) hcx HMx.out (by omega) (by rw [EEx.out]; exact gList_cut codecS (by omega) (.inl fun a i ha h => gB3_cut a ha i h) (lists x) (fun y hy => by have h1 := (List.sublist_flatten_of_mem hy).length_le; have h2 := HX.out; unfold tot at h2; omega) (by simp [lists]; omega) i (by show i < (eS (lists x)).length; rw [← EEx.out]; exact HIE.out)) (Qx.out.below hbi)).mono ?_
              rintro e wz ⟨v, u, rfl, hbz⟩
              have hbf := below_next hbi hbz
              go_wp2_with fail
              go_roundg g2
              case measure => omega
              case rel => exact ⟨i + 1, by omega, by go_num, hbf⟩
      · have hcell := (hbr.cell (p := ⟨w5.heap.size, 4, none⟩) (World.block_lt_of_cell? W _ C4.out)).trans C4.out
        have hgj : g = 0 := by omega
        have HG := Lib.hid hgj
        clear hgj hj
        rcases Nat.lt_or_ge 500 Ed.length with hmin | hmin
        · go_wp2_with fail
          go_loopg [57] 500 (fun g2 s57 wr => ∃ i : Nat, i + g2 = 500 ∧ s57 = .int .i64 i ∧ Below W.heap.size W wr)
          case atStart => exact ⟨0, by omega, rfl, hbr⟩
          case round =>
            obtain ⟨i, hi2, rfl, hbi⟩ := hrel
            cases gk with
            | zero =>
              have hlt : ¬ (i < 500) := by omega
              go_wp2_with fail
              go_roundg g
              case measure => omega
              case rel => exact ⟨5, by have := HG.out; omega, rfl, hbi⟩
            | succ g2 =>
              have hlt : i < 500 := by omega
              have hiE : i < Ed.length := by omega
              have HIE := Lib.hid hiE
              go_wp2_with fail
              refine (cut_getD Ed i Bd dd _ (by omega) hcd HMd.out (by omega) (by rw [EEd.out, eLs_digs]; exact gList_cut codecD (by omega) (.inr fun a ha => ha) d H16.out (by omega) i (by rw [← eLs_digs, ← EEd.out]; exact HIE.out)) (Qd.out.below hbi)).mono ?_
              rintro e wz ⟨v, u, rfl, hbz⟩
              have hbf := below_next hbi hbz
              go_wp2_with fail
              go_roundg g2
              case measure => omega
              case rel => exact ⟨i + 1, by omega, by go_num, hbf⟩
        · go_wp2_with fail
          go_loopg [57] Ed.length (fun g2 s57 wr => ∃ i : Nat, i + g2 = Ed.length ∧ s57 = .int .i64 i ∧ Below W.heap.size W wr)
          case atStart => exact ⟨0, by omega, rfl, hbr⟩
          case round =>
            obtain ⟨i, hi2, rfl, hbi⟩ := hrel
            cases gk with
            | zero =>
              have hlt : ¬ (i < Ed.length) := by omega
              go_wp2_with fail
              go_roundg g
              case measure => omega
              case rel => exact ⟨5, by have := HG.out; omega, rfl, hbi⟩
            | succ g2 =>
              have hlt : i < Ed.length := by omega
              have hiE : i < Ed.length := by omega
              have HIE := Lib.hid hiE
              go_wp2_with fail
              refine (cut_getD Ed i Bd dd _ (by omega) hcd HMd.out (by omega) (by rw [EEd.out, eLs_digs]; exact gList_cut codecD (by omega) (.inr fun a ha => ha) d H16.out (by omega) i (by rw [← eLs_digs, ← EEd.out]; exact HIE.out)) (Qd.out.below hbi)).mono ?_
              rintro e wz ⟨v, u, rfl, hbz⟩
              have hbf := below_next hbi hbz
              go_wp2_with fail
              go_roundg g2
              case measure => omega
              case rel => exact ⟨i + 1, by omega, by go_num, hbf⟩

theorem contract (H : Type) (enc : TypeId × Value → H) (W : World) (base : Nat) (args : Array Value) (ds gs : List (DataW H)) (before : List MemPlace)
    (hval : ∀ (j : Nat) t v, Try.f9.params[j]? = some t → args[j]? = some v → Value.okWide Try.prog W .any base t v)
    (hW : DataW.Whole enc Try.prog Try.f9.params.toList Rows.wireTruncatedSpec.vars false W args.toList ds gs before)
    (hsz : (DataW.weightsEach Try.prog (Try.f9.params.toList ++ Rows.wireTruncatedSpec.plain.varTypes Try.prog) (ds ++ gs)).all (· ≤ reachBytes) = true) :
    Calls Try.prog 9 args W fun e W' => ∃ v, e = .returned v ∧ Rows.wireTruncatedSpec.post enc Try.prog Try.f9 false true false false W args v W' := by
  have hW' := hW
  obtain ⟨p, q, hA0, hV, rfl, hfz, hnd⟩ := hW
  have hA : DataW.TrodAll enc Try.prog W 0 (fun _ => true) true Try.f9.params.toList args.toList ds p := hA0
  rw [Try.params9] at hA hval hsz
  obtain ⟨v0, vs0, d0, ds0, p0, q0, e0, rfl, rfl, h0, r0⟩ := trodAll_cons hA
  obtain ⟨v1, vs1, d1, ds1, p1, q1, rfl, rfl, rfl, h1, r1⟩ := trodAll_cons r0
  obtain ⟨v2, vs2, d2, ds2, p2, q2, rfl, rfl, rfl, h2, r2⟩ := trodAll_cons r1
  obtain ⟨v3, vs3, d3, ds3, p3, q3, rfl, rfl, rfl, h3, r3⟩ := trodAll_cons r2
  obtain ⟨v4, vs4, d4, ds4, p4, q4, rfl, rfl, rfl, h4, r4⟩ := trodAll_cons r3
  obtain ⟨rfl, rfl, rfl⟩ := trodAll_nil r4
  obtain rfl : args = #[v0, v1, v2, v3, v4] := by cases args; simp_all
  obtain ⟨rfl, rfl⟩ := trodVars_none hV
  obtain ⟨n, rfl, rfl, rfl, wn⟩ := open_int Try.underlying3 (hval 0 3 v0 rfl rfl) h0
  obtain ⟨s, rfl, rfl, rfl, ws⟩ := open_string Try.underlying9 (hval 1 9 v1 rfl rfl) h1
  obtain ⟨Al, l, cl, rfl, hrl, hi, hcl, hml, hrchl⟩ := open_rdI (hval 2 22 v2 rfl rfl) h2
  obtain ⟨Ax, x, cx, rfl, hrx, hcx, hmx, hrchx⟩ := open_rdS2 (hval 3 23 v3 rfl rfl) h3
  obtain ⟨Ad, d, cd, rfl, hrd, h16, hcd, hmd, hbd⟩ := open_rdD (hval 4 24 v4 rfl rfl) h4
  have hs := sized_string hsz (j := 1) (t := 9) rfl rfl
  have hll := hrchl (j := 2) hsz rfl rfl
  obtain ⟨hxl, hxs⟩ := hrchx (j := 3) hsz rfl rfl
  have hdl := slice_reach Try.underlying24 h4 hsz (j := 4) rfl rfl
  rw [Try.bytesD] at hdl
  have hxt := tot_le _ x hxs
  have hsl : s.data.toList.length = s.size := rfl
  rw [hsl] at hs
  simp only [reachBytes] at hdl hs
  refine (walk n s Al l cl Ax x cx Ad d cd W (inI_wf wn) (by omega) hll hxl (fun h40 => Nat.le_trans hxt (by have := Nat.mul_le_mul_right 140737488355329 h40; omega)) (by omega) hi h16 hrl hrx hrd).mono fun e W' ⟨he, hb⟩ => ⟨_, he, ?_⟩
  exact law_post rfl rfl (by kernel_rfl) hW' rfl hb

set_option maxRecDepth 100000 in
theorem lifted (os : Os) (started : os.Started) (H : Type) (enc : TypeId × Value → H) :
    ReturnsInHanded {} Try.checked os 9 .any (Rows.wireTruncatedSpec.pre6 enc Try.prog Try.f9 Rows.wireTruncatedRow.domain false) (Rows.wireTruncatedSpec.post enc Try.prog Try.f9 false true false false) := by
  refine returnsInHanded_of_change_sized (C := Try.checked) Try.own started (by kernel_rfl) Try.func9
    (ChangeSpec.witness6 (enc := enc) (C := Try.checked) false ⟨#[], #[.int .i64 0, .string ByteArray.empty, .slice none 0 0, .slice none 0 0, .slice none 0 0], []⟩ 8 (by kernel_rfl) (by kernel_rfl) (by kernel_rfl) (by kernel_rfl)) ?_
  intro W base args ds gs before hval hW _ hsz _
  exact contract H enc W base args ds gs before hval hW hsz

theorem proved : Rows.WireTruncatedSaid :=
  OpenClaim.holds_of_wide 9 Try.f9 rfl rfl rfl rfl rfl rfl rfl ⟨rfl, rfl, rfl, rfl, rfl⟩ rfl rfl rfl rfl rfl (by kernel_rfl) Try.func9 (by kernel_rfl)
    (of_decide_eq_true (by kernel_rfl)) (by unfold Func.isWrapper; first | (rw [if_pos (by decide +kernel)]; kernel_rfl) | (rw [if_neg (by decide +kernel)]; exact ⟨rfl, rfl⟩))
    (fun os started H enc _ => lifted os started H enc)

end L7s
end Go.Proofs.Ytelkekicceoaoaa
