/-
  The reference's Valid.
-/
import Derived.Test.YtalladdmedmfeaaARef
namespace Go.Proofs.Ytalladdmedmfeaa
open Go.RowKit
open Alp
set_option linter.unusedVariables false
set_option linter.unusedSimpArgs false

theorem valP_same {L : List Lt} {i k : Nat} (hi : i < L.length) (hk : k < i) (h : (L.getD k z).text = (L.getD i z).text) : valP L = false := by
  rw [Bool.eq_false_iff]
  intro e
  have := texts_inj ((valP_iff L).1 e).2.2.2 (by omega) hi h
  omega
theorem nodup_of {L : List Lt} (h : ∀ i, i < L.length → ∀ k, k < i → (L.getD k z).text ≠ (L.getD i z).text) : (texts L).Nodup := by
  unfold texts
  refine List.pairwise_iff_getElem.2 fun i j hi hj hij => ?_
  have h1 : i < L.length := by simpa using hi
  have h2 : j < L.length := by simpa using hj
  have := h j h2 i hij
  rw [getD_get h1, getD_get h2] at this
  simpa using this
set_option maxRecDepth 100000 in
theorem rvalid_size (n c : Nat) (A : Option Addr) (hn : n < 1 ∨ 60 < n) (hc : n ≤ c) (hm : c ≤ maxLen) (w : World) : Calls Try.prog 46 #[.slice A n c] w (BoolB w false) := by
  have hm' : c ≤ 9223372036854775807 := by unfold maxLen at hm; omega
  rcases hn with h | h
  · go_enter Try.func46, Try.ntmps46
    go_wp2_with fail
    go_ret
    exact ⟨rfl, Below.refl _ _⟩
  · go_enter Try.func46, Try.ntmps46
    go_wp2_with fail
    go_ret
    exact ⟨rfl, Below.refl _ _⟩
/-- What Valid has seen of the letters before i. -/
def VI (w : World) (L : List Lt) (i : Nat) (wr : World) : Prop := (∀ j, j < i → lOK L j = true ∧ ∀ k, k < j → (L.getD k z).text ≠ (L.getD j z).text) ∧ Below w.heap.size w wr
set_option maxRecDepth 100000 in
set_option maxHeartbeats 16000000 in
theorem rvalid_aux (L : List Lt) (n b o c : Nat) (hn : n = L.length) (h1 : 1 ≤ n) (h2 : n ≤ 60) (hc : n ≤ c) (hm : c ≤ maxLen) (hs : ∀ l ∈ L, l.text.length ≤ maxLen) (V : Bool) (hV : V = valP L) (w : World) (hr : RL w b o L) :
    Calls Try.prog 46 #[.slice (some ⟨b, o, none⟩) n c] w (BoolB w V) := by
  have hm' : c ≤ 9223372036854775807 := by unfold maxLen at hm; omega
  have HN := Lib.hid hn
  have HV := Lib.hid hV
  have HL := Lib.hid hr
  have HS := Lib.hid hs
  clear hn hV hr hs
  go_enter Try.func46, Try.ntmps46
  go_wp2_with fail
  go_loopg [3, 5] n (fun g s3 s5 wr => ∃ (i : Nat), i + g = n ∧ s3 = .int .i64 (i : Int) ∧ Hid (VI w L i wr))
  case atStart => exact ⟨0, by omega, rfl, Lib.hid ⟨fun j h => by omega, Below.refl _ _⟩⟩
  case round =>
    obtain ⟨i, hi, rfl, HI⟩ := hrel
    by_cases hlt : i < n
    · obtain ⟨g, rfl⟩ : ∃ g, gk = g + 1 := ⟨gk - 1, by omega⟩
      have hil : i < L.length := by rw [← HN.out]; exact hlt
      obtain ⟨l, hl⟩ : ∃ l, l = L.getD i z := ⟨_, rfl⟩
      have HRL : Hid (RL wr b o L) := Lib.hid (HL.out.below HI.out.2)
      have HX := Lib.hid (HRL.out.range hil hl)
      have hT : l.text.length ≤ maxLen := by rw [hl]; exact HS.out _ (getD_mem hil)
      have HLE : Hid (lOK L i = lok L i l) := Lib.hid (by unfold lOK; rw [hl])
      have HLL := Lib.hid hl
      clear hl
      obtain ⟨t, bs, mk, cs, wd⟩ := l
      simp only at hT
      have HQ := Lib.hid fun W => (rplain_any t hT W).mono fun e w' (h : BoolIs W (plain t) e w') => (And.intro h.1 h.2.symm : e = .returned (.bool (plain t)) ∧ w' = W)
      cases hp : plain t
      · rw [hp] at HQ
        have HE : Hid (V = false) := Lib.hid (by rw [HV.out]; exact valP_bad hil (by rw [HLE.out]; exact lok_no (fun h => by obtain ⟨p1, p2, p3, p4, p5, p6, p7⟩ := h; simp only at p1 p2 p3 p4 p5 p6 p7; rw [hp] at p1; cases p1)))
        go_wp2_with (refine wpList_load_lt rfl (.tmp 22) rfl b (o + i * 5) rfl ⟨t, bs, mk, cs, wd⟩ HX.out ?_)
        go_quiet ((go_at_call 60; exact Calls.quiet_of_same (HQ.out _)))
        go_wp2_with fail
        go_ret
        exact ⟨ret_bool HE.out.symm, below_drewN (below_al HI.out.2 _) _⟩
      · rw [hp] at HQ
        by_cases h0 : 0 ≤ bs
        rotate_left
        · have hb0 : decide (bs < 0) = true := decide_eq_true (by omega)
          have HE : Hid (V = false) := Lib.hid (by rw [HV.out]; exact valP_bad hil (by rw [HLE.out]; exact lok_no (fun h => by obtain ⟨p1, p2, p3, p4, p5, p6, p7⟩ := h; simp only at p1 p2 p3 p4 p5 p6 p7; omega)))
          go_wp2_with (refine wpList_load_lt rfl (.tmp 22) rfl b (o + i * 5) rfl ⟨t, bs, mk, cs, wd⟩ HX.out ?_)
          go_quiet ((go_at_call 60; exact Calls.quiet_of_same (HQ.out _)))
          go_wp2_with fail
          go_ret
          exact ⟨ret_bool HE.out.symm, below_drewN (below_al HI.out.2 _) _⟩
        by_cases h3 : bs < n
        rotate_left
        · have hb0 : decide (bs < 0) = false := decide_eq_false (by omega)
          have hb1 : decide ((n : Int) ≤ bs) = true := decide_eq_true (by omega)
          have HE : Hid (V = false) := Lib.hid (by rw [HV.out]; exact valP_bad hil (by rw [HLE.out]; exact lok_no (fun h => by obtain ⟨p1, p2, p3, p4, p5, p6, p7⟩ := h; simp only at p1 p2 p3 p4 p5 p6 p7; have := HN.out; omega)))
          go_wp2_with (refine wpList_load_lt rfl (.tmp 22) rfl b (o + i * 5) rfl ⟨t, bs, mk, cs, wd⟩ HX.out ?_)
          go_quiet ((go_at_call 60; exact Calls.quiet_of_same (HQ.out _)))
          go_wp2_with fail
          go_ret
          exact ⟨ret_bool HE.out.symm, below_drewN (below_al HI.out.2 _) _⟩
        obtain ⟨q, rfl⟩ : ∃ q : Nat, bs = q := ⟨bs.toNat, by omega⟩
        have hq : q < n := by omega
        have hb0 : decide ((q : Int) < 0) = false := decide_eq_false (by omega)
        have hb1 : decide ((n : Int) ≤ (q : Int)) = false := decide_eq_false (by omega)
        have hcx := HRL.out.c1 (k := q) (by rw [← HN.out]; exact hq) rfl
        obtain ⟨x, hxe⟩ : ∃ x, x = (L.getD q z).base := ⟨_, rfl⟩
        rw [← hxe] at hcx
        have HXE := Lib.hid hxe
        have hbl := World.block_lt_of_cell? wr _ hcx
        have hcy : (wr.alloc (.cells #[.string (tb t), .int .i64 (q : Int), .int .i64 mk, .int .i64 cs, .int .i64 wd] 54)).cell? ⟨b, o + q * 5 + 1, none⟩ = some (.int .i64 x) := (World.cell?_alloc_lt wr _ ⟨b, o + q * 5 + 1, none⟩ hbl).trans hcx
        clear hxe hcx hbl h0 h3
        by_cases hx : x = q
        rotate_left
        · have hne : (x != (q : Int)) = true := bne_iff_ne.2 hx
          have HE : Hid (V = false) := Lib.hid (by rw [HV.out]; exact valP_bad hil (by rw [HLE.out]; exact lok_no (fun h => by obtain ⟨p1, p2, p3, p4, p5, p6, p7⟩ := h; simp only at p1 p2 p3 p4 p5 p6 p7; rw [Int.toNat_natCast, ← HXE.out] at p3; exact hx p3)))
          go_wp2_with (refine wpList_load_lt rfl (.tmp 22) rfl b (o + i * 5) rfl ⟨t, (q : Int), mk, cs, wd⟩ HX.out ?_)
          go_quiet ((go_at_call 60; exact Calls.quiet_of_same (HQ.out _)))
          go_wp2_with fail
          go_ret
          exact ⟨ret_bool HE.out.symm, below_drewN (below_al HI.out.2 _) _⟩
        subst hx
        have hne : ((q : Int) != (q : Int)) = false := by simp
        by_cases g0 : 0 ≤ mk
        rotate_left
        · have d0 : decide (mk < 0) = true := decide_eq_true (by omega)
          have HE : Hid (V = false) := Lib.hid (by rw [HV.out]; exact valP_bad hil (by rw [HLE.out]; exact lok_no (fun h => by obtain ⟨p1, p2, p3, p4, p5, p6, p7⟩ := h; simp only at p1 p2 p3 p4 p5 p6 p7; omega)))
          go_wp2_with (refine wpList_load_lt rfl (.tmp 22) rfl b (o + i * 5) rfl ⟨t, (q : Int), mk, cs, wd⟩ HX.out ?_)
          go_quiet ((go_at_call 60; exact Calls.quiet_of_same (HQ.out _)))
          go_wp2_with fail
          go_ret
          exact ⟨ret_bool HE.out.symm, below_drewN (below_al HI.out.2 _) _⟩
        have d0 : decide (mk < 0) = false := decide_eq_false (by omega)
        by_cases g1 : mk ≤ 15
        rotate_left
        · have d1 : decide (15 < mk) = true := decide_eq_true (by omega)
          have HE : Hid (V = false) := Lib.hid (by rw [HV.out]; exact valP_bad hil (by rw [HLE.out]; exact lok_no (fun h => by obtain ⟨p1, p2, p3, p4, p5, p6, p7⟩ := h; simp only at p1 p2 p3 p4 p5 p6 p7; omega)))
          go_wp2_with (refine wpList_load_lt rfl (.tmp 22) rfl b (o + i * 5) rfl ⟨t, (q : Int), mk, cs, wd⟩ HX.out ?_)
          go_quiet ((go_at_call 60; exact Calls.quiet_of_same (HQ.out _)))
          go_wp2_with fail
          go_ret
          exact ⟨ret_bool HE.out.symm, below_drewN (below_al HI.out.2 _) _⟩
        have d1 : decide (15 < mk) = false := decide_eq_false (by omega)
        by_cases g2 : 0 ≤ cs
        rotate_left
        · have d2 : decide (cs < 0) = true := decide_eq_true (by omega)
          have HE : Hid (V = false) := Lib.hid (by rw [HV.out]; exact valP_bad hil (by rw [HLE.out]; exact lok_no (fun h => by obtain ⟨p1, p2, p3, p4, p5, p6, p7⟩ := h; simp only at p1 p2 p3 p4 p5 p6 p7; omega)))
          go_wp2_with (refine wpList_load_lt rfl (.tmp 22) rfl b (o + i * 5) rfl ⟨t, (q : Int), mk, cs, wd⟩ HX.out ?_)
          go_quiet ((go_at_call 60; exact Calls.quiet_of_same (HQ.out _)))
          go_wp2_with fail
          go_ret
          exact ⟨ret_bool HE.out.symm, below_drewN (below_al HI.out.2 _) _⟩
        have d2 : decide (cs < 0) = false := decide_eq_false (by omega)
        by_cases g3 : cs ≤ 1
        rotate_left
        · have d3 : decide (1 < cs) = true := decide_eq_true (by omega)
          have HE : Hid (V = false) := Lib.hid (by rw [HV.out]; exact valP_bad hil (by rw [HLE.out]; exact lok_no (fun h => by obtain ⟨p1, p2, p3, p4, p5, p6, p7⟩ := h; simp only at p1 p2 p3 p4 p5 p6 p7; omega)))
          go_wp2_with (refine wpList_load_lt rfl (.tmp 22) rfl b (o + i * 5) rfl ⟨t, (q : Int), mk, cs, wd⟩ HX.out ?_)
          go_quiet ((go_at_call 60; exact Calls.quiet_of_same (HQ.out _)))
          go_wp2_with fail
          go_ret
          exact ⟨ret_bool HE.out.symm, below_drewN (below_al HI.out.2 _) _⟩
        have d3 : decide (1 < cs) = false := decide_eq_false (by omega)
        by_cases g4 : 1 ≤ wd
        rotate_left
        · have d4 : decide (wd < 1) = true := decide_eq_true (by omega)
          have HE : Hid (V = false) := Lib.hid (by rw [HV.out]; exact valP_bad hil (by rw [HLE.out]; exact lok_no (fun h => by obtain ⟨p1, p2, p3, p4, p5, p6, p7⟩ := h; simp only at p1 p2 p3 p4 p5 p6 p7; omega)))
          go_wp2_with (refine wpList_load_lt rfl (.tmp 22) rfl b (o + i * 5) rfl ⟨t, (q : Int), mk, cs, wd⟩ HX.out ?_)
          go_quiet ((go_at_call 60; exact Calls.quiet_of_same (HQ.out _)))
          go_wp2_with fail
          go_ret
          exact ⟨ret_bool HE.out.symm, below_drewN (below_al HI.out.2 _) _⟩
        have d4 : decide (wd < 1) = false := decide_eq_false (by omega)
        by_cases g5 : wd ≤ 1000
        rotate_left
        · have d5 : decide (1000 < wd) = true := decide_eq_true (by omega)
          have HE : Hid (V = false) := Lib.hid (by rw [HV.out]; exact valP_bad hil (by rw [HLE.out]; exact lok_no (fun h => by obtain ⟨p1, p2, p3, p4, p5, p6, p7⟩ := h; simp only at p1 p2 p3 p4 p5 p6 p7; omega)))
          go_wp2_with (refine wpList_load_lt rfl (.tmp 22) rfl b (o + i * 5) rfl ⟨t, (q : Int), mk, cs, wd⟩ HX.out ?_)
          go_quiet ((go_at_call 60; exact Calls.quiet_of_same (HQ.out _)))
          go_wp2_with fail
          go_ret
          exact ⟨ret_bool HE.out.symm, below_drewN (below_al HI.out.2 _) _⟩
        have d5 : decide (1000 < wd) = false := decide_eq_false (by omega)
        by_cases hqk : q = i
        rotate_left
        · have hqi : ((q : Int) == (i : Int)) = false := beq_eq_false_iff_ne.2 (by omega)
          have HOK : Hid (lOK L i = true) := Lib.hid (by rw [HLE.out]; exact (lok_iff _ _ _).2 ⟨hp, ⟨by simp only; omega, by simp only; rw [← HN.out]; omega⟩, by simp only [Int.toNat_natCast]; exact HXE.out.symm, ⟨g0, g1⟩, ⟨g2, g3⟩, ⟨g4, g5⟩, .inl (by simp only; omega)⟩)
          go_wp2_with (refine wpList_load_lt rfl (.tmp 22) rfl b (o + i * 5) rfl ⟨t, (q : Int), mk, cs, wd⟩ HX.out ?_)
          go_quiet ((go_at_call 60; exact Calls.quiet_of_same (HQ.out _)))
          go_wp2_with fail
          go_loopg [5] i (fun j s5 wx => ∃ (k a : Nat), k + j = i ∧ s5 = .int .i64 (k : Int) ∧ Hid (∀ e, e < k → (L.getD e z).text ≠ t) ∧ wx = (wr.alloc (.cells #[.string (tb t), .int .i64 (q : Int), .int .i64 mk, .int .i64 cs, .int .i64 wd] 54)).drewN a)
          case atStart => exact ⟨0, _, by omega, rfl, Lib.hid fun e h => by omega, rfl⟩
          case round =>
            obtain ⟨k, a, hk, rfl, HD, rfl⟩ := hrel
            by_cases hki : k < i
            · obtain ⟨j, rfl⟩ : ∃ j, gk = j + 1 := ⟨gk - 1, by omega⟩
              obtain ⟨u, hu⟩ : ∃ u, u = L.getD k z := ⟨_, rfl⟩
              have hcu := HRL.out.c0 (k := k) (by omega) hu
              have hbl := World.block_lt_of_cell? wr _ hcu
              have hcu2 : (wr.alloc (.cells #[.string (tb t), .int .i64 (q : Int), .int .i64 mk, .int .i64 cs, .int .i64 wd] 54)).cell? ⟨b, o + k * 5, none⟩ = some (.string (tb u.text)) := (World.cell?_alloc_lt wr _ ⟨b, o + k * 5, none⟩ hbl).trans hcu
              have hkn : k < n := by omega
              have HU := Lib.hid hu
              clear hu hcu hbl
              by_cases he : u.text = t
              · have HE : Hid (V = false) := Lib.hid (by
                  rw [HV.out]
                  exact valP_same hil hki (by rw [← HU.out, ← HLL.out]; exact he))
                have heq : ((tb u.text).toList == (tb t).toList) = true := by rw [he]; exact beq_self_eq_true _
                clear he
                go_wp2_with fail
                go_quiet (fail)
                go_wp2_with fail
                go_ret
                exact ⟨ret_bool HE.out.symm, below_drewN (below_drewN (below_al HI.out.2 _) _) _⟩
              · have heq : ((tb u.text).toList == (tb t).toList) = false := by rw [tb_toList, tb_toList]; exact beq_eq_false_iff_ne.2 he
                have HNE := Lib.hid he
                clear he
                go_wp2_with fail
                go_quiet (fail)
                go_wp2_with fail
                go_roundg j
                case rel => exact ⟨k + 1, _, by omega, by go_num, Lib.hid fun e h => by
                  rcases Nat.lt_or_ge e k with h' | h'
                  · exact HD.out e h'
                  · obtain rfl : e = k := by omega
                    rw [← HU.out]; exact HNE.out, rfl⟩
                case measure => omega
            · obtain rfl : k = i := by omega
              go_wp2_with fail
              go_roundg g
              case rel => exact ⟨k + 1, by omega, by go_num, Lib.hid ⟨fun e he => by
                rcases Nat.lt_or_ge e k with h' | h'
                · exact HI.out.1 e h'
                · obtain rfl : e = k := by omega
                  exact ⟨HOK.out, fun f hf => by rw [← HLL.out]; exact HD.out f hf⟩, below_drewN (below_al HI.out.2 _) _⟩⟩
              case measure => omega
        obtain rfl : i = q := hqk.symm
        have hqi : ((i : Int) == (i : Int)) = true := beq_self_eq_true _
        by_cases hm0 : mk = 0
        rotate_left
        · have e2 : (mk != 0) = true := bne_iff_ne.2 hm0
          have HE : Hid (V = false) := Lib.hid (by rw [HV.out]; exact valP_bad hil (by rw [HLE.out]; exact lok_no (fun h => by obtain ⟨p1, p2, p3, p4, p5, p6, p7⟩ := h; simp only at p1 p2 p3 p4 p5 p6 p7; omega)))
          go_wp2_with (refine wpList_load_lt rfl (.tmp 22) rfl b (o + i * 5) rfl ⟨t, (i : Int), mk, cs, wd⟩ HX.out ?_)
          go_quiet ((go_at_call 60; exact Calls.quiet_of_same (HQ.out _)))
          go_wp2_with fail
          go_ret
          exact ⟨ret_bool HE.out.symm, below_drewN (below_al HI.out.2 _) _⟩
        have e2 : (mk != 0) = false := by rw [hm0]; rfl
        by_cases hc0 : cs = 0
        rotate_left
        · have e3 : (cs != 0) = true := bne_iff_ne.2 hc0
          have HE : Hid (V = false) := Lib.hid (by rw [HV.out]; exact valP_bad hil (by rw [HLE.out]; exact lok_no (fun h => by obtain ⟨p1, p2, p3, p4, p5, p6, p7⟩ := h; simp only at p1 p2 p3 p4 p5 p6 p7; omega)))
          clear hm0
          go_wp2_with (refine wpList_load_lt rfl (.tmp 22) rfl b (o + i * 5) rfl ⟨t, (i : Int), mk, cs, wd⟩ HX.out ?_)
          go_quiet ((go_at_call 60; exact Calls.quiet_of_same (HQ.out _)))
          go_wp2_with fail
          go_ret
          exact ⟨ret_bool HE.out.symm, below_drewN (below_al HI.out.2 _) _⟩
        have e3 : (cs != 0) = false := by rw [hc0]; rfl
        have HM0 := Lib.hid (And.intro hm0 hc0)
        clear hm0 hc0
        have HOK : Hid (lOK L i = true) := Lib.hid (by rw [HLE.out]; exact (lok_iff _ _ _).2 ⟨hp, ⟨by simp only; omega, by simp only; rw [← HN.out]; omega⟩, by simp only [Int.toNat_natCast]; exact HXE.out.symm, ⟨g0, g1⟩, ⟨g2, g3⟩, ⟨g4, g5⟩, .inr HM0.out⟩)
        go_wp2_with (refine wpList_load_lt rfl (.tmp 22) rfl b (o + i * 5) rfl ⟨t, (i : Int), mk, cs, wd⟩ HX.out ?_)
        go_quiet ((go_at_call 60; exact Calls.quiet_of_same (HQ.out _)))
        go_wp2_with fail
        go_loopg [5] i (fun j s5 wx => ∃ (k a : Nat), k + j = i ∧ s5 = .int .i64 (k : Int) ∧ Hid (∀ e, e < k → (L.getD e z).text ≠ t) ∧ wx = (wr.alloc (.cells #[.string (tb t), .int .i64 (i : Int), .int .i64 mk, .int .i64 cs, .int .i64 wd] 54)).drewN a)
        case atStart => exact ⟨0, _, by omega, rfl, Lib.hid fun e h => by omega, rfl⟩
        case round =>
          obtain ⟨k, a, hk, rfl, HD, rfl⟩ := hrel
          by_cases hki : k < i
          · obtain ⟨j, rfl⟩ : ∃ j, gk = j + 1 := ⟨gk - 1, by omega⟩
            obtain ⟨u, hu⟩ : ∃ u, u = L.getD k z := ⟨_, rfl⟩
            have hcu := HRL.out.c0 (k := k) (by omega) hu
            have hbl := World.block_lt_of_cell? wr _ hcu
            have hcu2 : (wr.alloc (.cells #[.string (tb t), .int .i64 (i : Int), .int .i64 mk, .int .i64 cs, .int .i64 wd] 54)).cell? ⟨b, o + k * 5, none⟩ = some (.string (tb u.text)) := (World.cell?_alloc_lt wr _ ⟨b, o + k * 5, none⟩ hbl).trans hcu
            have hkn : k < n := by omega
            have HU := Lib.hid hu
            clear hu hcu hbl
            by_cases he : u.text = t
            · have HE : Hid (V = false) := Lib.hid (by
                rw [HV.out]
                exact valP_same hil hki (by rw [← HU.out, ← HLL.out]; exact he))
              have heq : ((tb u.text).toList == (tb t).toList) = true := by rw [he]; exact beq_self_eq_true _
              clear he
              go_wp2_with fail
              go_quiet (fail)
              go_wp2_with fail
              go_ret
              exact ⟨ret_bool HE.out.symm, below_drewN (below_drewN (below_al HI.out.2 _) _) _⟩
            · have heq : ((tb u.text).toList == (tb t).toList) = false := by rw [tb_toList, tb_toList]; exact beq_eq_false_iff_ne.2 he
              have HNE := Lib.hid he
              clear he
              go_wp2_with fail
              go_quiet (fail)
              go_wp2_with fail
              go_roundg j
              case rel => exact ⟨k + 1, _, by omega, by go_num, Lib.hid fun e h => by
                rcases Nat.lt_or_ge e k with h' | h'
                · exact HD.out e h'
                · obtain rfl : e = k := by omega
                  rw [← HU.out]; exact HNE.out, rfl⟩
              case measure => omega
          · obtain rfl : k = i := by omega
            go_wp2_with fail
            go_roundg g
            case rel => exact ⟨k + 1, by omega, by go_num, Lib.hid ⟨fun e he => by
              rcases Nat.lt_or_ge e k with h' | h'
              · exact HI.out.1 e h'
              · obtain rfl : e = k := by omega
                exact ⟨HOK.out, fun f hf => by rw [← HLL.out]; exact HD.out f hf⟩, below_drewN (below_al HI.out.2 _) _⟩⟩
            case measure => omega
    · obtain rfl : i = n := by omega
      have HE : Hid (V = true) := Lib.hid (by
        rw [HV.out]
        exact (valP_iff L).2 ⟨by rw [← HN.out]; exact h1, by rw [← HN.out]; exact h2, fun j hj => (HI.out.1 j (by rw [HN.out]; exact hj)).1, nodup_of fun j hj => (HI.out.1 j (by rw [HN.out]; exact hj)).2⟩)
      go_wp2_with fail
      go_ret
      exact ⟨ret_bool HE.out.symm, HI.out.2⟩
theorem rvalid_any (L : List Lt) (A : Option Addr) (n c : Nat) (hn : n = L.length) (hc : n ≤ c) (hm : c ≤ maxLen) (hs : ∀ l ∈ L, l.text.length ≤ maxLen) (V : Bool) (hV : V = valP L) (w : World) (hr : Rd w A (lv L)) :
    Calls Try.prog 46 #[.slice A n c] w (BoolB w V) := by
  by_cases h0 : n < 1 ∨ 60 < n
  · rw [hV, valP_size (by rw [← hn]; exact h0)]
    exact rvalid_size n c A h0 hc hm w
  · obtain ⟨b, o, rfl, h⟩ := rl_open hr (by intro e; subst e; simp at hn; omega)
    exact rvalid_aux L n b o c hn (by omega) (by omega) hc hm hs V hV w h
end Go.Proofs.Ytalladdmedmfeaa
