/-
  CollateOrder: for all arguments the law returns true, and leaves what was there as it was.
-/
import Derived.Test.YtalladdmedmfeaaKLaw2
import Derived.BigQuiet
import Derived.BigRegion
namespace Go.Proofs.Ytalladdmedmfeaa
open Go.ChangeShapes Go.WideShapes Go.ChangeAt Go.RowKit Go.ChangeMaps
open Alp Col
set_option linter.unusedVariables false
set_option linter.unusedSimpArgs false
namespace KL5
theorem order_zero (L : List Lt) (v w : List Int) : cmpU L v w 0 4 = 0 ↔ lev L 3 v = lev L 3 w := by
  constructor
  · intro h
    exact cmpU_zero.1 h 3 (by omega)
  · intro h
    rw [lev3, lev3] at h
    exact cmpU_zero.2 fun i _ => by unfold lev; rw [h]
set_option maxRecDepth 1000000 in
set_option maxHeartbeats 32000000 in
theorem walk (l : List Int) (Al : Option Addr) (cl : Nat) (li : ∀ x ∈ l, inI x) (ln : l.length ≤ cl) (lm : cl ≤ maxLen) (m : List Int) (Am : Option Addr) (cm : Nat) (mi : ∀ x ∈ m, inI x) (mn : m.length ≤ cm) (mm : cm ≤ maxLen) (words : List (List Int)) (Awords : Option Addr) (nwords cwords bwords owords : Nat) (wordsn : nwords = words.length) (wordsc : nwords ≤ cwords) (wordsm : cwords ≤ maxLen) (w : World) (lr : Rd w Al (iv l)) (mr : Rd w Am (iv m)) (wordsr : RwR w words Awords nwords bwords owords) : Calls Try.prog 7 #[.slice Al l.length cl, .slice Am m.length cm, .slice Awords nwords cwords] w fun e w' => e = .returned (.bool true) ∧ Below w.heap.size w w' := by
  obtain ⟨L, hL⟩ : ∃ L, L = lettersP l := ⟨_, rfl⟩
  have hv : valP L = true := by rw [hL]; exact letters_val l
  obtain ⟨j0, hj0, hy0, hy1, hy2⟩ := info_parts Try.infoSl
  have HTX : Hid (∀ x ∈ L, x.text.length ≤ maxLen) := Lib.hid fun x hx => by have := (val_plain hv hx).2.1; unfold maxLen; omega
  have HLE : Hid (Calls Try.prog 12 #[.slice Al l.length cl] w (LtPost w L)) := Lib.hid (by rw [hL]; exact letters_any l Al _ cl rfl ln lm li w lr)
  have HNB : Hid (5 ≤ 30) := Lib.hid (by omega)
  have HWD : Hid (∀ AL q cq W, Below w.heap.size w W → AlR W L AL q cq → Calls Try.prog 15 #[.slice AL q cq, .slice Am m.length cm, .int .i64 (5)] W (WnPost W fun ws => ws.length = 5 ∧ ∀ k, k < 5 → (ws.getD k []).length ≤ 3 * (k + 1))) := Lib.hid fun AL q cq W hb ha => by
    have h1 := ((valP_iff L).1 hv).1
    have h2 := ((valP_iff L).1 hv).2.1
    have h3 := words_any L AL q cq (by rw [ha.len]; exact h1) (by rw [ha.len]; exact h2) m Am m.length cm rfl mn mm mi (5) HNB.out W ha (mr.below hb)
    exact h3
  have HRW : Hid (∀ W, Below w.heap.size w W → Calls Try.prog 16 #[.slice Awords nwords cwords] W (RwPost W)) := Lib.hid fun W hb => raw_hi words Awords nwords cwords W wordsn wordsc wordsm bwords owords (wordsr.below hb)
  have HLI : Hid (∀ W, Calls Try.prog 20 #[] W (BoolB W true)) := Lib.hid fun W => lives_any W
  have HV := Lib.hid hv
  have HCM : Hid (∀ (x y : List Int) (A A1 A2 : Option Addr) (q cq n1 c1 n2 c2 : Nat) (R : Int) (W : World), AlR W L A q cq → WdR W x A1 n1 c1 → WdR W y A2 n2 c2 → cmpU L x y 0 4 = R → Calls Try.prog 23 #[.slice A q cq, .slice A1 n1 c1, .slice A2 n2 c2] W (IPost W R)) := Lib.hid fun x y A A1 A2 q cq n1 c1 n2 c2 R W ha hx hy hR => compare_any L A A1 A2 q cq n1 c1 n2 c2 x y R (by rw [cmpP_yes hv, hR]) W ha hx hy
  clear hL hv li lr mi mr wordsr wordsn
  go_enter Try.func7, Try.ntmps7
  go_wp2_with (first
    | ((with_reducible refine HLE.out.mono ?_); rintro e w1 hp; obtain ⟨AL, q, cq, rfl, h1, h2, h3, h4, hb⟩ := lt_out hp; have HA : Hid (AlR w1 L AL q cq ∧ Below w.heap.size w w1) := Lib.hid ⟨⟨h1, h3, h4, HTX.out, h2⟩, hb⟩; have hqc : q ≤ cq := h3; have hqb : cq ≤ 9223372036854775807 := (by unfold maxLen at h4; omega); clear hp h1 h2 h3 h4 hb)
    | ((with_reducible refine (HWD.out _ _ _ _ HA.out.2 HA.out.1).mono ?_); rintro e w2 hp; obtain ⟨v1, xs, us, rfl, hul, hw⟩ := wn_out hp; have HU : Hid (us.length = 5 ∧ WnI w1 v1 xs us w2) := Lib.hid ⟨hul, hw⟩; clear hp hul hw)
    | ((with_reducible refine (HRW.out _ (below_next HA.out.2 HU.out.2.bel)).mono ?_); rintro e w3 hp; obtain ⟨v2, ys, vs, rfl, hvl, hw, hi⟩ := rw_out hp; have HR : Hid (vs.length ≤ 8 ∧ WnI w2 v2 ys vs w3 ∧ Hi w2.heap.size ys) := Lib.hid ⟨hvl, hw, hi⟩; have hu1 : us.length + vs.length ≤ maxLen := (by rw [HU.out.1]; have := HNB.out; unfold maxLen; omega); have hu2 : (us.length + vs.length) * 24 ≤ 140737488355328 := (by rw [HU.out.1]; have := HNB.out; omega); clear hp hvl hw hi)
    | (at_builtin; refine wpList_own_src rfl (.tmp 18) (.tmp 20) 23 23 rfl w1.heap.size 22 j0 _ 1 24 Try.underlying23 hj0 hy0 hy1 hy2 rfl _ _ _ rfl (own_keep HU.out.2.1 HR.out.2.1.bel) _ vs.length ys rfl (src_wn Try.underlying23 hy1 HR.out.2.1.1 HR.out.2.1.2.1.ws) hu1 hu2 (Nat.le_trans HU.out.2.bel.size HR.out.2.1.bel.size) ?_; intro v4 w4 hown4 hg4 hat4; obtain ⟨A4, c4, n4, ws, hv4, hn4, hws, hb4⟩ := join_out HU.out.2 HR.out.2.1 HR.out.2.2 hown4 hg4 hat4 HU.out.1 HNB.out HR.out.1; subst hv4; have HW : Hid (WsR w4 ws A4 n4 c4 ∧ Below w.heap.size w w4 ∧ AlR w4 L AL q cq) := Lib.hid ⟨hws, below_next HA.out.2 hb4, HA.out.1.below hb4⟩; have hc4 : n4 ≤ c4 := hws.cap; have hm4 : c4 ≤ 9223372036854775807 := (by have := hws.max; unfold maxLen at this; omega); clear hown4 hg4 hat4 hws hb4 hu1 hu2))
  obtain ⟨b4, o4, hA4⟩ := ws_or HW.out.1
  obtain ⟨b, o, rfl, hrl⟩ := rl_open HW.out.2.2.rd (val_ne HV.out)
  have HA4 := Lib.hid hA4
  have H5 : Hid (AlR w4 L (some ⟨b, o, none⟩) q cq ∧ Below w.heap.size w w4 ∧ n4 = ws.length) := Lib.hid ⟨HW.out.2.2, HW.out.2.1, HW.out.1.len⟩
  have HCO : Hid (∀ (x y : List Int) (A1 A2 : Option Addr) (n1 c1 n2 c2 : Nat) (R : Int) (W : World), Below w4.heap.size w4 W → WdR W x A1 n1 c1 → WdR W y A2 n2 c2 → R = cmpU L x y 0 4 → Calls Try.prog 23 #[.slice (some ⟨b, o, none⟩) q cq, .slice A1 n1 c1, .slice A2 n2 c2] W fun e w' => e = .returned (.int .i64 R) ∧ Below w4.heap.size w4 w') := Lib.hid fun x y A1 A2 n1 c1 n2 c2 R W hb hx hy hR => (HCM.out x y _ A1 A2 q cq n1 c1 n2 c2 R W (H5.out.1.below hb) hx hy hR.symm).mono fun e w' hp => ⟨hp.1, below_next hb hp.2⟩
  have HLV : Hid (∀ (x : List Int) (A1 : Option Addr) (n1 c1 : Nat) (W : World), Below w4.heap.size w4 W → WdR W x A1 n1 c1 → Calls Try.prog 32 #[.slice (some ⟨b, o, none⟩) q cq, .slice A1 n1 c1, .int .i64 4] W fun e w' => ∃ A3 n3 c3, e = .returned (.slice A3 n3 c3) ∧ WdR w' (lev L 3 x) A3 n3 c3 ∧ Below W.heap.size W w') := Lib.hid fun x A1 n1 c1 W hb hx => level_wd (H5.out.1.below hb) hx 3 (by omega) 4 rfl
  clear hA4 hrl HA HU HR HW HCM
  go_loopg [9, 10, 11, 12, 13] n4 (fun g s9 s10 s11 s12 s13 wr => ∃ (i : Nat), i + g = n4 ∧ s9 = .int .i64 (i : Int) ∧ Hid (Below w4.heap.size w4 wr))
  case atStart => exact ⟨0, by omega, rfl, Lib.hid (Below.refl _ _)⟩
  case round =>
    obtain ⟨i, hi, rfl, HI⟩ := hrel
    by_cases hlt : i < n4
    · obtain ⟨g, rfl⟩ : ∃ g, gk = g + 1 := ⟨gk - 1, by omega⟩
      obtain ⟨rfl, hwa⟩ : A4 = some ⟨b4, o4, none⟩ ∧ WsAt w4 b4 o4 ws := by
        rcases HA4.out with h | h
        · omega
        · exact h
      have HWA : Hid (∀ k, k < n4 → ∃ A n c, Hid (∀ W, Below w4.heap.size w4 W → W.cell? ⟨b4, o4 + k, none⟩ = some (.slice A n c) ∧ WdR W (ws.getD k []) A n c)) := Lib.hid fun k hk => by
        obtain ⟨A, n, c, h1, h2⟩ := hwa k (by rw [← H5.out.2.2]; exact hk)
        exact ⟨A, n, c, Lib.hid fun W hb => ⟨(hb.cell (p := ⟨b4, o4 + k, none⟩) (World.block_lt_of_cell? w4 _ h1)).trans h1, h2.below hb⟩⟩
      obtain ⟨Ai, ni, ci, HWI⟩ := HWA.out i hlt
      clear hwa
      go_wp2_with fail
      go_loopg [10, 11, 12, 13] n4 (fun g s10 s11 s12 s13 wr => ∃ (j : Nat), j + g = n4 ∧ s10 = .int .i64 (j : Int) ∧ Hid (Below w4.heap.size w4 wr))
      case atStart => exact ⟨0, by omega, rfl, Lib.hid HI.out⟩
      case round =>
        obtain ⟨j, hj, rfl, HJ⟩ := hrel
        by_cases hltj : j < n4
        · obtain ⟨g, rfl⟩ : ∃ g, gk = g + 1 := ⟨gk - 1, by omega⟩
          obtain ⟨Aj, nj, cj, HWJ⟩ := HWA.out j hltj
          rcases (cmpU_cmp L 4 0).rng (ws.getD i []) (ws.getD j []) with hx | hx | hx
          · skip
            have HC1 : Hid (∀ W, Below w4.heap.size w4 W → Calls Try.prog 23 #[.slice (some ⟨b, o, none⟩) q cq, .slice Ai ni ci, .slice Aj nj cj] W fun e w' => e = .returned (.int .i64 (-1)) ∧ Below w4.heap.size w4 w') := Lib.hid fun W hb => HCO.out _ _ _ _ _ _ _ _ (-1) W hb (HWI.out W hb).2 (HWJ.out W hb).2 hx.symm
            have HC2 : Hid (∀ W, Below w4.heap.size w4 W → Calls Try.prog 23 #[.slice (some ⟨b, o, none⟩) q cq, .slice Aj nj cj, .slice Ai ni ci] W fun e w' => e = .returned (.int .i64 1) ∧ Below w4.heap.size w4 w') := Lib.hid fun W hb => HCO.out _ _ _ _ _ _ _ _ 1 W hb (HWJ.out W hb).2 (HWI.out W hb).2 (by have h2 := (cmpU_cmp L 4 0).neg (ws.getD i []) (ws.getD j []); rw [hx] at h2; first | omega | (rw [h2]; rfl))
            have HSA : Hid (decide (lev L 3 (ws.getD i []) = lev L 3 (ws.getD j [])) = false) := Lib.hid (by exact decide_eq_false fun e => by have := (order_zero L _ _).2 e; rw [hx] at this; cases this)
            have HXV : Hid (cmpU L (ws.getD i []) (ws.getD j []) 0 4 = (-1)) := Lib.hid hx
            clear hx
            have l1 : ∀ p : Wo (Below w4.heap.size w4), p.wo.cell? ⟨b4, o4 + i, none⟩ = some (.slice Ai ni ci) := fun p => (HWI.out _ p.ok).1
            have l2 : ∀ p : Wo (Below w4.heap.size w4), p.wo.cell? ⟨b4, o4 + j, none⟩ = some (.slice Aj nj cj) := fun p => (HWJ.out _ p.ok).1
            go_wp2_with fail
            haveI : Nonempty (Wo (Below w4.heap.size w4)) := ⟨⟨wr, HJ.out⟩⟩
            refine wp_region_wo (Below w4.heap.size w4) mixedTry (by kernel_rfl) (below_drewN HJ.out 1) ?_
            repeat (go_big_quiet_step ((go_at_call 23; exact calls_wo HC1.out _)))
            refine wpQuiet_nil ?_
            intro x9 hw2
            obtain ⟨⟨x9x, hok⟩, hw3⟩ := hw2
            have hw4 : x9 = x9x := hw3
            subst hw4
            have Hx9 := Lib.hid hok
            clear hw3 hok
            go_wp2_with fail
            have hci9 := (HWI.out _ Hx9.out).1
            have hcj9 := (HWJ.out _ Hx9.out).1
            refine wp_region_held_drew (S := fun W' => W'.cell? ⟨b4, o4 + i, none⟩ = some (.slice Ai ni ci) ∧ W'.cell? ⟨b4, o4 + j, none⟩ = some (.slice Aj nj cj)) (by kernel_rfl) (⟨hci9, hcj9⟩) (fun hS0 => ?_)
            refine wpAnyH_take (i := 0) (oi := { dst := some 44, op := Op.move (Operand.tmp 7), type := 24, pos := "law.go:117", after := #[], guard := none }) (v := ?_) rfl (by kernel_rfl) (by kernel_rfl) (by kernel_rfl) (fun _ _ _ h => h) (Or.inl ⟨by rfl, ?_⟩) (by assumption) ?_
            rotate_left
            · (intro w' hSw; (try dsimp only at hSw); go_simp; try with_reducible rfl)
            try simp only [Act.put, List.setIfInBounds_toArray, List.set_cons_zero, List.set_cons_succ]
            refine wpAnyH_take (i := 1) (oi := { dst := some 45, op := Op.move (Operand.tmp 8), type := 23, pos := "law.go:117", after := #[], guard := none }) (v := ?_) rfl (by kernel_rfl) (by kernel_rfl) (by kernel_rfl) (fun _ _ _ h => h) (Or.inl ⟨by rfl, ?_⟩) (by assumption) ?_
            rotate_left
            · (intro w' hSw; (try dsimp only at hSw); go_simp; try with_reducible rfl)
            try simp only [Act.put, List.setIfInBounds_toArray, List.set_cons_zero, List.set_cons_succ]
            refine wpAnyH_take (i := 2) (oi := { dst := some 46, op := Op.move (Operand.tmp 9), type := 3, pos := "law.go:117", after := #[], guard := none }) (v := ?_) rfl (by kernel_rfl) (by kernel_rfl) (by kernel_rfl) (fun _ _ _ h => h) (Or.inl ⟨by rfl, ?_⟩) (by assumption) ?_
            rotate_left
            · (intro w' hSw; (try dsimp only at hSw); go_simp; try with_reducible rfl)
            try simp only [Act.put, List.setIfInBounds_toArray, List.set_cons_zero, List.set_cons_succ]
            refine wpAnyH_take (i := 3) (oi := { dst := some 47, op := Op.indexAddr 23 (Operand.tmp 45) (Operand.tmp 46), type := 0, pos := "law.go:117", after := #[{ on := 1, ground := Ground.data }, { on := 2, ground := Ground.data }], guard := none }) (v := ?_) rfl (by kernel_rfl) (by kernel_rfl) (by kernel_rfl) (fun _ _ _ h => h) (Or.inl ⟨by rfl, ?_⟩) (by assumption) ?_
            rotate_left
            · (intro w' hSw; (try dsimp only at hSw); go_simp; try with_reducible rfl)
            try simp only [Act.put, List.setIfInBounds_toArray, List.set_cons_zero, List.set_cons_succ]
            refine wpAnyH_take (i := 4) (oi := { dst := some 48, op := Op.load 22 (Operand.tmp 47), type := 22, pos := "law.go:117", after := #[{ on := 3, ground := Ground.data }], guard := none }) (v := ?_) rfl (by kernel_rfl) (by kernel_rfl) (by kernel_rfl) (fun _ _ _ h => h) (Or.inl ⟨by rfl, ?_⟩) (by assumption) ?_
            rotate_left
            · (intro w' hSw; (try dsimp only at hSw); go_simp; try with_reducible rfl)
            try simp only [Act.put, List.setIfInBounds_toArray, List.set_cons_zero, List.set_cons_succ]
            refine wpAnyH_take (i := 6) (oi := { dst := some 50, op := Op.move (Operand.tmp 7), type := 24, pos := "law.go:117", after := #[], guard := none }) (v := ?_) rfl (by kernel_rfl) (by kernel_rfl) (by kernel_rfl) (fun _ _ _ h => h) (Or.inl ⟨by rfl, ?_⟩) (by assumption) ?_
            rotate_left
            · (intro w' hSw; (try dsimp only at hSw); go_simp; try with_reducible rfl)
            try simp only [Act.put, List.setIfInBounds_toArray, List.set_cons_zero, List.set_cons_succ]
            refine wpAnyH_take (i := 7) (oi := { dst := some 51, op := Op.move (Operand.tmp 8), type := 23, pos := "law.go:117", after := #[], guard := none }) (v := ?_) rfl (by kernel_rfl) (by kernel_rfl) (by kernel_rfl) (fun _ _ _ h => h) (Or.inl ⟨by rfl, ?_⟩) (by assumption) ?_
            rotate_left
            · (intro w' hSw; (try dsimp only at hSw); go_simp; try with_reducible rfl)
            try simp only [Act.put, List.setIfInBounds_toArray, List.set_cons_zero, List.set_cons_succ]
            refine wpAnyH_take (i := 8) (oi := { dst := some 52, op := Op.move (Operand.tmp 10), type := 3, pos := "law.go:117", after := #[], guard := none }) (v := ?_) rfl (by kernel_rfl) (by kernel_rfl) (by kernel_rfl) (fun _ _ _ h => h) (Or.inl ⟨by rfl, ?_⟩) (by assumption) ?_
            rotate_left
            · (intro w' hSw; (try dsimp only at hSw); go_simp; try with_reducible rfl)
            try simp only [Act.put, List.setIfInBounds_toArray, List.set_cons_zero, List.set_cons_succ]
            refine wpAnyH_take (i := 9) (oi := { dst := some 53, op := Op.indexAddr 23 (Operand.tmp 51) (Operand.tmp 52), type := 0, pos := "law.go:117", after := #[{ on := 7, ground := Ground.data }, { on := 8, ground := Ground.data }], guard := none }) (v := ?_) rfl (by kernel_rfl) (by kernel_rfl) (by kernel_rfl) (fun _ _ _ h => h) (Or.inl ⟨by rfl, ?_⟩) (by assumption) ?_
            rotate_left
            · (intro w' hSw; (try dsimp only at hSw); go_simp; try with_reducible rfl)
            try simp only [Act.put, List.setIfInBounds_toArray, List.set_cons_zero, List.set_cons_succ]
            refine wpAnyH_take (i := 10) (oi := { dst := some 54, op := Op.load 22 (Operand.tmp 53), type := 22, pos := "law.go:117", after := #[{ on := 9, ground := Ground.data }], guard := none }) (v := ?_) rfl (by kernel_rfl) (by kernel_rfl) (by kernel_rfl) (fun _ _ _ h => h) (Or.inl ⟨by rfl, ?_⟩) (by assumption) ?_
            rotate_left
            · (intro w' hSw; (try dsimp only at hSw); go_simp; try with_reducible rfl)
            try simp only [Act.put, List.setIfInBounds_toArray, List.set_cons_zero, List.set_cons_succ]
            refine wpAnyH_ready (rs := [5]) (by kernel_rfl) (by simp) ?_
            refine AllReadyH.cons (o := { dst := some 49, op := Op.call { callee := Callee.value (Operand.func 32), args := #[Operand.tmp 44, Operand.tmp 48, Operand.const (Value.int IntKind.i64 4)], argTypes := #[24, 22, 3] }, type := 22, pos := "law.go:117", after := #[{ on := 0, ground := Ground.data }, { on := 4, ground := Ground.data }], guard := none }) rfl (fun K hK => ?_) AllReadyH.nil
            go_simp
            go_at_call 32
            refine (HLV.out _ _ _ _ _ (below_drewN Hx9.out 1) (HWI.out _ (below_drewN Hx9.out 1)).2).mono ?_
            rintro e xa hp
            obtain ⟨P1, nP1, cP1, rfl, hwd, hb⟩ := hp
            have Hxa : Hid (Below w4.heap.size w4 xa ∧ WdR xa (lev L 3 (ws.getD i [])) P1 nP1 cP1) := Lib.hid ⟨below_next (below_drewN Hx9.out 1) hb, hwd⟩
            clear hwd hb
            refine hK.out _ _ ⟨(HWI.out _ Hxa.out.1).1, (HWJ.out _ Hxa.out.1).1⟩ (fun hSxa => ?_)
            clear hK K hS0
            try simp only [Act.put, List.setIfInBounds_toArray, List.set_cons_zero, List.set_cons_succ]
            refine wpAnyH_ready (rs := [11]) (by kernel_rfl) (by simp) ?_
            refine AllReadyH.cons (o := { dst := some 55, op := Op.call { callee := Callee.value (Operand.func 32), args := #[Operand.tmp 50, Operand.tmp 54, Operand.const (Value.int IntKind.i64 4)], argTypes := #[24, 22, 3] }, type := 22, pos := "law.go:117", after := #[{ on := 6, ground := Ground.data }, { on := 10, ground := Ground.data }, { on := 5, ground := Ground.chain }], guard := none }) rfl (fun K hK => ?_) AllReadyH.nil
            go_simp
            go_at_call 32
            refine (HLV.out _ _ _ _ _ Hxa.out.1 (HWJ.out _ Hxa.out.1).2).mono ?_
            rintro e xb hp
            obtain ⟨P2, nP2, cP2, rfl, hwd, hb⟩ := hp
            have HBAB : Hid (Below xa.heap.size xa xb) := Lib.hid hb
            have Hxb : Hid (Below w4.heap.size w4 xb ∧ WdR xb (lev L 3 (ws.getD j [])) P2 nP2 cP2) := Lib.hid ⟨below_next Hxa.out.1 hb, hwd⟩
            clear hwd hb
            refine hK.out _ _ ⟨(HWI.out _ Hxb.out.1).1, (HWJ.out _ Hxb.out.1).1⟩ (fun hSxb => ?_)
            clear hK K hSxa
            try simp only [Act.put, List.setIfInBounds_toArray, List.set_cons_zero, List.set_cons_succ]
            refine wpAnyH_ready (rs := [12]) (by kernel_rfl) (by simp) ?_
            refine AllReadyH.cons (o := { dst := some 56, op := Op.call { callee := Callee.value (Operand.func 17), args := #[Operand.tmp 49, Operand.tmp 55], argTypes := #[22, 22] }, type := 4, pos := "law.go:117", after := #[{ on := 5, ground := Ground.data }, { on := 11, ground := Ground.data }, { on := 11, ground := Ground.chain }], guard := none }) rfl (fun K hK => ?_) AllReadyH.nil
            go_simp
            go_at_call 17
            refine (same_any (lev L 3 (ws.getD i [])) (lev L 3 (ws.getD j [])) _ _ _ _ _ _ Hxa.out.2.len Hxb.out.2.len (by have := Hxa.out.2.cap; have := Hxa.out.2.max; omega) false HSA.out.symm _ (Hxa.out.2.rd.below HBAB.out) Hxb.out.2.rd).mono ?_
            rintro e xc hp
            obtain ⟨rfl, hb⟩ := boolb_out hp
            have Hxc : Hid (Below w4.heap.size w4 xc) := Lib.hid (below_next Hxb.out.1 hb)
            clear hp hb
            refine hK.out _ _ ⟨(HWI.out _ Hxc.out).1, (HWJ.out _ Hxc.out).1⟩ (fun hSxc => ?_)
            clear hK K hSxb
            try simp only [Act.put, List.setIfInBounds_toArray, List.set_cons_zero, List.set_cons_succ]
            refine wpAnyH_take (i := 13) (oi := { dst := some 12, op := Op.assign (Operand.tmp 56), type := 4, pos := "law.go:117", after := #[{ on := 12, ground := Ground.data }, { on := 12, ground := Ground.chain }, { on := 0, ground := Ground.phase }, { on := 1, ground := Ground.phase }, { on := 2, ground := Ground.phase }, { on := 3, ground := Ground.phase }, { on := 4, ground := Ground.phase }, { on := 5, ground := Ground.phase }, { on := 6, ground := Ground.phase }, { on := 7, ground := Ground.phase }, { on := 8, ground := Ground.phase }, { on := 9, ground := Ground.phase }, { on := 10, ground := Ground.phase }, { on := 11, ground := Ground.phase }, { on := 12, ground := Ground.phase }], guard := none }) (v := ?_) rfl (by kernel_rfl) (by kernel_rfl) (by kernel_rfl) (fun _ _ _ h => h) (Or.inl ⟨by rfl, ?_⟩) (by assumption) ?_
            rotate_left
            · (intro w' hSw; (try dsimp only at hSw); go_simp; try with_reducible rfl)
            try simp only [Act.put, List.setIfInBounds_toArray, List.set_cons_zero, List.set_cons_succ]
            refine wpAnyH_done (by kernel_rfl) ?_ _
            go_wp2_with fail
            haveI : Nonempty (Wo (Below w4.heap.size w4)) := ⟨⟨xc, Hxc.out⟩⟩
            refine wp_region_wo (Below w4.heap.size w4) mixedTry (by kernel_rfl) (below_drewN Hxc.out 1) ?_
            repeat (go_big_quiet_step ((go_at_call 23; exact calls_wo HC2.out _)))
            refine wpQuiet_nil ?_
            intro xd hw2
            obtain ⟨⟨xdx, hok⟩, hw3⟩ := hw2
            have hw4 : xd = xdx := hw3
            subst hw4
            have Hxd := Lib.hid hok
            clear hw3 hok
            go_wp2_with fail
            go_loopg [13] n4 (fun g s13 wr => ∃ (k : Nat), k + g = n4 ∧ s13 = .int .i64 (k : Int) ∧ Hid (Below w4.heap.size w4 wr))
            case atStart => exact ⟨0, by omega, rfl, Lib.hid Hxd.out⟩
            case round =>
              obtain ⟨k, hk, rfl, HK⟩ := hrel
              by_cases hltk : k < n4
              · obtain ⟨g, rfl⟩ : ∃ g, gk = g + 1 := ⟨gk - 1, by omega⟩
                obtain ⟨Ak, nk, ck, HWK⟩ := HWA.out k hltk
                have l3 : ∀ p : Wo (Below w4.heap.size w4), p.wo.cell? ⟨b4, o4 + k, none⟩ = some (.slice Ak nk ck) := fun p => (HWK.out _ p.ok).1
                obtain ⟨r1, hr1⟩ : ∃ r, r = cmpU L (ws.getD j []) (ws.getD k []) 0 4 := ⟨_, rfl⟩
                obtain ⟨r2, hr2⟩ : ∃ r, r = cmpU L (ws.getD i []) (ws.getD k []) 0 4 := ⟨_, rfl⟩
                have HD1 : Hid (∀ W, Below w4.heap.size w4 W → Calls Try.prog 23 #[.slice (some ⟨b, o, none⟩) q cq, .slice Aj nj cj, .slice Ak nk ck] W fun e w' => e = .returned (.int .i64 r1) ∧ Below w4.heap.size w4 w') := Lib.hid fun W hb => HCO.out _ _ _ _ _ _ _ _ r1 W hb (HWJ.out W hb).2 (HWK.out W hb).2 hr1
                have HD2 : Hid (∀ W, Below w4.heap.size w4 W → Calls Try.prog 23 #[.slice (some ⟨b, o, none⟩) q cq, .slice Ai ni ci, .slice Ak nk ck] W fun e w' => e = .returned (.int .i64 r2) ∧ Below w4.heap.size w4 w') := Lib.hid fun W hb => HCO.out _ _ _ _ _ _ _ _ r2 W hb (HWI.out W hb).2 (HWK.out W hb).2 hr2
                by_cases hle : r1 ≤ 0
                · have hd1 : decide (r1 ≤ 0) = true := decide_eq_true hle
                  have hd2 : decide (0 < r2) = false := decide_eq_false (by have := (cmpU_cmp L 4 0).tr (a := ws.getD i []) (b := ws.getD j []) (d := ws.getD k []) (by rw [HXV.out]; omega) (by rw [← hr1]; exact hle); rw [← hr2] at this; omega)
                  clear hr1 hr2 hle
                  go_wp2_with fail
                  haveI : Nonempty (Wo (Below w4.heap.size w4)) := ⟨⟨wr, HK.out⟩⟩
                  refine wp_region_wo (Below w4.heap.size w4) mixedTry (by kernel_rfl) (below_drewN HK.out 1) ?_
                  iterate 13 (go_big_quiet_step ((go_at_call 23; exact calls_wo HD1.out _)))
                  repeat (go_big_quiet_step ((go_at_call 23; exact calls_wo HD2.out _)))
                  refine wpQuiet_nil ?_
                  intro xe hw2
                  obtain ⟨⟨xex, hok⟩, hw3⟩ := hw2
                  have hw4 : xe = xex := hw3
                  subst hw4
                  have Hxe := Lib.hid hok
                  clear hw3 hok
                  go_wp2_with fail
                  go_roundg g
                  case rel => exact ⟨k + 1, by omega, by go_num, Lib.hid Hxe.out⟩
                  case measure => omega
                · have hd1 : decide (r1 ≤ 0) = false := decide_eq_false hle
                  clear hr1 hr2 hle
                  go_wp2_with fail
                  haveI : Nonempty (Wo (Below w4.heap.size w4)) := ⟨⟨wr, HK.out⟩⟩
                  refine wp_region_wo (Below w4.heap.size w4) mixedTry (by kernel_rfl) (below_drewN HK.out 1) ?_
                  iterate 13 (go_big_quiet_step ((go_at_call 23; exact calls_wo HD1.out _)))
                  repeat (go_big_quiet_step ((go_at_call 23; exact calls_wo HD2.out _)))
                  refine wpQuiet_nil ?_
                  intro xe hw2
                  obtain ⟨⟨xex, hok⟩, hw3⟩ := hw2
                  have hw4 : xe = xex := hw3
                  subst hw4
                  have Hxe := Lib.hid hok
                  clear hw3 hok
                  go_wp2_with fail
                  go_roundg g
                  case rel => exact ⟨k + 1, by omega, by go_num, Lib.hid Hxe.out⟩
                  case measure => omega
              · obtain rfl : k = n4 := by omega
                go_wp2_with fail
                go_roundg g
                case rel => exact ⟨j + 1, by omega, by go_num, Lib.hid HK.out⟩
                case measure => omega
          · skip
            have HC1 : Hid (∀ W, Below w4.heap.size w4 W → Calls Try.prog 23 #[.slice (some ⟨b, o, none⟩) q cq, .slice Ai ni ci, .slice Aj nj cj] W fun e w' => e = .returned (.int .i64 0) ∧ Below w4.heap.size w4 w') := Lib.hid fun W hb => HCO.out _ _ _ _ _ _ _ _ 0 W hb (HWI.out W hb).2 (HWJ.out W hb).2 hx.symm
            have HC2 : Hid (∀ W, Below w4.heap.size w4 W → Calls Try.prog 23 #[.slice (some ⟨b, o, none⟩) q cq, .slice Aj nj cj, .slice Ai ni ci] W fun e w' => e = .returned (.int .i64 0) ∧ Below w4.heap.size w4 w') := Lib.hid fun W hb => HCO.out _ _ _ _ _ _ _ _ 0 W hb (HWJ.out W hb).2 (HWI.out W hb).2 (by have h2 := (cmpU_cmp L 4 0).neg (ws.getD i []) (ws.getD j []); rw [hx] at h2; first | omega | (rw [h2]; rfl))
            have HSA : Hid (decide (lev L 3 (ws.getD i []) = lev L 3 (ws.getD j [])) = true) := Lib.hid (by exact decide_eq_true ((order_zero L _ _).1 hx))
            have HXV : Hid (cmpU L (ws.getD i []) (ws.getD j []) 0 4 = 0) := Lib.hid hx
            clear hx
            have l1 : ∀ p : Wo (Below w4.heap.size w4), p.wo.cell? ⟨b4, o4 + i, none⟩ = some (.slice Ai ni ci) := fun p => (HWI.out _ p.ok).1
            have l2 : ∀ p : Wo (Below w4.heap.size w4), p.wo.cell? ⟨b4, o4 + j, none⟩ = some (.slice Aj nj cj) := fun p => (HWJ.out _ p.ok).1
            go_wp2_with fail
            haveI : Nonempty (Wo (Below w4.heap.size w4)) := ⟨⟨wr, HJ.out⟩⟩
            refine wp_region_wo (Below w4.heap.size w4) mixedTry (by kernel_rfl) (below_drewN HJ.out 1) ?_
            repeat (go_big_quiet_step ((go_at_call 23; exact calls_wo HC1.out _)))
            refine wpQuiet_nil ?_
            intro x9 hw2
            obtain ⟨⟨x9x, hok⟩, hw3⟩ := hw2
            have hw4 : x9 = x9x := hw3
            subst hw4
            have Hx9 := Lib.hid hok
            clear hw3 hok
            go_wp2_with fail
            have hci9 := (HWI.out _ Hx9.out).1
            have hcj9 := (HWJ.out _ Hx9.out).1
            refine wp_region_held_drew (S := fun W' => W'.cell? ⟨b4, o4 + i, none⟩ = some (.slice Ai ni ci) ∧ W'.cell? ⟨b4, o4 + j, none⟩ = some (.slice Aj nj cj)) (by kernel_rfl) (⟨hci9, hcj9⟩) (fun hS0 => ?_)
            refine wpAnyH_take (i := 0) (oi := { dst := some 44, op := Op.move (Operand.tmp 7), type := 24, pos := "law.go:117", after := #[], guard := none }) (v := ?_) rfl (by kernel_rfl) (by kernel_rfl) (by kernel_rfl) (fun _ _ _ h => h) (Or.inl ⟨by rfl, ?_⟩) (by assumption) ?_
            rotate_left
            · (intro w' hSw; (try dsimp only at hSw); go_simp; try with_reducible rfl)
            try simp only [Act.put, List.setIfInBounds_toArray, List.set_cons_zero, List.set_cons_succ]
            refine wpAnyH_take (i := 1) (oi := { dst := some 45, op := Op.move (Operand.tmp 8), type := 23, pos := "law.go:117", after := #[], guard := none }) (v := ?_) rfl (by kernel_rfl) (by kernel_rfl) (by kernel_rfl) (fun _ _ _ h => h) (Or.inl ⟨by rfl, ?_⟩) (by assumption) ?_
            rotate_left
            · (intro w' hSw; (try dsimp only at hSw); go_simp; try with_reducible rfl)
            try simp only [Act.put, List.setIfInBounds_toArray, List.set_cons_zero, List.set_cons_succ]
            refine wpAnyH_take (i := 2) (oi := { dst := some 46, op := Op.move (Operand.tmp 9), type := 3, pos := "law.go:117", after := #[], guard := none }) (v := ?_) rfl (by kernel_rfl) (by kernel_rfl) (by kernel_rfl) (fun _ _ _ h => h) (Or.inl ⟨by rfl, ?_⟩) (by assumption) ?_
            rotate_left
            · (intro w' hSw; (try dsimp only at hSw); go_simp; try with_reducible rfl)
            try simp only [Act.put, List.setIfInBounds_toArray, List.set_cons_zero, List.set_cons_succ]
            refine wpAnyH_take (i := 3) (oi := { dst := some 47, op := Op.indexAddr 23 (Operand.tmp 45) (Operand.tmp 46), type := 0, pos := "law.go:117", after := #[{ on := 1, ground := Ground.data }, { on := 2, ground := Ground.data }], guard := none }) (v := ?_) rfl (by kernel_rfl) (by kernel_rfl) (by kernel_rfl) (fun _ _ _ h => h) (Or.inl ⟨by rfl, ?_⟩) (by assumption) ?_
            rotate_left
            · (intro w' hSw; (try dsimp only at hSw); go_simp; try with_reducible rfl)
            try simp only [Act.put, List.setIfInBounds_toArray, List.set_cons_zero, List.set_cons_succ]
            refine wpAnyH_take (i := 4) (oi := { dst := some 48, op := Op.load 22 (Operand.tmp 47), type := 22, pos := "law.go:117", after := #[{ on := 3, ground := Ground.data }], guard := none }) (v := ?_) rfl (by kernel_rfl) (by kernel_rfl) (by kernel_rfl) (fun _ _ _ h => h) (Or.inl ⟨by rfl, ?_⟩) (by assumption) ?_
            rotate_left
            · (intro w' hSw; (try dsimp only at hSw); go_simp; try with_reducible rfl)
            try simp only [Act.put, List.setIfInBounds_toArray, List.set_cons_zero, List.set_cons_succ]
            refine wpAnyH_take (i := 6) (oi := { dst := some 50, op := Op.move (Operand.tmp 7), type := 24, pos := "law.go:117", after := #[], guard := none }) (v := ?_) rfl (by kernel_rfl) (by kernel_rfl) (by kernel_rfl) (fun _ _ _ h => h) (Or.inl ⟨by rfl, ?_⟩) (by assumption) ?_
            rotate_left
            · (intro w' hSw; (try dsimp only at hSw); go_simp; try with_reducible rfl)
            try simp only [Act.put, List.setIfInBounds_toArray, List.set_cons_zero, List.set_cons_succ]
            refine wpAnyH_take (i := 7) (oi := { dst := some 51, op := Op.move (Operand.tmp 8), type := 23, pos := "law.go:117", after := #[], guard := none }) (v := ?_) rfl (by kernel_rfl) (by kernel_rfl) (by kernel_rfl) (fun _ _ _ h => h) (Or.inl ⟨by rfl, ?_⟩) (by assumption) ?_
            rotate_left
            · (intro w' hSw; (try dsimp only at hSw); go_simp; try with_reducible rfl)
            try simp only [Act.put, List.setIfInBounds_toArray, List.set_cons_zero, List.set_cons_succ]
            refine wpAnyH_take (i := 8) (oi := { dst := some 52, op := Op.move (Operand.tmp 10), type := 3, pos := "law.go:117", after := #[], guard := none }) (v := ?_) rfl (by kernel_rfl) (by kernel_rfl) (by kernel_rfl) (fun _ _ _ h => h) (Or.inl ⟨by rfl, ?_⟩) (by assumption) ?_
            rotate_left
            · (intro w' hSw; (try dsimp only at hSw); go_simp; try with_reducible rfl)
            try simp only [Act.put, List.setIfInBounds_toArray, List.set_cons_zero, List.set_cons_succ]
            refine wpAnyH_take (i := 9) (oi := { dst := some 53, op := Op.indexAddr 23 (Operand.tmp 51) (Operand.tmp 52), type := 0, pos := "law.go:117", after := #[{ on := 7, ground := Ground.data }, { on := 8, ground := Ground.data }], guard := none }) (v := ?_) rfl (by kernel_rfl) (by kernel_rfl) (by kernel_rfl) (fun _ _ _ h => h) (Or.inl ⟨by rfl, ?_⟩) (by assumption) ?_
            rotate_left
            · (intro w' hSw; (try dsimp only at hSw); go_simp; try with_reducible rfl)
            try simp only [Act.put, List.setIfInBounds_toArray, List.set_cons_zero, List.set_cons_succ]
            refine wpAnyH_take (i := 10) (oi := { dst := some 54, op := Op.load 22 (Operand.tmp 53), type := 22, pos := "law.go:117", after := #[{ on := 9, ground := Ground.data }], guard := none }) (v := ?_) rfl (by kernel_rfl) (by kernel_rfl) (by kernel_rfl) (fun _ _ _ h => h) (Or.inl ⟨by rfl, ?_⟩) (by assumption) ?_
            rotate_left
            · (intro w' hSw; (try dsimp only at hSw); go_simp; try with_reducible rfl)
            try simp only [Act.put, List.setIfInBounds_toArray, List.set_cons_zero, List.set_cons_succ]
            refine wpAnyH_ready (rs := [5]) (by kernel_rfl) (by simp) ?_
            refine AllReadyH.cons (o := { dst := some 49, op := Op.call { callee := Callee.value (Operand.func 32), args := #[Operand.tmp 44, Operand.tmp 48, Operand.const (Value.int IntKind.i64 4)], argTypes := #[24, 22, 3] }, type := 22, pos := "law.go:117", after := #[{ on := 0, ground := Ground.data }, { on := 4, ground := Ground.data }], guard := none }) rfl (fun K hK => ?_) AllReadyH.nil
            go_simp
            go_at_call 32
            refine (HLV.out _ _ _ _ _ (below_drewN Hx9.out 1) (HWI.out _ (below_drewN Hx9.out 1)).2).mono ?_
            rintro e xa hp
            obtain ⟨P1, nP1, cP1, rfl, hwd, hb⟩ := hp
            have Hxa : Hid (Below w4.heap.size w4 xa ∧ WdR xa (lev L 3 (ws.getD i [])) P1 nP1 cP1) := Lib.hid ⟨below_next (below_drewN Hx9.out 1) hb, hwd⟩
            clear hwd hb
            refine hK.out _ _ ⟨(HWI.out _ Hxa.out.1).1, (HWJ.out _ Hxa.out.1).1⟩ (fun hSxa => ?_)
            clear hK K hS0
            try simp only [Act.put, List.setIfInBounds_toArray, List.set_cons_zero, List.set_cons_succ]
            refine wpAnyH_ready (rs := [11]) (by kernel_rfl) (by simp) ?_
            refine AllReadyH.cons (o := { dst := some 55, op := Op.call { callee := Callee.value (Operand.func 32), args := #[Operand.tmp 50, Operand.tmp 54, Operand.const (Value.int IntKind.i64 4)], argTypes := #[24, 22, 3] }, type := 22, pos := "law.go:117", after := #[{ on := 6, ground := Ground.data }, { on := 10, ground := Ground.data }, { on := 5, ground := Ground.chain }], guard := none }) rfl (fun K hK => ?_) AllReadyH.nil
            go_simp
            go_at_call 32
            refine (HLV.out _ _ _ _ _ Hxa.out.1 (HWJ.out _ Hxa.out.1).2).mono ?_
            rintro e xb hp
            obtain ⟨P2, nP2, cP2, rfl, hwd, hb⟩ := hp
            have HBAB : Hid (Below xa.heap.size xa xb) := Lib.hid hb
            have Hxb : Hid (Below w4.heap.size w4 xb ∧ WdR xb (lev L 3 (ws.getD j [])) P2 nP2 cP2) := Lib.hid ⟨below_next Hxa.out.1 hb, hwd⟩
            clear hwd hb
            refine hK.out _ _ ⟨(HWI.out _ Hxb.out.1).1, (HWJ.out _ Hxb.out.1).1⟩ (fun hSxb => ?_)
            clear hK K hSxa
            try simp only [Act.put, List.setIfInBounds_toArray, List.set_cons_zero, List.set_cons_succ]
            refine wpAnyH_ready (rs := [12]) (by kernel_rfl) (by simp) ?_
            refine AllReadyH.cons (o := { dst := some 56, op := Op.call { callee := Callee.value (Operand.func 17), args := #[Operand.tmp 49, Operand.tmp 55], argTypes := #[22, 22] }, type := 4, pos := "law.go:117", after := #[{ on := 5, ground := Ground.data }, { on := 11, ground := Ground.data }, { on := 11, ground := Ground.chain }], guard := none }) rfl (fun K hK => ?_) AllReadyH.nil
            go_simp
            go_at_call 17
            refine (same_any (lev L 3 (ws.getD i [])) (lev L 3 (ws.getD j [])) _ _ _ _ _ _ Hxa.out.2.len Hxb.out.2.len (by have := Hxa.out.2.cap; have := Hxa.out.2.max; omega) true HSA.out.symm _ (Hxa.out.2.rd.below HBAB.out) Hxb.out.2.rd).mono ?_
            rintro e xc hp
            obtain ⟨rfl, hb⟩ := boolb_out hp
            have Hxc : Hid (Below w4.heap.size w4 xc) := Lib.hid (below_next Hxb.out.1 hb)
            clear hp hb
            refine hK.out _ _ ⟨(HWI.out _ Hxc.out).1, (HWJ.out _ Hxc.out).1⟩ (fun hSxc => ?_)
            clear hK K hSxb
            try simp only [Act.put, List.setIfInBounds_toArray, List.set_cons_zero, List.set_cons_succ]
            refine wpAnyH_take (i := 13) (oi := { dst := some 12, op := Op.assign (Operand.tmp 56), type := 4, pos := "law.go:117", after := #[{ on := 12, ground := Ground.data }, { on := 12, ground := Ground.chain }, { on := 0, ground := Ground.phase }, { on := 1, ground := Ground.phase }, { on := 2, ground := Ground.phase }, { on := 3, ground := Ground.phase }, { on := 4, ground := Ground.phase }, { on := 5, ground := Ground.phase }, { on := 6, ground := Ground.phase }, { on := 7, ground := Ground.phase }, { on := 8, ground := Ground.phase }, { on := 9, ground := Ground.phase }, { on := 10, ground := Ground.phase }, { on := 11, ground := Ground.phase }, { on := 12, ground := Ground.phase }], guard := none }) (v := ?_) rfl (by kernel_rfl) (by kernel_rfl) (by kernel_rfl) (fun _ _ _ h => h) (Or.inl ⟨by rfl, ?_⟩) (by assumption) ?_
            rotate_left
            · (intro w' hSw; (try dsimp only at hSw); go_simp; try with_reducible rfl)
            try simp only [Act.put, List.setIfInBounds_toArray, List.set_cons_zero, List.set_cons_succ]
            refine wpAnyH_done (by kernel_rfl) ?_ _
            go_wp2_with fail
            haveI : Nonempty (Wo (Below w4.heap.size w4)) := ⟨⟨xc, Hxc.out⟩⟩
            refine wp_region_wo (Below w4.heap.size w4) mixedTry (by kernel_rfl) (below_drewN Hxc.out 1) ?_
            repeat (go_big_quiet_step ((go_at_call 23; exact calls_wo HC2.out _)))
            refine wpQuiet_nil ?_
            intro xd hw2
            obtain ⟨⟨xdx, hok⟩, hw3⟩ := hw2
            have hw4 : xd = xdx := hw3
            subst hw4
            have Hxd := Lib.hid hok
            clear hw3 hok
            go_wp2_with fail
            go_loopg [13] n4 (fun g s13 wr => ∃ (k : Nat), k + g = n4 ∧ s13 = .int .i64 (k : Int) ∧ Hid (Below w4.heap.size w4 wr))
            case atStart => exact ⟨0, by omega, rfl, Lib.hid Hxd.out⟩
            case round =>
              obtain ⟨k, hk, rfl, HK⟩ := hrel
              by_cases hltk : k < n4
              · obtain ⟨g, rfl⟩ : ∃ g, gk = g + 1 := ⟨gk - 1, by omega⟩
                obtain ⟨Ak, nk, ck, HWK⟩ := HWA.out k hltk
                have l3 : ∀ p : Wo (Below w4.heap.size w4), p.wo.cell? ⟨b4, o4 + k, none⟩ = some (.slice Ak nk ck) := fun p => (HWK.out _ p.ok).1
                obtain ⟨r1, hr1⟩ : ∃ r, r = cmpU L (ws.getD j []) (ws.getD k []) 0 4 := ⟨_, rfl⟩
                obtain ⟨r2, hr2⟩ : ∃ r, r = cmpU L (ws.getD i []) (ws.getD k []) 0 4 := ⟨_, rfl⟩
                have HD1 : Hid (∀ W, Below w4.heap.size w4 W → Calls Try.prog 23 #[.slice (some ⟨b, o, none⟩) q cq, .slice Aj nj cj, .slice Ak nk ck] W fun e w' => e = .returned (.int .i64 r1) ∧ Below w4.heap.size w4 w') := Lib.hid fun W hb => HCO.out _ _ _ _ _ _ _ _ r1 W hb (HWJ.out W hb).2 (HWK.out W hb).2 hr1
                have HD2 : Hid (∀ W, Below w4.heap.size w4 W → Calls Try.prog 23 #[.slice (some ⟨b, o, none⟩) q cq, .slice Ai ni ci, .slice Ak nk ck] W fun e w' => e = .returned (.int .i64 r2) ∧ Below w4.heap.size w4 w') := Lib.hid fun W hb => HCO.out _ _ _ _ _ _ _ _ r2 W hb (HWI.out W hb).2 (HWK.out W hb).2 hr2
                by_cases hle : r1 ≤ 0
                · have hd1 : decide (r1 ≤ 0) = true := decide_eq_true hle
                  have hd2 : decide (0 < r2) = false := decide_eq_false (by have := (cmpU_cmp L 4 0).tr (a := ws.getD i []) (b := ws.getD j []) (d := ws.getD k []) (by rw [HXV.out]; omega) (by rw [← hr1]; exact hle); rw [← hr2] at this; omega)
                  clear hr1 hr2 hle
                  go_wp2_with fail
                  haveI : Nonempty (Wo (Below w4.heap.size w4)) := ⟨⟨wr, HK.out⟩⟩
                  refine wp_region_wo (Below w4.heap.size w4) mixedTry (by kernel_rfl) (below_drewN HK.out 1) ?_
                  iterate 13 (go_big_quiet_step ((go_at_call 23; exact calls_wo HD1.out _)))
                  repeat (go_big_quiet_step ((go_at_call 23; exact calls_wo HD2.out _)))
                  refine wpQuiet_nil ?_
                  intro xe hw2
                  obtain ⟨⟨xex, hok⟩, hw3⟩ := hw2
                  have hw4 : xe = xex := hw3
                  subst hw4
                  have Hxe := Lib.hid hok
                  clear hw3 hok
                  go_wp2_with fail
                  go_roundg g
                  case rel => exact ⟨k + 1, by omega, by go_num, Lib.hid Hxe.out⟩
                  case measure => omega
                · have hd1 : decide (r1 ≤ 0) = false := decide_eq_false hle
                  clear hr1 hr2 hle
                  go_wp2_with fail
                  haveI : Nonempty (Wo (Below w4.heap.size w4)) := ⟨⟨wr, HK.out⟩⟩
                  refine wp_region_wo (Below w4.heap.size w4) mixedTry (by kernel_rfl) (below_drewN HK.out 1) ?_
                  iterate 13 (go_big_quiet_step ((go_at_call 23; exact calls_wo HD1.out _)))
                  repeat (go_big_quiet_step ((go_at_call 23; exact calls_wo HD2.out _)))
                  refine wpQuiet_nil ?_
                  intro xe hw2
                  obtain ⟨⟨xex, hok⟩, hw3⟩ := hw2
                  have hw4 : xe = xex := hw3
                  subst hw4
                  have Hxe := Lib.hid hok
                  clear hw3 hok
                  go_wp2_with fail
                  go_roundg g
                  case rel => exact ⟨k + 1, by omega, by go_num, Lib.hid Hxe.out⟩
                  case measure => omega
              · obtain rfl : k = n4 := by omega
                go_wp2_with fail
                go_roundg g
                case rel => exact ⟨j + 1, by omega, by go_num, Lib.hid HK.out⟩
                case measure => omega
          · skip
            have HC1 : Hid (∀ W, Below w4.heap.size w4 W → Calls Try.prog 23 #[.slice (some ⟨b, o, none⟩) q cq, .slice Ai ni ci, .slice Aj nj cj] W fun e w' => e = .returned (.int .i64 1) ∧ Below w4.heap.size w4 w') := Lib.hid fun W hb => HCO.out _ _ _ _ _ _ _ _ 1 W hb (HWI.out W hb).2 (HWJ.out W hb).2 hx.symm
            have HC2 : Hid (∀ W, Below w4.heap.size w4 W → Calls Try.prog 23 #[.slice (some ⟨b, o, none⟩) q cq, .slice Aj nj cj, .slice Ai ni ci] W fun e w' => e = .returned (.int .i64 (-1)) ∧ Below w4.heap.size w4 w') := Lib.hid fun W hb => HCO.out _ _ _ _ _ _ _ _ (-1) W hb (HWJ.out W hb).2 (HWI.out W hb).2 (by have h2 := (cmpU_cmp L 4 0).neg (ws.getD i []) (ws.getD j []); rw [hx] at h2; first | omega | (rw [h2]; rfl))
            have HSA : Hid (decide (lev L 3 (ws.getD i []) = lev L 3 (ws.getD j [])) = false) := Lib.hid (by exact decide_eq_false fun e => by have := (order_zero L _ _).2 e; rw [hx] at this; cases this)
            have HXV : Hid (cmpU L (ws.getD i []) (ws.getD j []) 0 4 = 1) := Lib.hid hx
            clear hx
            have l1 : ∀ p : Wo (Below w4.heap.size w4), p.wo.cell? ⟨b4, o4 + i, none⟩ = some (.slice Ai ni ci) := fun p => (HWI.out _ p.ok).1
            have l2 : ∀ p : Wo (Below w4.heap.size w4), p.wo.cell? ⟨b4, o4 + j, none⟩ = some (.slice Aj nj cj) := fun p => (HWJ.out _ p.ok).1
            go_wp2_with fail
            haveI : Nonempty (Wo (Below w4.heap.size w4)) := ⟨⟨wr, HJ.out⟩⟩
            refine wp_region_wo (Below w4.heap.size w4) mixedTry (by kernel_rfl) (below_drewN HJ.out 1) ?_
            repeat (go_big_quiet_step ((go_at_call 23; exact calls_wo HC1.out _)))
            refine wpQuiet_nil ?_
            intro x9 hw2
            obtain ⟨⟨x9x, hok⟩, hw3⟩ := hw2
            have hw4 : x9 = x9x := hw3
            subst hw4
            have Hx9 := Lib.hid hok
            clear hw3 hok
            go_wp2_with fail
            have hci9 := (HWI.out _ Hx9.out).1
            have hcj9 := (HWJ.out _ Hx9.out).1
            refine wp_region_held_drew (S := fun W' => W'.cell? ⟨b4, o4 + i, none⟩ = some (.slice Ai ni ci) ∧ W'.cell? ⟨b4, o4 + j, none⟩ = some (.slice Aj nj cj)) (by kernel_rfl) (⟨hci9, hcj9⟩) (fun hS0 => ?_)
            refine wpAnyH_take (i := 0) (oi := { dst := some 44, op := Op.move (Operand.tmp 7), type := 24, pos := "law.go:117", after := #[], guard := none }) (v := ?_) rfl (by kernel_rfl) (by kernel_rfl) (by kernel_rfl) (fun _ _ _ h => h) (Or.inl ⟨by rfl, ?_⟩) (by assumption) ?_
            rotate_left
            · (intro w' hSw; (try dsimp only at hSw); go_simp; try with_reducible rfl)
            try simp only [Act.put, List.setIfInBounds_toArray, List.set_cons_zero, List.set_cons_succ]
            refine wpAnyH_take (i := 1) (oi := { dst := some 45, op := Op.move (Operand.tmp 8), type := 23, pos := "law.go:117", after := #[], guard := none }) (v := ?_) rfl (by kernel_rfl) (by kernel_rfl) (by kernel_rfl) (fun _ _ _ h => h) (Or.inl ⟨by rfl, ?_⟩) (by assumption) ?_
            rotate_left
            · (intro w' hSw; (try dsimp only at hSw); go_simp; try with_reducible rfl)
            try simp only [Act.put, List.setIfInBounds_toArray, List.set_cons_zero, List.set_cons_succ]
            refine wpAnyH_take (i := 2) (oi := { dst := some 46, op := Op.move (Operand.tmp 9), type := 3, pos := "law.go:117", after := #[], guard := none }) (v := ?_) rfl (by kernel_rfl) (by kernel_rfl) (by kernel_rfl) (fun _ _ _ h => h) (Or.inl ⟨by rfl, ?_⟩) (by assumption) ?_
            rotate_left
            · (intro w' hSw; (try dsimp only at hSw); go_simp; try with_reducible rfl)
            try simp only [Act.put, List.setIfInBounds_toArray, List.set_cons_zero, List.set_cons_succ]
            refine wpAnyH_take (i := 3) (oi := { dst := some 47, op := Op.indexAddr 23 (Operand.tmp 45) (Operand.tmp 46), type := 0, pos := "law.go:117", after := #[{ on := 1, ground := Ground.data }, { on := 2, ground := Ground.data }], guard := none }) (v := ?_) rfl (by kernel_rfl) (by kernel_rfl) (by kernel_rfl) (fun _ _ _ h => h) (Or.inl ⟨by rfl, ?_⟩) (by assumption) ?_
            rotate_left
            · (intro w' hSw; (try dsimp only at hSw); go_simp; try with_reducible rfl)
            try simp only [Act.put, List.setIfInBounds_toArray, List.set_cons_zero, List.set_cons_succ]
            refine wpAnyH_take (i := 4) (oi := { dst := some 48, op := Op.load 22 (Operand.tmp 47), type := 22, pos := "law.go:117", after := #[{ on := 3, ground := Ground.data }], guard := none }) (v := ?_) rfl (by kernel_rfl) (by kernel_rfl) (by kernel_rfl) (fun _ _ _ h => h) (Or.inl ⟨by rfl, ?_⟩) (by assumption) ?_
            rotate_left
            · (intro w' hSw; (try dsimp only at hSw); go_simp; try with_reducible rfl)
            try simp only [Act.put, List.setIfInBounds_toArray, List.set_cons_zero, List.set_cons_succ]
            refine wpAnyH_take (i := 6) (oi := { dst := some 50, op := Op.move (Operand.tmp 7), type := 24, pos := "law.go:117", after := #[], guard := none }) (v := ?_) rfl (by kernel_rfl) (by kernel_rfl) (by kernel_rfl) (fun _ _ _ h => h) (Or.inl ⟨by rfl, ?_⟩) (by assumption) ?_
            rotate_left
            · (intro w' hSw; (try dsimp only at hSw); go_simp; try with_reducible rfl)
            try simp only [Act.put, List.setIfInBounds_toArray, List.set_cons_zero, List.set_cons_succ]
            refine wpAnyH_take (i := 7) (oi := { dst := some 51, op := Op.move (Operand.tmp 8), type := 23, pos := "law.go:117", after := #[], guard := none }) (v := ?_) rfl (by kernel_rfl) (by kernel_rfl) (by kernel_rfl) (fun _ _ _ h => h) (Or.inl ⟨by rfl, ?_⟩) (by assumption) ?_
            rotate_left
            · (intro w' hSw; (try dsimp only at hSw); go_simp; try with_reducible rfl)
            try simp only [Act.put, List.setIfInBounds_toArray, List.set_cons_zero, List.set_cons_succ]
            refine wpAnyH_take (i := 8) (oi := { dst := some 52, op := Op.move (Operand.tmp 10), type := 3, pos := "law.go:117", after := #[], guard := none }) (v := ?_) rfl (by kernel_rfl) (by kernel_rfl) (by kernel_rfl) (fun _ _ _ h => h) (Or.inl ⟨by rfl, ?_⟩) (by assumption) ?_
            rotate_left
            · (intro w' hSw; (try dsimp only at hSw); go_simp; try with_reducible rfl)
            try simp only [Act.put, List.setIfInBounds_toArray, List.set_cons_zero, List.set_cons_succ]
            refine wpAnyH_take (i := 9) (oi := { dst := some 53, op := Op.indexAddr 23 (Operand.tmp 51) (Operand.tmp 52), type := 0, pos := "law.go:117", after := #[{ on := 7, ground := Ground.data }, { on := 8, ground := Ground.data }], guard := none }) (v := ?_) rfl (by kernel_rfl) (by kernel_rfl) (by kernel_rfl) (fun _ _ _ h => h) (Or.inl ⟨by rfl, ?_⟩) (by assumption) ?_
            rotate_left
            · (intro w' hSw; (try dsimp only at hSw); go_simp; try with_reducible rfl)
            try simp only [Act.put, List.setIfInBounds_toArray, List.set_cons_zero, List.set_cons_succ]
            refine wpAnyH_take (i := 10) (oi := { dst := some 54, op := Op.load 22 (Operand.tmp 53), type := 22, pos := "law.go:117", after := #[{ on := 9, ground := Ground.data }], guard := none }) (v := ?_) rfl (by kernel_rfl) (by kernel_rfl) (by kernel_rfl) (fun _ _ _ h => h) (Or.inl ⟨by rfl, ?_⟩) (by assumption) ?_
            rotate_left
            · (intro w' hSw; (try dsimp only at hSw); go_simp; try with_reducible rfl)
            try simp only [Act.put, List.setIfInBounds_toArray, List.set_cons_zero, List.set_cons_succ]
            refine wpAnyH_ready (rs := [5]) (by kernel_rfl) (by simp) ?_
            refine AllReadyH.cons (o := { dst := some 49, op := Op.call { callee := Callee.value (Operand.func 32), args := #[Operand.tmp 44, Operand.tmp 48, Operand.const (Value.int IntKind.i64 4)], argTypes := #[24, 22, 3] }, type := 22, pos := "law.go:117", after := #[{ on := 0, ground := Ground.data }, { on := 4, ground := Ground.data }], guard := none }) rfl (fun K hK => ?_) AllReadyH.nil
            go_simp
            go_at_call 32
            refine (HLV.out _ _ _ _ _ (below_drewN Hx9.out 1) (HWI.out _ (below_drewN Hx9.out 1)).2).mono ?_
            rintro e xa hp
            obtain ⟨P1, nP1, cP1, rfl, hwd, hb⟩ := hp
            have Hxa : Hid (Below w4.heap.size w4 xa ∧ WdR xa (lev L 3 (ws.getD i [])) P1 nP1 cP1) := Lib.hid ⟨below_next (below_drewN Hx9.out 1) hb, hwd⟩
            clear hwd hb
            refine hK.out _ _ ⟨(HWI.out _ Hxa.out.1).1, (HWJ.out _ Hxa.out.1).1⟩ (fun hSxa => ?_)
            clear hK K hS0
            try simp only [Act.put, List.setIfInBounds_toArray, List.set_cons_zero, List.set_cons_succ]
            refine wpAnyH_ready (rs := [11]) (by kernel_rfl) (by simp) ?_
            refine AllReadyH.cons (o := { dst := some 55, op := Op.call { callee := Callee.value (Operand.func 32), args := #[Operand.tmp 50, Operand.tmp 54, Operand.const (Value.int IntKind.i64 4)], argTypes := #[24, 22, 3] }, type := 22, pos := "law.go:117", after := #[{ on := 6, ground := Ground.data }, { on := 10, ground := Ground.data }, { on := 5, ground := Ground.chain }], guard := none }) rfl (fun K hK => ?_) AllReadyH.nil
            go_simp
            go_at_call 32
            refine (HLV.out _ _ _ _ _ Hxa.out.1 (HWJ.out _ Hxa.out.1).2).mono ?_
            rintro e xb hp
            obtain ⟨P2, nP2, cP2, rfl, hwd, hb⟩ := hp
            have HBAB : Hid (Below xa.heap.size xa xb) := Lib.hid hb
            have Hxb : Hid (Below w4.heap.size w4 xb ∧ WdR xb (lev L 3 (ws.getD j [])) P2 nP2 cP2) := Lib.hid ⟨below_next Hxa.out.1 hb, hwd⟩
            clear hwd hb
            refine hK.out _ _ ⟨(HWI.out _ Hxb.out.1).1, (HWJ.out _ Hxb.out.1).1⟩ (fun hSxb => ?_)
            clear hK K hSxa
            try simp only [Act.put, List.setIfInBounds_toArray, List.set_cons_zero, List.set_cons_succ]
            refine wpAnyH_ready (rs := [12]) (by kernel_rfl) (by simp) ?_
            refine AllReadyH.cons (o := { dst := some 56, op := Op.call { callee := Callee.value (Operand.func 17), args := #[Operand.tmp 49, Operand.tmp 55], argTypes := #[22, 22] }, type := 4, pos := "law.go:117", after := #[{ on := 5, ground := Ground.data }, { on := 11, ground := Ground.data }, { on := 11, ground := Ground.chain }], guard := none }) rfl (fun K hK => ?_) AllReadyH.nil
            go_simp
            go_at_call 17
            refine (same_any (lev L 3 (ws.getD i [])) (lev L 3 (ws.getD j [])) _ _ _ _ _ _ Hxa.out.2.len Hxb.out.2.len (by have := Hxa.out.2.cap; have := Hxa.out.2.max; omega) false HSA.out.symm _ (Hxa.out.2.rd.below HBAB.out) Hxb.out.2.rd).mono ?_
            rintro e xc hp
            obtain ⟨rfl, hb⟩ := boolb_out hp
            have Hxc : Hid (Below w4.heap.size w4 xc) := Lib.hid (below_next Hxb.out.1 hb)
            clear hp hb
            refine hK.out _ _ ⟨(HWI.out _ Hxc.out).1, (HWJ.out _ Hxc.out).1⟩ (fun hSxc => ?_)
            clear hK K hSxb
            try simp only [Act.put, List.setIfInBounds_toArray, List.set_cons_zero, List.set_cons_succ]
            refine wpAnyH_take (i := 13) (oi := { dst := some 12, op := Op.assign (Operand.tmp 56), type := 4, pos := "law.go:117", after := #[{ on := 12, ground := Ground.data }, { on := 12, ground := Ground.chain }, { on := 0, ground := Ground.phase }, { on := 1, ground := Ground.phase }, { on := 2, ground := Ground.phase }, { on := 3, ground := Ground.phase }, { on := 4, ground := Ground.phase }, { on := 5, ground := Ground.phase }, { on := 6, ground := Ground.phase }, { on := 7, ground := Ground.phase }, { on := 8, ground := Ground.phase }, { on := 9, ground := Ground.phase }, { on := 10, ground := Ground.phase }, { on := 11, ground := Ground.phase }, { on := 12, ground := Ground.phase }], guard := none }) (v := ?_) rfl (by kernel_rfl) (by kernel_rfl) (by kernel_rfl) (fun _ _ _ h => h) (Or.inl ⟨by rfl, ?_⟩) (by assumption) ?_
            rotate_left
            · (intro w' hSw; (try dsimp only at hSw); go_simp; try with_reducible rfl)
            try simp only [Act.put, List.setIfInBounds_toArray, List.set_cons_zero, List.set_cons_succ]
            refine wpAnyH_done (by kernel_rfl) ?_ _
            go_wp2_with fail
            haveI : Nonempty (Wo (Below w4.heap.size w4)) := ⟨⟨xc, Hxc.out⟩⟩
            refine wp_region_wo (Below w4.heap.size w4) mixedTry (by kernel_rfl) (below_drewN Hxc.out 1) ?_
            repeat (go_big_quiet_step ((go_at_call 23; exact calls_wo HC2.out _)))
            refine wpQuiet_nil ?_
            intro xd hw2
            obtain ⟨⟨xdx, hok⟩, hw3⟩ := hw2
            have hw4 : xd = xdx := hw3
            subst hw4
            have Hxd := Lib.hid hok
            clear hw3 hok
            go_wp2_with fail
            go_loopg [13] n4 (fun g s13 wr => ∃ (k : Nat), k + g = n4 ∧ s13 = .int .i64 (k : Int) ∧ Hid (Below w4.heap.size w4 wr))
            case atStart => exact ⟨0, by omega, rfl, Lib.hid Hxd.out⟩
            case round =>
              obtain ⟨k, hk, rfl, HK⟩ := hrel
              by_cases hltk : k < n4
              · obtain ⟨g, rfl⟩ : ∃ g, gk = g + 1 := ⟨gk - 1, by omega⟩
                obtain ⟨Ak, nk, ck, HWK⟩ := HWA.out k hltk
                have l3 : ∀ p : Wo (Below w4.heap.size w4), p.wo.cell? ⟨b4, o4 + k, none⟩ = some (.slice Ak nk ck) := fun p => (HWK.out _ p.ok).1
                go_wp2_with fail
                haveI : Nonempty (Wo (Below w4.heap.size w4)) := ⟨⟨wr, HK.out⟩⟩
                refine wp_region_wo (Below w4.heap.size w4) mixedTry (by kernel_rfl) (below_drewN HK.out 1) ?_
                repeat (go_big_quiet_step ((go_at_call 23; exact calls_wo HC1.out _)))
                refine wpQuiet_nil ?_
                intro xe hw2
                obtain ⟨⟨xex, hok⟩, hw3⟩ := hw2
                have hw4 : xe = xex := hw3
                subst hw4
                have Hxe := Lib.hid hok
                clear hw3 hok
                go_wp2_with fail
                go_roundg g
                case rel => exact ⟨k + 1, by omega, by go_num, Lib.hid Hxe.out⟩
                case measure => omega
              · obtain rfl : k = n4 := by omega
                go_wp2_with fail
                go_roundg g
                case rel => exact ⟨j + 1, by omega, by go_num, Lib.hid HK.out⟩
                case measure => omega
        · obtain rfl : j = n4 := by omega
          go_wp2_with fail
          go_roundg g
          case rel => exact ⟨i + 1, by omega, by go_num, Lib.hid HJ.out⟩
          case measure => omega
    · obtain rfl : i = n4 := by omega
      go_wp2_with ((with_reducible refine (HLI.out _).mono ?_); rintro e w6 hp; obtain ⟨rfl, hb⟩ := boolb_out hp; have H6 : Hid (Below w.heap.size w w6) := Lib.hid (below_next H5.out.2.1 (below_next HI.out hb)); clear hp hb)
      go_ret
      exact ⟨rfl, H6.out⟩

set_option maxRecDepth 100000 in
theorem contract (H : Type) (enc : TypeId × Value → H) (W : World) (base : Nat) (args : Array Value) (ds gs : List (DataW H)) (before : List MemPlace)
    (hval : ∀ (j : Nat) t v, Try.f7.params[j]? = some t → args[j]? = some v → Value.okWide Try.prog W .any base t v)
    (hW : DataW.Whole enc Try.prog Try.f7.params.toList Rows.collateOrderSpec.vars false W args.toList ds gs before) :
    Calls Try.prog 7 args W fun e W' => ∃ v, e = .returned v ∧ Rows.collateOrderSpec.post enc Try.prog Try.f7 false true false false W args v W' := by
  have hW' := hW
  obtain ⟨p, q, hA0, hV, rfl, hfz, hnd⟩ := hW
  have hA : DataW.TrodAll enc Try.prog W 0 (fun _ => true) true Try.f7.params.toList args.toList ds p := hA0
  rw [Try.params7] at hA hval
  obtain ⟨rfl, rfl⟩ := trodVars_none hV
  obtain ⟨v0, w0, d0, e0, p0, q0, hargs, rfl, rfl, h0, r0⟩ := trodAll_cons hA
  obtain ⟨v1, w1, d1, e1, p1, q1, rfl, rfl, rfl, h1, r1⟩ := trodAll_cons r0
  obtain ⟨v2, w2, d2, e2, p2, q2, rfl, rfl, rfl, h2, r2⟩ := trodAll_cons r1
  obtain ⟨rfl, rfl, rfl⟩ := trodAll_nil r2
  obtain rfl : args = #[v0, v1, v2] := by cases args; simp_all
  clear hargs
  obtain ⟨Al, l, cl, rfl, lr, li, ln, lm⟩ := open_ivs (hval 0 22 v0 rfl rfl) h0
  obtain ⟨Am, m, cm, rfl, mr, mi, mn, mm⟩ := open_ivs (hval 1 22 v1 rfl rfl) h1
  obtain ⟨Awords, words, nwords, cwords, bwords, owords, rfl, wordsn, wordsc, wordsm, wordsr⟩ := open_iws (hval 2 23 v2 rfl rfl) h2
  refine (walk l Al cl li ln lm m Am cm mi mn mm words Awords nwords cwords bwords owords wordsn wordsc wordsm W lr mr wordsr).mono fun e W' ⟨he, hb⟩ => ⟨_, he, ?_⟩
  exact law_post rfl rfl (by kernel_rfl) hW' rfl hb

set_option maxRecDepth 100000 in
theorem lifted (os : Os) (started : os.Started) (H : Type) (enc : TypeId × Value → H) :
    ReturnsInHanded {} Try.checked os 7 .any (Rows.collateOrderSpec.pre6 enc Try.prog Try.f7 Rows.collateOrderRow.domain false) (Rows.collateOrderSpec.post enc Try.prog Try.f7 false true false false) := by
  refine returnsInHanded_of_change_sized (C := Try.checked) Try.own started (by kernel_rfl) Try.func7
    (ChangeSpec.witness6 (enc := enc) (C := Try.checked) false ⟨#[], #[.slice none 0 0, .slice none 0 0, .slice none 0 0], []⟩ 8 (by kernel_rfl) (by kernel_rfl) (by kernel_rfl) (by kernel_rfl)) ?_
  intro W base args ds gs before hval hW _ hsz _
  exact contract H enc W base args ds gs before hval hW

theorem proved : Rows.CollateOrderSaid :=
  OpenClaim.holds_of_wide 7 Try.f7 rfl rfl rfl rfl rfl rfl rfl ⟨rfl, rfl, rfl, rfl, rfl⟩ rfl rfl rfl rfl rfl (by kernel_rfl) Try.func7 (by kernel_rfl)
    (of_decide_eq_true (by kernel_rfl)) (by unfold Func.isWrapper; first | (rw [if_pos (by decide +kernel)]; kernel_rfl) | (rw [if_neg (by decide +kernel)]; exact ⟨rfl, rfl⟩))
    (fun os started H enc _ => lifted os started H enc)

end KL5
end Go.Proofs.Ytalladdmedmfeaa
