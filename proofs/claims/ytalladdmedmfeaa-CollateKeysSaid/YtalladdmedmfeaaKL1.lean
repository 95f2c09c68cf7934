/-
  CollateKeys: for all arguments the law returns true, and leaves what was there as it was.
-/
import Derived.Test.YtalladdmedmfeaaKLaw2
import Derived.Test.YtalladdmedmfeaaKSpoil
import Derived.BigQuiet
import Derived.BigRegion
namespace Go.Proofs.Ytalladdmedmfeaa
open Go.ChangeShapes Go.WideShapes Go.ChangeAt Go.RowKit Go.ChangeMaps
open Alp Col
set_option linter.unusedVariables false
set_option linter.unusedSimpArgs false
namespace KL1
def smallL : List Lt := [⟨[97], 0, 0, 0, 5⟩, ⟨[98], 1, 0, 0, 6⟩, ⟨[99], 2, 0, 0, 5⟩, ⟨[101], 3, 0, 0, 5⟩, ⟨[110], 4, 0, 0, 6⟩, ⟨[115], 5, 0, 0, 4⟩, ⟨[116], 6, 0, 0, 3⟩, ⟨[99, 104], 7, 0, 0, 10⟩, ⟨[195, 169], 3, 1, 0, 5⟩, ⟨[65], 0, 0, 1, 7⟩]
theorem small_short : ∀ l ∈ smallL, l.text.length ≤ maxLen := by unfold smallL maxLen; simp
set_option maxRecDepth 100000 in
set_option maxHeartbeats 4000000 in
theorem small_any (w : World) : Calls Try.prog 14 #[] w (SpPost w) := by
  go_enter Try.func14, Try.ntmps14
  go_wp2_with fail
  go_ret
  have hblk : ∀ T, Blk (w.alloc (.cells (lv smallL).toArray T)) w.heap.size (lv smallL) T := fun T => Blk.at w (lv smallL) _ T _ rfl rfl
  exact ⟨smallL, _, _, _, rfl, ⟨rfl, Nat.le_refl _, by unfold maxLen; omega, small_short, .inr ⟨_, 0, rfl, fun k v hv => by rw [Nat.zero_add]; exact (hblk _).cell hv⟩⟩, below_a1 _ _⟩
theorem keyP_nil : ([] : List Int) = keyP [] [0] := by unfold keyP valP; simp
theorem key_nil (W : World) : Calls Try.prog 18 #[.slice none 0 0, .slice (some ⟨W.heap.size, 0, none⟩) 1 1] (W.alloc (.cells #[.int .i64 0] 3)) (LPost (W.alloc (.cells #[.int .i64 0] 3)) []) :=
  key_any [] none (some ⟨W.heap.size, 0, none⟩) 0 0 1 1 [0] [] keyP_nil _ ⟨rfl, Nat.le_refl _, Nat.zero_le _, (fun l hl => by cases hl), .inl rfl⟩ ⟨rfl, by omega, Nat.le_refl _, by unfold maxLen; omega, .inr ⟨_, 0, rfl, fun k v hv => by rw [Nat.zero_add]; exact (Blk.at W (iv [0]) _ 3 _ rfl rfl).cell hv⟩⟩
set_option maxRecDepth 1000000 in
set_option maxHeartbeats 32000000 in
theorem walk (l : List Int) (Al : Option Addr) (cl : Nat) (li : ∀ x ∈ l, inI x) (ln : l.length ≤ cl) (lm : cl ≤ maxLen) (m : List Int) (Am : Option Addr) (cm : Nat) (mi : ∀ x ∈ m, inI x) (mn : m.length ≤ cm) (mm : cm ≤ maxLen) (words : List (List Int)) (Awords : Option Addr) (nwords cwords bwords owords : Nat) (wordsn : nwords = words.length) (wordsc : nwords ≤ cwords) (wordsm : cwords ≤ maxLen) (pos : Int) (posi : inI pos) (how : Int) (howi : inI how) (by_ : Int) (by_i : inI by_) (w : World) (lr : Rd w Al (iv l)) (mr : Rd w Am (iv m)) (wordsr : RwR w words Awords nwords bwords owords) : Calls Try.prog 3 #[.slice Al l.length cl, .slice Am m.length cm, .slice Awords nwords cwords, .int .i64 pos, .int .i64 how, .int .i64 by_] w fun e w' => e = .returned (.bool true) ∧ Below w.heap.size w w' := by
  obtain ⟨L, hL⟩ : ∃ L, L = lettersP l := ⟨_, rfl⟩
  have hv : valP L = true := by rw [hL]; exact letters_val l
  obtain ⟨j0, hj0, hy0, hy1, hy2⟩ := info_parts Try.infoSl
  have HTX : Hid (∀ x ∈ L, x.text.length ≤ maxLen) := Lib.hid fun x hx => by have := (val_plain hv hx).2.1; unfold maxLen; omega
  have HLE : Hid (Calls Try.prog 12 #[.slice Al l.length cl] w (LtPost w L)) := Lib.hid (by rw [hL]; exact letters_any l Al _ cl rfl ln lm li w lr)
  have HNB : Hid (4 ≤ 30) := Lib.hid (by omega)
  have HWD : Hid (∀ AL q cq W, Below w.heap.size w W → AlR W L AL q cq → Calls Try.prog 15 #[.slice AL q cq, .slice Am m.length cm, .int .i64 (4)] W (WnPost W fun ws => ws.length = 4 ∧ ∀ k, k < 4 → (ws.getD k []).length ≤ 3 * (k + 1))) := Lib.hid fun AL q cq W hb ha => by
    have h1 := ((valP_iff L).1 hv).1
    have h2 := ((valP_iff L).1 hv).2.1
    have h3 := words_any L AL q cq (by rw [ha.len]; exact h1) (by rw [ha.len]; exact h2) m Am m.length cm rfl mn mm mi (4) HNB.out W ha (mr.below hb)
    exact h3
  have HRW : Hid (∀ W, Below w.heap.size w W → Calls Try.prog 16 #[.slice Awords nwords cwords] W (RwPost W)) := Lib.hid fun W hb => raw_hi words Awords nwords cwords W wordsn wordsc wordsm bwords owords (wordsr.below hb)
  have HLI : Hid (∀ W, Calls Try.prog 20 #[] W (BoolB W true)) := Lib.hid fun W => lives_any W
  have HV := Lib.hid hv
  have HSP : Hid (∀ (AL : Option Addr) (q cq : Nat) (W : World), AlR W L AL q cq → Calls Try.prog 13 #[.slice AL q cq, .int .i64 pos, .int .i64 how, .int .i64 by_] W (SpPost W)) := Lib.hid fun AL q cq W ha => spoilt_any L AL q cq pos how by_ posi howi by_i (by rw [ha.len]; exact ((valP_iff L).1 hv).1) (by rw [ha.len]; exact ((valP_iff L).1 hv).2.1) W ha
  have HSM : Hid (∀ W, Calls Try.prog 14 #[] W (SpPost W)) := Lib.hid fun W => small_any W
  clear hL hv li lr mi mr wordsr wordsn posi howi by_i
  go_enter Try.func3, Try.ntmps3
  go_wp2_with (first
    | ((with_reducible refine HLE.out.mono ?_); rintro e w1 hp; obtain ⟨AL, q, cq, rfl, h1, h2, h3, h4, hb⟩ := lt_out hp; have HA : Hid (AlR w1 L AL q cq ∧ Below w.heap.size w w1) := Lib.hid ⟨⟨h1, h3, h4, HTX.out, h2⟩, hb⟩; have hqc : q ≤ cq := h3; have hqb : cq ≤ 9223372036854775807 := (by unfold maxLen at h4; omega); clear hp h1 h2 h3 h4 hb)
    | ((with_reducible refine (HSP.out _ _ _ _ HA.out.1).mono ?_); rintro e w5 hp; obtain ⟨L2, A2, q2, c2, rfl, hal, hb⟩ := sp_out hp; have H50 : Hid (AlR w5 L AL q cq ∧ AlR w5 L2 A2 q2 c2 ∧ Below w.heap.size w w5) := Lib.hid ⟨HA.out.1.below hb, hal, below_next HA.out.2 hb⟩; clear hp hal hb)
    | ((with_reducible refine (HSM.out _).mono ?_); rintro e w6 hp; obtain ⟨L3, A3, q3, c3, rfl, hal, hb⟩ := sp_out hp; have H5 : Hid (AlR w6 L AL q cq ∧ AlR w6 L2 A2 q2 c2 ∧ AlR w6 L3 A3 q3 c3 ∧ Below w.heap.size w w6) := Lib.hid ⟨H50.out.1.below hb, H50.out.2.1.below hb, hal, below_next H50.out.2.2 hb⟩; clear hp hal hb)
    | ((with_reducible refine (HWD.out _ _ _ _ (below_al H5.out.2.2.2 _) (H5.out.1.below (below_a1 _ _))).mono ?_); rintro e w2 hp; obtain ⟨v1, xs, us, rfl, hul, hw⟩ := wn_out hp; have HU : Hid (us.length = 4 ∧ WnI (w6.alloc (.cells #[.slice AL q cq, .slice A2 q2 c2, .slice A3 q3 c3] 24)) v1 xs us w2) := Lib.hid ⟨hul, hw⟩; clear hp hul hw)
    | ((with_reducible refine (HRW.out _ (below_next (below_al H5.out.2.2.2 _) HU.out.2.bel)).mono ?_); rintro e w3 hp; obtain ⟨v2, ys, vs, rfl, hvl, hw, hi⟩ := rw_out hp; have HR : Hid (vs.length ≤ 8 ∧ WnI w2 v2 ys vs w3 ∧ Hi w2.heap.size ys) := Lib.hid ⟨hvl, hw, hi⟩; have hu1 : us.length + vs.length ≤ maxLen := (by rw [HU.out.1]; have := HNB.out; unfold maxLen; omega); have hu2 : (us.length + vs.length) * 24 ≤ 140737488355328 := (by rw [HU.out.1]; have := HNB.out; omega); clear hp hvl hw hi)
    | (at_builtin; refine wpList_own_src rfl (.tmp 30) (.tmp 32) 23 23 rfl (w6.alloc (.cells #[.slice AL q cq, .slice A2 q2 c2, .slice A3 q3 c3] 24)).heap.size 22 j0 _ 1 24 Try.underlying23 hj0 hy0 hy1 hy2 rfl _ _ _ rfl (own_keep HU.out.2.1 HR.out.2.1.bel) _ vs.length ys rfl (src_wn Try.underlying23 hy1 HR.out.2.1.1 HR.out.2.1.2.1.ws) hu1 hu2 (Nat.le_trans HU.out.2.bel.size HR.out.2.1.bel.size) ?_; intro v4 w4 hown4 hg4 hat4; obtain ⟨A4, c4, n4, ws, hv4, hn4, hws, hb4⟩ := join_out HU.out.2 HR.out.2.1 HR.out.2.2 hown4 hg4 hat4 HU.out.1 HNB.out HR.out.1; subst hv4; have HB45 : Hid (Below (w6.alloc (.cells #[.slice AL q cq, .slice A2 q2 c2, .slice A3 q3 c3] 24)).heap.size (w6.alloc (.cells #[.slice AL q cq, .slice A2 q2 c2, .slice A3 q3 c3] 24)) w4) := Lib.hid hb4; have HW : Hid (WsR w4 ws A4 n4 c4 ∧ Below w.heap.size w w4 ∧ AlR w4 L AL q cq) := Lib.hid ⟨hws, below_next (below_al H5.out.2.2.2 _) hb4, (H5.out.1.below (below_a1 _ _)).below hb4⟩; have hc4 : n4 ≤ c4 := hws.cap; have hm4 : c4 ≤ 9223372036854775807 := (by have := hws.max; unfold maxLen at this; omega); clear hown4 hg4 hat4 hws hb4 hu1 hu2))
  obtain ⟨B5, hB5⟩ : ∃ B5, B5 = w6.heap.size := ⟨_, rfl⟩
  have h54 : Below (w6.alloc (.cells #[.slice AL q cq, .slice A2 q2 c2, .slice A3 q3 c3] 24)).heap.size (w6.alloc (.cells #[.slice AL q cq, .slice A2 q2 c2, .slice A3 q3 c3] 24)) w4 := HB45.out
  have hblk : Blk (w6.alloc (.cells #[.slice AL q cq, .slice A2 q2 c2, .slice A3 q3 c3] 24)) w6.heap.size [.slice AL q cq, .slice A2 q2 c2, .slice A3 q3 c3] 24 := Blk.at w6 _ _ _ _ rfl rfl
  have h55 : Below w6.heap.size w6 w4 := below_next (below_a1 _ _) h54
  have H6 : Hid (Below w.heap.size w w4 ∧ WsR w4 ws A4 n4 c4 ∧ n4 = ws.length) := Lib.hid ⟨HW.out.2.1, HW.out.1, HW.out.1.len⟩
  have HALL : Hid (∀ i, i < 3 → ∃ L' A' q' c', Hid (∀ W, Below w4.heap.size w4 W → W.cell? ⟨w6.heap.size, i, none⟩ = some (.slice A' q' c') ∧ AlR W L' A' q' c')) := Lib.hid fun i hi => by
    rcases (show i = 0 ∨ i = 1 ∨ i = 2 by omega) with rfl | rfl | rfl
    · have hc : w4.cell? ⟨w6.heap.size, 0, none⟩ = some (.slice AL q cq) := (h54.cell (p := ⟨w6.heap.size, 0, none⟩) hblk.lt).trans (hblk.cell rfl)
      exact ⟨L, AL, q, cq, Lib.hid fun W hb => ⟨(hb.cell (p := ⟨w6.heap.size, 0, none⟩) (World.block_lt_of_cell? w4 _ hc)).trans hc, (H5.out.1.below h55).below hb⟩⟩
    · have hc : w4.cell? ⟨w6.heap.size, 1, none⟩ = some (.slice A2 q2 c2) := (h54.cell (p := ⟨w6.heap.size, 1, none⟩) hblk.lt).trans (hblk.cell rfl)
      exact ⟨L2, A2, q2, c2, Lib.hid fun W hb => ⟨(hb.cell (p := ⟨w6.heap.size, 1, none⟩) (World.block_lt_of_cell? w4 _ hc)).trans hc, (H5.out.2.1.below h55).below hb⟩⟩
    · have hc : w4.cell? ⟨w6.heap.size, 2, none⟩ = some (.slice A3 q3 c3) := (h54.cell (p := ⟨w6.heap.size, 2, none⟩) hblk.lt).trans (hblk.cell rfl)
      exact ⟨L3, A3, q3, c3, Lib.hid fun W hb => ⟨(hb.cell (p := ⟨w6.heap.size, 2, none⟩) (World.block_lt_of_cell? w4 _ hc)).trans hc, (H5.out.2.2.1.below h55).below hb⟩⟩
  rw [← hB5] at HALL ⊢
  obtain ⟨b4, o4, hA4⟩ := ws_or H6.out.2.1
  have HA4 := Lib.hid hA4
  clear HB45 h54 h55 hblk hA4 HA HU HR HW H5 H50 hB5 HSP HSM
  go_loopg [16, 17] 3 (fun g s16 s17 wr => ∃ (i : Nat), i + g = 3 ∧ s16 = .int .i64 (i : Int) ∧ Hid (Below w4.heap.size w4 wr))
  case atStart => exact ⟨0, by omega, rfl, Lib.hid (Below.refl _ _)⟩
  case round =>
    obtain ⟨i, hi, rfl, HI⟩ := hrel
    by_cases hlt : i < 3
    · obtain ⟨g, rfl⟩ : ∃ g, gk = g + 1 := ⟨gk - 1, by omega⟩
      obtain ⟨Li, Ai, qi, ci, HAI⟩ := HALL.out i hlt
      have d3 : decide ((i : Int) < 3) = true := decide_eq_true (by omega)
      have d4 : decide (i < 3) = true := decide_eq_true hlt
      have hlt3 : (i : Int) < 3 := by omega
      go_wp2_with fail
      go_loopg [17] n4 (fun g s17 wr => ∃ (k : Nat), k + g = n4 ∧ s17 = .int .i64 (k : Int) ∧ Hid (Below w4.heap.size w4 wr))
      case atStart => exact ⟨0, by omega, rfl, Lib.hid HI.out⟩
      case round =>
        obtain ⟨k, hk, rfl, HK⟩ := hrel
        by_cases hltk : k < n4
        · obtain ⟨g, rfl⟩ : ∃ g, gk = g + 1 := ⟨gk - 1, by omega⟩
          obtain ⟨rfl, hwa⟩ : A4 = some ⟨b4, o4, none⟩ ∧ WsAt w4 b4 o4 ws := by
            rcases HA4.out with h | h
            · omega
            · exact h
          obtain ⟨Ak, nk, ck, hc0, hw0⟩ := hwa k (by rw [← H6.out.2.2]; exact hltk)
          have HWK : Hid (∀ W, Below w4.heap.size w4 W → W.cell? ⟨b4, o4 + k, none⟩ = some (.slice Ak nk ck) ∧ WdR W (ws.getD k []) Ak nk ck) := Lib.hid fun W hb => ⟨(hb.cell (p := ⟨b4, o4 + k, none⟩) (World.block_lt_of_cell? w4 _ hc0)).trans hc0, hw0.below hb⟩
          have d5 : decide ((k : Int) < (n4 : Int)) = true := decide_eq_true (by omega)
          have d6 : decide (k < n4) = true := decide_eq_true hltk
          clear hwa hc0 hw0
          obtain ⟨R, hR⟩ : ∃ R, R = keyP Li (ws.getD k []) := ⟨_, rfl⟩
          have HK1 : Hid (∀ W, Below w4.heap.size w4 W → Calls Try.prog 18 #[.slice Ai qi ci, .slice Ak nk ck] W (LPost W R)) := Lib.hid fun W hb => key_any Li Ai Ak qi ci nk ck (ws.getD k []) R hR W (HAI.out W hb).2 (HWK.out W hb).2
          have HK2 : Hid (∀ W, Below w4.heap.size w4 W → Calls Try.prog 19 #[.slice Ai qi ci, .slice Ak nk ck] W (LPost W R)) := Lib.hid fun W hb => rkey_any Li Ai Ak qi ci nk ck (ws.getD k []) R hR W (HAI.out W hb).2 (HWK.out W hb).2
          have hci9 := (HAI.out _ HK.out).1
          have hcj9 := (HWK.out _ HK.out).1
          clear hR
          go_wp2_with fail
          refine wp_region_held_drew (S := fun W' => W'.cell? ⟨B5, i, none⟩ = some (.slice Ai qi ci) ∧ W'.cell? ⟨b4, o4 + k, none⟩ = some (.slice Ak nk ck)) (by kernel_rfl) (⟨hci9, hcj9⟩) (fun hS0 => ?_)
          refine wpAnyH_take (i := 0) (oi := { dst := some 44, op := Op.move (Operand.tmp 14), type := 28, pos := "law.go:44", after := #[], guard := none }) (v := ?_) rfl (by kernel_rfl) (by kernel_rfl) (by kernel_rfl) (fun _ _ _ h => h) (Or.inl ⟨by rfl, ?_⟩) (by assumption) ?_
          rotate_left
          · (intro w' hSw; (try dsimp only at hSw); go_simp; try with_reducible rfl)
          try simp only [Act.put, List.setIfInBounds_toArray, List.set_cons_zero, List.set_cons_succ]
          refine wpAnyH_take (i := 1) (oi := { dst := some 45, op := Op.move (Operand.tmp 16), type := 3, pos := "law.go:44", after := #[], guard := none }) (v := ?_) rfl (by kernel_rfl) (by kernel_rfl) (by kernel_rfl) (fun _ _ _ h => h) (Or.inl ⟨by rfl, ?_⟩) (by assumption) ?_
          rotate_left
          · (intro w' hSw; (try dsimp only at hSw); go_simp; try with_reducible rfl)
          try simp only [Act.put, List.setIfInBounds_toArray, List.set_cons_zero, List.set_cons_succ]
          refine wpAnyH_take (i := 2) (oi := { dst := some 46, op := Op.indexAddr 28 (Operand.tmp 44) (Operand.tmp 45), type := 0, pos := "law.go:44", after := #[{ on := 0, ground := Ground.data }, { on := 1, ground := Ground.data }], guard := none }) (v := ?_) rfl (by kernel_rfl) (by kernel_rfl) (by kernel_rfl) (fun _ _ _ h => h) (Or.inl ⟨by rfl, ?_⟩) (by assumption) ?_
          rotate_left
          · (intro w' hSw; (try dsimp only at hSw); go_simp; try with_reducible rfl)
          try simp only [Act.put, List.setIfInBounds_toArray, List.set_cons_zero, List.set_cons_succ]
          refine wpAnyH_take (i := 3) (oi := { dst := some 47, op := Op.load 24 (Operand.tmp 46), type := 24, pos := "law.go:44", after := #[{ on := 2, ground := Ground.data }], guard := none }) (v := ?_) rfl (by kernel_rfl) (by kernel_rfl) (by kernel_rfl) (fun _ _ _ h => h) (Or.inl ⟨by rfl, ?_⟩) (by assumption) ?_
          rotate_left
          · (intro w' hSw; (try dsimp only at hSw); go_simp; try with_reducible rfl)
          try simp only [Act.put, List.setIfInBounds_toArray, List.set_cons_zero, List.set_cons_succ]
          refine wpAnyH_take (i := 4) (oi := { dst := some 48, op := Op.move (Operand.tmp 15), type := 23, pos := "law.go:44", after := #[], guard := none }) (v := ?_) rfl (by kernel_rfl) (by kernel_rfl) (by kernel_rfl) (fun _ _ _ h => h) (Or.inl ⟨by rfl, ?_⟩) (by assumption) ?_
          rotate_left
          · (intro w' hSw; (try dsimp only at hSw); go_simp; try with_reducible rfl)
          try simp only [Act.put, List.setIfInBounds_toArray, List.set_cons_zero, List.set_cons_succ]
          refine wpAnyH_take (i := 5) (oi := { dst := some 49, op := Op.move (Operand.tmp 17), type := 3, pos := "law.go:44", after := #[], guard := none }) (v := ?_) rfl (by kernel_rfl) (by kernel_rfl) (by kernel_rfl) (fun _ _ _ h => h) (Or.inl ⟨by rfl, ?_⟩) (by assumption) ?_
          rotate_left
          · (intro w' hSw; (try dsimp only at hSw); go_simp; try with_reducible rfl)
          try simp only [Act.put, List.setIfInBounds_toArray, List.set_cons_zero, List.set_cons_succ]
          refine wpAnyH_take (i := 6) (oi := { dst := some 50, op := Op.indexAddr 23 (Operand.tmp 48) (Operand.tmp 49), type := 0, pos := "law.go:44", after := #[{ on := 4, ground := Ground.data }, { on := 5, ground := Ground.data }], guard := none }) (v := ?_) rfl (by kernel_rfl) (by kernel_rfl) (by kernel_rfl) (fun _ _ _ h => h) (Or.inl ⟨by rfl, ?_⟩) (by assumption) ?_
          rotate_left
          · (intro w' hSw; (try dsimp only at hSw); go_simp; try with_reducible rfl)
          try simp only [Act.put, List.setIfInBounds_toArray, List.set_cons_zero, List.set_cons_succ]
          refine wpAnyH_take (i := 7) (oi := { dst := some 51, op := Op.load 22 (Operand.tmp 50), type := 22, pos := "law.go:44", after := #[{ on := 6, ground := Ground.data }], guard := none }) (v := ?_) rfl (by kernel_rfl) (by kernel_rfl) (by kernel_rfl) (fun _ _ _ h => h) (Or.inl ⟨by rfl, ?_⟩) (by assumption) ?_
          rotate_left
          · (intro w' hSw; (try dsimp only at hSw); go_simp; try with_reducible rfl)
          try simp only [Act.put, List.setIfInBounds_toArray, List.set_cons_zero, List.set_cons_succ]
          refine wpAnyH_take (i := 9) (oi := { dst := some 53, op := Op.move (Operand.tmp 14), type := 28, pos := "law.go:44", after := #[], guard := none }) (v := ?_) rfl (by kernel_rfl) (by kernel_rfl) (by kernel_rfl) (fun _ _ _ h => h) (Or.inl ⟨by rfl, ?_⟩) (by assumption) ?_
          rotate_left
          · (intro w' hSw; (try dsimp only at hSw); go_simp; try with_reducible rfl)
          try simp only [Act.put, List.setIfInBounds_toArray, List.set_cons_zero, List.set_cons_succ]
          refine wpAnyH_take (i := 10) (oi := { dst := some 54, op := Op.move (Operand.tmp 16), type := 3, pos := "law.go:44", after := #[], guard := none }) (v := ?_) rfl (by kernel_rfl) (by kernel_rfl) (by kernel_rfl) (fun _ _ _ h => h) (Or.inl ⟨by rfl, ?_⟩) (by assumption) ?_
          rotate_left
          · (intro w' hSw; (try dsimp only at hSw); go_simp; try with_reducible rfl)
          try simp only [Act.put, List.setIfInBounds_toArray, List.set_cons_zero, List.set_cons_succ]
          refine wpAnyH_take (i := 11) (oi := { dst := some 55, op := Op.indexAddr 28 (Operand.tmp 53) (Operand.tmp 54), type := 0, pos := "law.go:44", after := #[{ on := 9, ground := Ground.data }, { on := 10, ground := Ground.data }], guard := none }) (v := ?_) rfl (by kernel_rfl) (by kernel_rfl) (by kernel_rfl) (fun _ _ _ h => h) (Or.inl ⟨by rfl, ?_⟩) (by assumption) ?_
          rotate_left
          · (intro w' hSw; (try dsimp only at hSw); go_simp; try with_reducible rfl)
          try simp only [Act.put, List.setIfInBounds_toArray, List.set_cons_zero, List.set_cons_succ]
          refine wpAnyH_take (i := 12) (oi := { dst := some 56, op := Op.load 24 (Operand.tmp 55), type := 24, pos := "law.go:44", after := #[{ on := 11, ground := Ground.data }], guard := none }) (v := ?_) rfl (by kernel_rfl) (by kernel_rfl) (by kernel_rfl) (fun _ _ _ h => h) (Or.inl ⟨by rfl, ?_⟩) (by assumption) ?_
          rotate_left
          · (intro w' hSw; (try dsimp only at hSw); go_simp; try with_reducible rfl)
          try simp only [Act.put, List.setIfInBounds_toArray, List.set_cons_zero, List.set_cons_succ]
          refine wpAnyH_take (i := 13) (oi := { dst := some 57, op := Op.move (Operand.tmp 15), type := 23, pos := "law.go:44", after := #[], guard := none }) (v := ?_) rfl (by kernel_rfl) (by kernel_rfl) (by kernel_rfl) (fun _ _ _ h => h) (Or.inl ⟨by rfl, ?_⟩) (by assumption) ?_
          rotate_left
          · (intro w' hSw; (try dsimp only at hSw); go_simp; try with_reducible rfl)
          try simp only [Act.put, List.setIfInBounds_toArray, List.set_cons_zero, List.set_cons_succ]
          refine wpAnyH_take (i := 14) (oi := { dst := some 58, op := Op.move (Operand.tmp 17), type := 3, pos := "law.go:44", after := #[], guard := none }) (v := ?_) rfl (by kernel_rfl) (by kernel_rfl) (by kernel_rfl) (fun _ _ _ h => h) (Or.inl ⟨by rfl, ?_⟩) (by assumption) ?_
          rotate_left
          · (intro w' hSw; (try dsimp only at hSw); go_simp; try with_reducible rfl)
          try simp only [Act.put, List.setIfInBounds_toArray, List.set_cons_zero, List.set_cons_succ]
          refine wpAnyH_take (i := 15) (oi := { dst := some 59, op := Op.indexAddr 23 (Operand.tmp 57) (Operand.tmp 58), type := 0, pos := "law.go:44", after := #[{ on := 13, ground := Ground.data }, { on := 14, ground := Ground.data }], guard := none }) (v := ?_) rfl (by kernel_rfl) (by kernel_rfl) (by kernel_rfl) (fun _ _ _ h => h) (Or.inl ⟨by rfl, ?_⟩) (by assumption) ?_
          rotate_left
          · (intro w' hSw; (try dsimp only at hSw); go_simp; try with_reducible rfl)
          try simp only [Act.put, List.setIfInBounds_toArray, List.set_cons_zero, List.set_cons_succ]
          refine wpAnyH_take (i := 16) (oi := { dst := some 60, op := Op.load 22 (Operand.tmp 59), type := 22, pos := "law.go:44", after := #[{ on := 15, ground := Ground.data }], guard := none }) (v := ?_) rfl (by kernel_rfl) (by kernel_rfl) (by kernel_rfl) (fun _ _ _ h => h) (Or.inl ⟨by rfl, ?_⟩) (by assumption) ?_
          rotate_left
          · (intro w' hSw; (try dsimp only at hSw); go_simp; try with_reducible rfl)
          try simp only [Act.put, List.setIfInBounds_toArray, List.set_cons_zero, List.set_cons_succ]
          refine wpAnyH_ready (rs := [8]) (by kernel_rfl) (by simp) ?_
          refine AllReadyH.cons (o := { dst := some 52, op := Op.call { callee := Callee.value (Operand.func 18), args := #[Operand.tmp 47, Operand.tmp 51], argTypes := #[24, 22] }, type := 22, pos := "law.go:44", after := #[{ on := 3, ground := Ground.data }, { on := 7, ground := Ground.data }], guard := none }) rfl (fun K hK => ?_) AllReadyH.nil
          go_simp
          go_at_call 18
          refine (HK1.out _ (below_drewN HK.out 1)).mono ?_
          rintro e xa hp
          obtain ⟨P1, cP1, nP1, rfl, hn, hr, hc, hm, hb⟩ := l_out hp
          have Hxa : Hid (Below w4.heap.size w4 xa ∧ nP1 = R.length ∧ Rd xa P1 (iv R) ∧ nP1 ≤ maxLen) := Lib.hid ⟨below_next (below_drewN HK.out 1) hb, hn, hr, by omega⟩
          skip
          clear hp hn hr hc hm hb
          refine hK.out _ _ ⟨(HAI.out _ Hxa.out.1).1, (HWK.out _ Hxa.out.1).1⟩ (fun hSxa => ?_)
          clear hK K hS0
          try simp only [Act.put, List.setIfInBounds_toArray, List.set_cons_zero, List.set_cons_succ]
          refine wpAnyH_ready (rs := [17]) (by kernel_rfl) (by simp) ?_
          refine AllReadyH.cons (o := { dst := some 61, op := Op.call { callee := Callee.value (Operand.func 19), args := #[Operand.tmp 56, Operand.tmp 60], argTypes := #[24, 22] }, type := 22, pos := "law.go:44", after := #[{ on := 12, ground := Ground.data }, { on := 16, ground := Ground.data }, { on := 8, ground := Ground.chain }], guard := none }) rfl (fun K hK => ?_) AllReadyH.nil
          go_simp
          go_at_call 19
          refine (HK2.out _ Hxa.out.1).mono ?_
          rintro e xb hp
          obtain ⟨P2, cP2, nP2, rfl, hn, hr, hc, hm, hb⟩ := l_out hp
          have Hxb : Hid (Below w4.heap.size w4 xb ∧ nP2 = R.length ∧ Rd xb P2 (iv R) ∧ nP2 ≤ maxLen) := Lib.hid ⟨below_next Hxa.out.1 hb, hn, hr, by omega⟩
          have HBAB : Hid (Below xa.heap.size xa xb) := Lib.hid hb
          clear hp hn hr hc hm hb
          refine hK.out _ _ ⟨(HAI.out _ Hxb.out.1).1, (HWK.out _ Hxb.out.1).1⟩ (fun hSxb => ?_)
          clear hK K hSxa
          try simp only [Act.put, List.setIfInBounds_toArray, List.set_cons_zero, List.set_cons_succ]
          refine wpAnyH_ready (rs := [18]) (by kernel_rfl) (by simp) ?_
          refine AllReadyH.cons (o := { dst := some 62, op := Op.call { callee := Callee.value (Operand.func 17), args := #[Operand.tmp 52, Operand.tmp 61], argTypes := #[22, 22] }, type := 4, pos := "law.go:44", after := #[{ on := 8, ground := Ground.data }, { on := 17, ground := Ground.data }, { on := 17, ground := Ground.chain }], guard := none }) rfl (fun K hK => ?_) AllReadyH.nil
          go_simp
          go_at_call 17
          refine (same_any R R _ _ _ _ _ _ Hxa.out.2.1 Hxb.out.2.1 Hxa.out.2.2.2 true (decide_eq_true rfl).symm _ (Hxa.out.2.2.1.below HBAB.out) Hxb.out.2.2.1).mono ?_
          rintro e xc hp
          obtain ⟨rfl, hb⟩ := boolb_out hp
          have Hxc : Hid (Below w4.heap.size w4 xc) := Lib.hid (below_next Hxb.out.1 hb)
          clear hp hb
          refine hK.out _ _ ⟨(HAI.out _ Hxc.out).1, (HWK.out _ Hxc.out).1⟩ (fun hSxc => ?_)
          clear hK K hSxb
          try simp only [Act.put, List.setIfInBounds_toArray, List.set_cons_zero, List.set_cons_succ]
          refine wpAnyH_take (i := 19) (oi := { dst := some 63, op := Op.unOp UnOp.not 4 (Operand.tmp 62), type := 4, pos := "law.go:44", after := #[{ on := 18, ground := Ground.data }], guard := none }) (v := ?_) rfl (by kernel_rfl) (by kernel_rfl) (by kernel_rfl) (fun _ _ _ h => h) (Or.inl ⟨by rfl, ?_⟩) (by assumption) ?_
          rotate_left
          · (intro w' hSw; (try dsimp only at hSw); go_simp; try with_reducible rfl)
          try simp only [Act.put, List.setIfInBounds_toArray, List.set_cons_zero, List.set_cons_succ]
          refine wpAnyH_done (by kernel_rfl) ?_ _
          go_wp2_with fail
          go_roundg g
          case rel => exact ⟨k + 1, by omega, by go_num, Lib.hid Hxc.out⟩
          case measure => omega
        · obtain rfl : k = n4 := by omega
          go_wp2_with fail
          go_roundg g
          case rel => exact ⟨i + 1, by omega, by go_num, Lib.hid HK.out⟩
          case measure => omega
    · obtain rfl : i = 3 := by omega
      go_wp2_with (first
        | ((with_reducible refine (key_nil _).mono ?_); rintro e w7 hp; obtain ⟨A7, c7, n7, rfl, hn, hr, hc, hm, hb⟩ := l_out hp; obtain rfl : n7 = 0 := hn; have H7 : Hid (Below w4.heap.size w4 w7) := Lib.hid (below_next (below_al HI.out _) hb); clear hp hr hc hm hb)
        | ((with_reducible refine (HLI.out _).mono ?_); rintro e w8 hp; obtain ⟨rfl, hb⟩ := boolb_out hp; have H8 : Hid (Below w.heap.size w w8) := Lib.hid (below_next H6.out.1 (below_next H7.out hb)); clear hp hb))
      go_ret
      exact ⟨rfl, H8.out⟩

set_option maxRecDepth 100000 in
theorem contract (H : Type) (enc : TypeId × Value → H) (W : World) (base : Nat) (args : Array Value) (ds gs : List (DataW H)) (before : List MemPlace)
    (hval : ∀ (j : Nat) t v, Try.f3.params[j]? = some t → args[j]? = some v → Value.okWide Try.prog W .any base t v)
    (hW : DataW.Whole enc Try.prog Try.f3.params.toList Rows.collateKeysSpec.vars false W args.toList ds gs before) :
    Calls Try.prog 3 args W fun e W' => ∃ v, e = .returned v ∧ Rows.collateKeysSpec.post enc Try.prog Try.f3 false true false false W args v W' := by
  have hW' := hW
  obtain ⟨p, q, hA0, hV, rfl, hfz, hnd⟩ := hW
  have hA : DataW.TrodAll enc Try.prog W 0 (fun _ => true) true Try.f3.params.toList args.toList ds p := hA0
  rw [Try.params3] at hA hval
  obtain ⟨rfl, rfl⟩ := trodVars_none hV
  obtain ⟨v0, w0, d0, e0, p0, q0, hargs, rfl, rfl, h0, r0⟩ := trodAll_cons hA
  obtain ⟨v1, w1, d1, e1, p1, q1, rfl, rfl, rfl, h1, r1⟩ := trodAll_cons r0
  obtain ⟨v2, w2, d2, e2, p2, q2, rfl, rfl, rfl, h2, r2⟩ := trodAll_cons r1
  obtain ⟨v3, w3, d3, e3, p3, q3, rfl, rfl, rfl, h3, r3⟩ := trodAll_cons r2
  obtain ⟨v4, w4, d4, e4, p4, q4, rfl, rfl, rfl, h4, r4⟩ := trodAll_cons r3
  obtain ⟨v5, w5, d5, e5, p5, q5, rfl, rfl, rfl, h5, r5⟩ := trodAll_cons r4
  obtain ⟨rfl, rfl, rfl⟩ := trodAll_nil r5
  obtain rfl : args = #[v0, v1, v2, v3, v4, v5] := by cases args; simp_all
  clear hargs
  obtain ⟨Al, l, cl, rfl, lr, li, ln, lm⟩ := open_ivs (hval 0 22 v0 rfl rfl) h0
  obtain ⟨Am, m, cm, rfl, mr, mi, mn, mm⟩ := open_ivs (hval 1 22 v1 rfl rfl) h1
  obtain ⟨Awords, words, nwords, cwords, bwords, owords, rfl, wordsn, wordsc, wordsm, wordsr⟩ := open_iws (hval 2 23 v2 rfl rfl) h2
  obtain ⟨pos, rfl, rfl, rfl, posw⟩ := open_int Try.underlying3 (hval 3 3 v3 rfl rfl) h3
  obtain ⟨how, rfl, rfl, rfl, howw⟩ := open_int Try.underlying3 (hval 4 3 v4 rfl rfl) h4
  obtain ⟨by_, rfl, rfl, rfl, by_w⟩ := open_int Try.underlying3 (hval 5 3 v5 rfl rfl) h5
  refine (walk l Al cl li ln lm m Am cm mi mn mm words Awords nwords cwords bwords owords wordsn wordsc wordsm pos (inI_wf posw) how (inI_wf howw) by_ (inI_wf by_w) W lr mr wordsr).mono fun e W' ⟨he, hb⟩ => ⟨_, he, ?_⟩
  exact law_post rfl rfl (by kernel_rfl) hW' rfl hb

set_option maxRecDepth 100000 in
theorem lifted (os : Os) (started : os.Started) (H : Type) (enc : TypeId × Value → H) :
    ReturnsInHanded {} Try.checked os 3 .any (Rows.collateKeysSpec.pre6 enc Try.prog Try.f3 Rows.collateKeysRow.domain false) (Rows.collateKeysSpec.post enc Try.prog Try.f3 false true false false) := by
  refine returnsInHanded_of_change_sized (C := Try.checked) Try.own started (by kernel_rfl) Try.func3
    (ChangeSpec.witness6 (enc := enc) (C := Try.checked) false ⟨#[], #[.slice none 0 0, .slice none 0 0, .slice none 0 0, .int .i64 0, .int .i64 0, .int .i64 0], []⟩ 8 (by kernel_rfl) (by kernel_rfl) (by kernel_rfl) (by kernel_rfl)) ?_
  intro W base args ds gs before hval hW _ hsz _
  exact contract H enc W base args ds gs before hval hW

theorem proved : Rows.CollateKeysSaid :=
  OpenClaim.holds_of_wide 3 Try.f3 rfl rfl rfl rfl rfl rfl rfl ⟨rfl, rfl, rfl, rfl, rfl⟩ rfl rfl rfl rfl rfl (by kernel_rfl) Try.func3 (by kernel_rfl)
    (of_decide_eq_true (by kernel_rfl)) (by unfold Func.isWrapper; first | (rw [if_pos (by decide +kernel)]; kernel_rfl) | (rw [if_neg (by decide +kernel)]; exact ⟨rfl, rfl⟩))
    (fun os started H enc _ => lifted os started H enc)

end KL1
end Go.Proofs.Ytalladdmedmfeaa
