/-
  alphabet.readLines; strings.Cut at one byte.
-/
import Derived.Test.YtolkmjgklgimpaaDoorAPLine
namespace Go.Proofs.YtolkmjgklgimpaaDoor
open Go.RowKit
open Alp
set_option linter.unusedVariables false
set_option linter.unusedSimpArgs false

theorem scut_no (s : B) (hs : s.length ≤ 1000000) (h : ∀ x ∈ s, x ≠ 10) (w : World) (hm : ML w) : Calls Tryd.prog 47 #[.string (tb s), .string ⟨#[10]⟩] w fun e w' => e = .returned (.tuple #[.string (tb s), .string (tb []), .bool false]) ∧ ∃ n, w' = w.drewN n := by
  obtain ⟨m, hm⟩ := hm
  refine (Tryd.strings_Cut (tb s) ⟨#[10]⟩ m w (by rw [tb_size]; omega) hm).mono fun e w' ⟨he, hw⟩ => ⟨?_, hw⟩
  have e1 : Lib.cut (tb s).data.toList [10] = (s, [], false) := by rw [tb_list]; exact cut_no h
  rw [he]
  show Ending.returned (.tuple #[.string ⟨(Lib.cut (tb s).data.toList [10]).1.toArray⟩, .string ⟨(Lib.cut (tb s).data.toList [10]).2.1.toArray⟩, .bool (Lib.cut (tb s).data.toList [10]).2.2]) = _
  rw [e1]
  rfl
theorem scut_yes (h r : B) (hs : (h ++ 10 :: r).length ≤ 1000000) (hh : ∀ x ∈ h, x ≠ 10) (w : World) (hm : ML w) : Calls Tryd.prog 47 #[.string (tb (h ++ 10 :: r)), .string ⟨#[10]⟩] w fun e w' => e = .returned (.tuple #[.string (tb h), .string (tb r), .bool true]) ∧ ∃ n, w' = w.drewN n := by
  obtain ⟨m, hm⟩ := hm
  refine (Tryd.strings_Cut (tb (h ++ 10 :: r)) ⟨#[10]⟩ m w (by rw [tb_size]; omega) hm).mono fun e w' ⟨he, hw⟩ => ⟨?_, hw⟩
  have e1 : Lib.cut (tb (h ++ 10 :: r)).data.toList [10] = (h, r, true) := by rw [tb_list]; exact cut_yes hh
  rw [he]
  show Ending.returned (.tuple #[.string ⟨(Lib.cut (tb (h ++ 10 :: r)).data.toList [10]).1.toArray⟩, .string ⟨(Lib.cut (tb (h ++ 10 :: r)).data.toList [10]).2.1.toArray⟩, .bool (Lib.cut (tb (h ++ 10 :: r)).data.toList [10]).2.2]) = _
  rw [e1]
  rfl
/-- Rows of other types are other rows. -/
theorem own_other {w w' : World} {base e1 e2 s1 s2 n m : Nat} {v1 v2 : Value} {xs ys : List Value} (h1 : w.ownsRow base e1 s1 v1 n xs) (h2 : w.ownsRow base e2 s2 v2 m ys) (hne : e1 ≠ e2) (hg : w.grownBy w' v1.ownBlock) : w'.ownsRow base e2 s2 v2 m ys := by
  refine h2.kept hg ?_
  rcases h2.2 with ⟨rfl, _⟩ | ⟨g2, c2, cu2, rfl, _, hg2, _⟩
  · exact .inl rfl
  · right
    rcases h1.2 with ⟨rfl, _⟩ | ⟨g1, c1, cu1, rfl, _, hg1, _⟩
    · simp [Value.ownBlock]
    · intro e
      obtain rfl : g2 = g1 := by simpa [Value.ownBlock] using e
      rw [hg1] at hg2
      simp at hg2
      exact hne hg2.2
theorem src_lt {P : Program} {size : Nat} {tx e' : TypeId} (hk : P.underlying tx = some (.slice e')) (hs : size = 5) (w : World) (l : Lt) (t : TypeId) (B : Nat) (hB : B = w.heap.size) :
    Src P size tx (.slice (some ⟨B, 0, none⟩) 1 1) 1 (lc l) (w.alloc (.cells #[.string (tb l.text), .int .i64 l.base, .int .i64 l.mark, .int .i64 l.cas, .int .i64 l.width] t)) := by
  subst hB
  refine Src.ofSlice _ hk _ _ _ _ (by rw [hs, lc_length]) (fun j u hu => ?_) (lc_one l)
  have hadd : (⟨w.heap.size, 0, none⟩ : Addr).add j = ⟨w.heap.size, j, none⟩ := by unfold Addr.add; split <;> simp_all
  rw [hadd]
  exact (Blk.at w (lc l) _ t _ rfl rfl).cell hu
abbrev XL := Sum Alp.Rows Nat
/-- What readLines answers. -/
def LinesPost (w : World) (X : XL) (e : Ending) (w' : World) : Prop := Below w.heap.size w w' ∧ match X with
  | .inr k => e = .returned (.tuple #[.slice none 0 0, .slice none 0 0, .int .i64 (k : Int)])
  | .inl R => ∃ (v1 v2 : Value), e = .returned (.tuple #[v1, v2, .int .i64 0]) ∧ w'.ownsRow w.heap.size 50 5 v1 R.length (lv (firsts R)) ∧ w'.ownsRow w.heap.size 9 1 v2 R.length (tv (seconds R)) ∧ R.length ≤ 65536 ∧ ∀ x ∈ R, x.1.text.length ≤ 65536 ∧ x.2.length ≤ 65536
/-- What readLines keeps. -/
def LsI (w : World) (E : XL) (q : Nat) (s : B) (v1 v2 : Value) (D : Alp.Rows) (wr : World) : Prop :=
  wr.ownsRow w.heap.size 50 5 v1 D.length (lv (firsts D)) ∧ wr.ownsRow w.heap.size 9 1 v2 D.length (tv (seconds D)) ∧ Below w.heap.size w wr ∧ D.length + s.length ≤ q ∧ E = addL D (restG s D.length) ∧ ∀ x ∈ D, x.1.text.length ≤ q ∧ x.2.length ≤ q
set_option maxRecDepth 100000 in
set_option maxHeartbeats 4000000 in
theorem readLines_any (s : B) (q : Nat) (hq : q = s.length) (hs : q ≤ 65536) (E : XL) (hE : E = restG s 0) (w : World) (hm : ML w) : Calls Tryd.prog 40 #[.string (tb s)] w (LinesPost w E) := by
  have HM := Lib.hid hm
  have HE := Lib.hid hE
  have HQ := Lib.hid hq
  obtain ⟨i0, hi0, hz0, hz1, hz2⟩ := info_parts Tryd.infoLt
  obtain ⟨i1, hi1, hy0, hy1, hy2⟩ := info_parts Tryd.infoStr
  clear hm hE hq
  go_enter Tryd.func40, Tryd.ntmps40
  go_wp2_with fail
  go_loopg [0, 5, 6, 7, 8, 9, 10, 11, 12] q (fun g s0 s5 s6 s7 s8 s9 s10 s11 s12 wr => ∃ (t : B) (D : Alp.Rows), t.length ≤ g ∧ s0 = .string (tb t) ∧ Hid (LsI w E q t s5 s6 D wr))
  case atStart => exact ⟨s, [], by rw [HQ.out]; exact Nat.le_refl _, rfl, Lib.hid ⟨⟨rfl, .inl ⟨rfl, rfl⟩⟩, ⟨rfl, .inl ⟨rfl, rfl⟩⟩, Below.refl _ _, by rw [HQ.out]; simp, by rw [HE.out, addL_nil]; rfl, by simp⟩⟩
  case round =>
    obtain ⟨t, D, htg, rfl, HI⟩ := hrel
    obtain ⟨A1, c1, hv1, hrd1, hmc1, hcm1⟩ := Rd.of_own HI.out.1
    subst hv1
    obtain ⟨A2, c2, hv2, hrd2, hmc2, hcm2⟩ := Rd.of_own HI.out.2.1
    subst hv2
    clear hrd1 hrd2
    have hDq : D.length + t.length ≤ q := HI.out.2.2.2.1
    have HBW : Hid (Below w.heap.size w wr) := Lib.hid HI.out.2.2.1
    obtain ⟨m, hm⟩ : ∃ m, m = D.length := ⟨_, rfl⟩
    have hmb : m ≤ 65536 := by omega
    by_cases h0 : t = []
    · have he := empty_yes h0
      have HR : Hid (E = .inl D) := Lib.hid (by rw [HI.out.2.2.2.2.1, h0, restG_nil]; simp [addL])
      clear h0
      go_wp2_with fail
      go_ret3
      rw [HR.out]
      exact ⟨HI.out.2.2.1, _, _, rfl, HI.out.1, HI.out.2.1, by omega, fun x hx => ⟨Nat.le_trans (HI.out.2.2.2.2.2 x hx).1 hs, Nat.le_trans (HI.out.2.2.2.2.2 x hx).2 hs⟩⟩
    · have he := empty_no h0
      have HN0 := Lib.hid h0
      clear h0
      rcases cut_mem 10 t with hno | ⟨h, r, ht, hh⟩
      · have HC : Hid (Calls Tryd.prog 47 #[.string (tb t), .string ⟨#[10]⟩] wr fun e w' => e = .returned (.tuple #[.string (tb t), .string (tb []), .bool false]) ∧ ∃ n, w' = wr.drewN n) := Lib.hid (scut_no t (by omega) hno wr (HM.out.below HI.out.2.2.1))
        have HL : Hid (∀ W, Below w.heap.size w W → Calls Tryd.prog 48 #[.string (tb t)] W (LinePost W (lineP t))) := Lib.hid fun W hb => pline_any t (by omega) W (HM.out.below hb)
        have HR : Hid (E = .inr (m + 1)) := Lib.hid (by rw [HI.out.2.2.2.2.1, restG_no hno HN0.out, hm]; rfl)
        rw [← hm]
        clear hno hm hDq
        go_wp2_with (first
          | ((with_reducible refine HC.out.mono ?_); rintro e w1 ⟨rfl, n1, rfl⟩)
          | ((with_reducible refine (HL.out _ (below_drewN HBW.out _)).mono ?_); rintro e w2 hp2; obtain ⟨l, b, rfl, hx, hb2⟩ := line_out hp2; have HB2 := Lib.hid (below_next (below_drewN HBW.out _) hb2); clear hp2 hx hb2))
        go_ret3
        rw [HR.out]
        exact ⟨below_al HB2.out _, by simp⟩
      · have htl : t.length = h.length + 1 + r.length := by rw [ht]; simp; omega
        have HC : Hid (Calls Tryd.prog 47 #[.string (tb t), .string ⟨#[10]⟩] wr fun e w' => e = .returned (.tuple #[.string (tb h), .string (tb r), .bool true]) ∧ ∃ n, w' = wr.drewN n) := Lib.hid (by rw [ht]; exact scut_yes h r (by rw [← ht]; omega) hh wr (HM.out.below HI.out.2.2.1))
        have HL : Hid (∀ W, Below w.heap.size w W → Calls Tryd.prog 48 #[.string (tb h)] W (LinePost W (lineP h))) := Lib.hid fun W hb => pline_any h (by omega) W (HM.out.below hb)
        cases hlp : lineP h with
        | none =>
          rw [hlp] at HL
          have HR : Hid (E = .inr (m + 1)) := Lib.hid (by rw [HI.out.2.2.2.2.1, ht, restG_bad hh hlp, hm]; rfl)
          rw [← hm]
          clear hlp hm hDq ht htl hh
          go_wp2_with (first
            | ((with_reducible refine HC.out.mono ?_); rintro e w1 ⟨rfl, n1, rfl⟩)
            | ((with_reducible refine (HL.out _ (below_drewN HBW.out _)).mono ?_); rintro e w2 hp2; obtain ⟨l, b, rfl, hx, hb2⟩ := line_out hp2; have HB2 := Lib.hid (below_next (below_drewN HBW.out _) hb2); clear hp2 hx hb2))
          go_ret3
          rw [HR.out]
          exact ⟨below_al HB2.out _, by simp⟩
        | some x =>
          rw [hlp] at HL
          obtain ⟨hx1, hx2⟩ := lineP_len hlp
          have HR : Hid (E = addL (D ++ [x]) (restG r (D.length + 1))) := Lib.hid (by rw [HI.out.2.2.2.2.1, ht, restG_line hh hlp, addL_addL])
          have HXL : Hid (x.1.text.length ≤ q ∧ x.2.length ≤ q) := Lib.hid ⟨by omega, by omega⟩
          have hs1 : m + 1 ≤ maxLen := by unfold maxLen; omega
          have hs2 : (m + 1) * 48 ≤ 140737488355328 := by omega
          have hs3 : (m + 1) * 16 ≤ 140737488355328 := by omega
          have HG : Hid (r.length + 1 ≤ t.length) := Lib.hid (by omega)
          obtain ⟨g, rfl⟩ : ∃ g, gk = g + 1 := ⟨gk - 1, by omega⟩
          have HG2 : Hid (r.length ≤ g ∧ D.length + 1 + r.length ≤ q) := Lib.hid ⟨by omega, by omega⟩
          have HOWN : Hid (wr.ownsRow w.heap.size 50 5 (.slice A1 m c1) m (lv (firsts D)) ∧ wr.ownsRow w.heap.size 9 1 (.slice A2 m c2) m (tv (seconds D))) := Lib.hid ⟨by rw [hm]; exact HI.out.1, by rw [hm]; exact HI.out.2.1⟩
          have HMD := Lib.hid hm
          rw [← hm]
          clear hlp hm hDq ht htl hh hx1 hx2 htg
          go_wp2_with (first
            | ((with_reducible refine HC.out.mono ?_); rintro e w1 ⟨rfl, n1, rfl⟩)
            | ((with_reducible refine (HL.out _ (below_drewN HBW.out _)).mono ?_); rintro e w2 hp2; obtain ⟨l, b, rfl, hx, hb2⟩ := line_out hp2; have HX2 : Hid (x = (l, b) ∧ Below w.heap.size w w2 ∧ w2.ownsRow w.heap.size 50 5 (.slice A1 m c1) m (lv (firsts D)) ∧ w2.ownsRow w.heap.size 9 1 (.slice A2 m c2) m (tv (seconds D))) := Lib.hid ⟨hx x rfl, below_next (below_drewN HBW.out _) hb2, own_keep (w := wr.drewN n1) HOWN.out.1 hb2, own_keep (w := wr.drewN n1) HOWN.out.2 hb2⟩; clear hp2 hx hb2)
            | (at_builtin; refine wpList_own_src rfl (.tmp 36) (.tmp 38) 23 23 rfl w.heap.size 50 i0 _ 5 48 Tryd.underlying23 hi0 hz0 hz1 hz2 rfl _ _ _ rfl (own_alc (own_alc HX2.out.2.2.1 _) _) _ 1 (lc l) rfl (src_lt Tryd.underlying23 hz1 _ _ _ _ (by simp)) hs1 hs2 (below_al (below_al HX2.out.2.1 _) _).size ?_; intro v4 w4 hown4 hg4 hat4; have HX4 : Hid (w4.ownsRow w.heap.size 50 5 v4 (m + 1) (lv (firsts D) ++ lc l) ∧ w4.ownsRow w.heap.size 9 1 (.slice A2 m c2) m (tv (seconds D)) ∧ Below w.heap.size w w4) := Lib.hid ⟨hown4, own_other (own_alc (own_alc HX2.out.2.2.1 _) _) (own_alc (own_alc HX2.out.2.2.2 _) _) (by decide) hg4, below_own (below_al (below_al HX2.out.2.1 _) _) hg4 (fun g hg => (HX2.out.2.2.1.lt _ hg).1)⟩; clear hown4 hg4 hat4)
            | (at_builtin; refine wpList_own_src rfl (.tmp 40) (.tmp 42) 26 26 rfl w.heap.size 9 i1 _ 1 16 Tryd.underlying26 hi1 hy0 hy1 hy2 rfl _ _ _ rfl (own_alc HX4.out.2.1 _) _ 1 [.string (tb b)] rfl (src_one Tryd.underlying26 hy1 _ _ _ rfl) hs1 hs3 (below_al HX4.out.2.2 _).size ?_; intro v5 w5 hown5 hg5 hat5; have HX5 : Hid (w5.ownsRow w.heap.size 50 5 v4 (m + 1) (lv (firsts D) ++ lc l) ∧ w5.ownsRow w.heap.size 9 1 v5 (m + 1) (tv (seconds D) ++ [.string (tb b)]) ∧ Below w.heap.size w w5) := Lib.hid ⟨own_other (own_alc HX4.out.2.1 _) (own_alc HX4.out.1 _) (by decide) hg5, hown5, below_own (below_al HX4.out.2.2 _) hg5 (fun g hg => (HX4.out.2.1.lt _ hg).1)⟩; clear hown5 hg5 hat5))
          go_roundg g
          case rel =>
            refine ⟨r, D ++ [x], HG2.out.1, rfl, Lib.hid ⟨?_, ?_, HX5.out.2.2, by rw [List.length_append]; exact HG2.out.2, by rw [HR.out, List.length_append]; rfl, ?_⟩⟩
            · have := HX5.out.1
              rw [List.length_append, ← HMD.out]
              rw [show firsts (D ++ [x]) = firsts D ++ [l] by rw [HX2.out.1]; simp [firsts], lv_snoc]
              exact this
            · have := HX5.out.2.1
              rw [List.length_append, ← HMD.out]
              rw [show seconds (D ++ [x]) = seconds D ++ [b] by rw [HX2.out.1]; simp [seconds], tv_snoc]
              exact this
            · intro y hy
              rcases List.mem_append.1 hy with h' | h'
              · exact HI.out.2.2.2.2.2 y h'
              · rw [List.mem_singleton.1 h']; exact HXL.out
          case measure => omega
end Go.Proofs.YtolkmjgklgimpaaDoor
