/-
  The walk of the reference's Int: the same bytes as wire's.
-/
import Derived.Test.YtelkekicceoaoaaWSan
import Derived.Test.YtelkekicceoaoaaWBase2
import Derived.Deep.LoopGhost
namespace Go.Proofs.Ytelkekicceoaoaa
open Go.RowKit
set_option linter.unusedVariables false

theorem own_mono {w : World} {base base' : Nat} {e : TypeId} {size n : Nat} {v : Value} {xs : List Value} (h : w.ownsRow base e size v n xs) (hb : base' ≤ base) : w.ownsRow base' e size v n xs := by
  refine ⟨h.1, ?_⟩
  rcases h.2 with h | ⟨g, cap, cur, hv, hg, r⟩
  · exact .inl h
  · exact .inr ⟨g, cap, cur, hv, Nat.le_trans hb hg, r⟩
theorem rd_cells0 {w : World} {A : Option Addr} {l : List UInt8} (h : Rd w A (bs l)) (i : Nat) (hi : i < l.length) : ∃ b o, A = some ⟨b, o, none⟩ ∧ w.cell? ⟨b, o + i, none⟩ = some (.int .u8 l[i].toNat) := by
  obtain ⟨b, o, e, hc⟩ := h.open (by intro e; have := congrArg List.length e; rw [bs_length, List.length_nil] at this; omega)
  exact ⟨b, o, e, hc i _ (bs_get hi)⟩

set_option maxRecDepth 100000 in
set_option maxHeartbeats 1000000 in
theorem rint_pos (m : Nat) (hm : m ≤ 9223372036854775807) (w : World) :
    Calls Try.prog 15 #[.int .i64 (m : Int)] w fun e w' => ∃ v', e = .returned v' ∧ w'.ownsRow w.heap.size 5 1 v' (enS false m).length (bs (enS false m)) ∧ Below w.heap.size w w' := by
  obtain ⟨i0, hi0, hz0, hz1, hz2⟩ := info_parts Try.info5
  have hlen8 := be_len 8 m
  obtain ⟨ES, hES⟩ : ∃ ES, enS false m = ES := ⟨_, rfl⟩
  have HES := Lib.hid hES
  rw [hES]
  clear hES
  go_enter Try.func15, Try.ntmps15
  go_wp2_with fail
  go_loopg [3, 4] 8 (fun g s3 s4 wr => ∃ (M : Nat) (D : List UInt8), D.length + g = 8 ∧ M ≤ 9223372036854775807 ∧ s3 = .int .i64 M ∧ Hid (be 8 m = be g M ++ D.reverse ∧ M < 256 ^ g) ∧ wr.ownsRow w.heap.size 5 1 s4 D.length (bs D) ∧ Below w.heap.size w wr)
  case atStart => exact ⟨m, [], rfl, hm, rfl, ⟨by simp, by omega⟩, World.ownsRow_nil _ _ _ _, Below.refl _ _⟩
  case round =>
    obtain ⟨M, D, hD, hM, rfl, HH, hown, hbr⟩ := hrel
    obtain ⟨A, c, rfl, hrd, hc, hmc⟩ := Rd.of_own hown
    have HO := Lib.hid hown; clear hown
    have HRD := Lib.hid hrd; clear hrd
    by_cases h0 : 0 < M
    · cases gk with
      | zero => have h := HH.out.2; simp at h; omega
      | succ g =>
        go_wp2_with (at_builtin; refine wpList_own_src rfl (.tmp 16) (.tmp 20) 28 28 rfl w.heap.size 5 i0 _ 1 1 Try.underlying28 hi0 hz0 hz1 hz2 rfl _ _ _ rfl (HO.out.alloc _) _ 1 [.int .u8 ((M : Int) % 256)] rfl (src_one Try.underlying28 hz1 _ _ _ rfl) ?c1 ?c2 ?c3 ?_)
        case c1 => unfold maxLen; omega
        case c2 => omega
        case c3 => simp; exact Nat.le_succ_of_le hbr.size
        intro v1 w1 hown1 hg1 hat1
        have hb1 : Below w.heap.size w w1 := (hbr.alloc hbr.size _).grown hg1 (by simp; exact Nat.le_succ_of_le hbr.size) (fun g hg => (HO.out.lt g hg).1)
        have hown2 : w1.ownsRow w.heap.size 5 1 v1 (D ++ [UInt8.ofNat (M % 256)]).length (bs (D ++ [UInt8.ofNat (M % 256)])) := by
          rw [bs_append, List.length_append]
          have e : bs [UInt8.ofNat (M % 256)] = [.int .u8 ((M : Int) % 256)] := by
            simp [bs, by8]
          rw [e]
          exact hown1
        have HO2 := Lib.hid hown2
        clear hown1 hown2 hg1 hat1
        go_wp2_with fail
        go_roundg g
        case measure => omega
        case rel => exact ⟨M / 256, D ++ [UInt8.ofNat (M % 256)], by simp; omega, by omega, by go_num, ⟨by rw [HH.out.1, be_pos h0]; simp, by have := HH.out.2; rw [Nat.pow_succ] at this; omega⟩, HO2.out, hb1⟩
    · have hM0 : M = 0 := by omega
      have hDIG : be 8 m = D.reverse := by rw [HH.out.1, hM0, be_zero]; rfl
      have HM0 := Lib.hid hM0
      have HDG := Lib.hid hDIG
      have hlD : D.length ≤ 8 := by omega
      clear hM0 hDIG
      obtain ⟨wd, hwd⟩ : ∃ wd : World, wd = wr := ⟨_, rfl⟩
      rw [← hwd] at HO HRD hbr ⊢
      clear hwd
      go_wp2_with (at_builtin; refine wpList_own_src rfl (.tmp 28) (.tmp 32) 28 28 rfl wd.heap.size 5 i0 _ 1 1 Try.underlying28 hi0 hz0 hz1 hz2 rfl (.slice none 0 0) 0 [] rfl (World.ownsRow_nil _ _ _ _) _ 1 [.int .u8 (128 + (D.length : Int))] rfl (src_one Try.underlying28 hz1 _ _ _ rfl) ?c1 ?c2 ?c3 ?_)
      case c1 => unfold maxLen; omega
      case c2 => omega
      case c3 => simp
      intro v1 w1 hown1 hg1 hat1
      have hb1 : Below wd.heap.size wd w1 := ((below_a1 wd _)).grown hg1 (by simp) (by simp [Value.ownBlock])
      have hown2 : w1.ownsRow wd.heap.size 5 1 v1 (1 + 0) (bs (flip false (UInt8.ofNat (128 + D.length)) :: ((D.reverse.take 0).map (flip false)))) := by
        have e : bs (flip false (UInt8.ofNat (128 + D.length)) :: ((D.reverse.take 0).map (flip false))) = [] ++ [.int .u8 (128 + (D.length : Int))] := by
          have hof : (UInt8.ofNat (128 + D.length)).toNat = 128 + D.length := by simp; omega
          simp only [List.take_zero, List.map_nil, bs, by8, List.map_cons, flip_toNat, hof, List.nil_append]
          first | (congr 2; done) | (congr 2; simp; done) | (congr 2; simp; omega)
        rw [e]
        exact hown1
      have HO2 := Lib.hid hown2
      clear hown1 hown2 hg1 hat1
      go_wp2_with fail
      go_loopg [6, 7, 8] D.length (fun g s6 s7 s8 wr => ∃ q : Nat, q + g = D.length ∧ s7 = .int .i64 ((g : Int) - 1) ∧ wr.ownsRow wd.heap.size 5 1 s6 (1 + q) (bs (flip false (UInt8.ofNat (128 + D.length)) :: ((D.reverse.take q).map (flip false)))) ∧ Below wd.heap.size wd wr)
      case atStart => exact ⟨0, by omega, rfl, HO2.out, hb1⟩
      case round =>
        obtain ⟨q, hq, rfl, hown, hbr2⟩ := hrel
        obtain ⟨A2, c2, rfl, hrd2, hc2, hm2⟩ := Rd.of_own hown
        have HO3 := Lib.hid hown; clear hown hrd2
        cases gk with
        | zero =>
          go_wp2_with fail
          go_ret
          have hbf := below_next hbr hbr2
          refine ⟨_, rfl, ?_, hbf⟩
          have h := own_mono HO3.out hbr.size
          have hq' : q = D.length := by omega
          have e1 : ES = flip false (UInt8.ofNat (128 + D.length)) :: ((D.reverse.take q).map (flip false)) := by
            rw [← HES.out]
            unfold enS
            rw [HDG.out, List.length_reverse, List.take_of_length_le (by rw [List.length_reverse]; omega)]
          have e2 : ES.length = 1 + q := by rw [e1]; simp; omega
          rw [e2, e1]
          exact h
        | succ g =>
          have hgD : g < D.length := by omega
          obtain ⟨b, o, e, hcell⟩ := rd_cells0 (HRD.out.below hbr2) g hgD
          subst e
          obtain ⟨dv, hdv⟩ : ∃ dv : UInt8, dv = D[g] := ⟨_, rfl⟩
          rw [← hdv] at hcell
          have hd255 : dv.toNat ≤ 255 := by have := dv.toNat_lt; omega
          have hrev : D.reverse[q]? = some dv := by rw [List.getElem?_reverse (by omega), hdv, show D.length - 1 - q = g from by omega]; simp [hgD]
          have HDV := Lib.hid hrev
          obtain ⟨RR, hRR⟩ : ∃ RR, RR = bs (flip false (UInt8.ofNat (128 + D.length)) :: ((D.reverse.take q).map (flip false))) := ⟨_, rfl⟩
          rw [← hRR] at HO3
          have HRR := Lib.hid hRR
          clear hRR
          obtain ⟨gi, hgi⟩ : ∃ gi : Int, ((g + 1 : Nat) : Int) - 1 = gi ∧ gi = (g : Int) := ⟨_, rfl, by omega⟩
          rw [hgi.1, hgi.2]
          clear hgi hdv hrev
          go_wp2_with (at_builtin; refine wpList_own_src rfl (.tmp 54) (.tmp 56) 28 28 rfl wd.heap.size 5 i0 _ 1 1 Try.underlying28 hi0 hz0 hz1 hz2 rfl _ _ _ rfl (HO3.out.alloc _) _ 1 [.int .u8 ((dv.toNat : Int))] rfl (src_one Try.underlying28 hz1 _ _ _ rfl) ?c1 ?c2 ?c3 ?_)
          case c1 => unfold maxLen; omega
          case c2 => omega
          case c3 => simp; exact Nat.le_succ_of_le hbr2.size
          intro v3 w3 hown3 hg3 hat3
          have hb3 : Below wd.heap.size wd w3 := (hbr2.alloc hbr2.size _).grown hg3 (by simp; exact Nat.le_succ_of_le hbr2.size) (fun g hg => (HO3.out.lt g hg).1)
          have hown4 : w3.ownsRow wd.heap.size 5 1 v3 (1 + (q + 1)) (bs (flip false (UInt8.ofNat (128 + D.length)) :: ((D.reverse.take (q + 1)).map (flip false)))) := by
            have e : bs (flip false (UInt8.ofNat (128 + D.length)) :: ((D.reverse.take (q + 1)).map (flip false))) = bs (flip false (UInt8.ofNat (128 + D.length)) :: ((D.reverse.take q).map (flip false))) ++ [.int .u8 ((dv.toNat : Int))] := by
              rw [List.take_add_one, HDV.out, Option.toList_some, List.map_append, ← List.cons_append, bs_append]
              congr 1
              all_goals simp only [bs, by8, List.map_cons, List.map_nil, flip_toNat]
              all_goals first | (congr 2; done) | (congr 2; simp; done) | (congr 2; simp; omega)
            rw [e, ← Nat.add_assoc, ← HRR.out]
            exact hown3
          have HO4 := Lib.hid hown4
          clear hown3 hown4 hg3 hat3
          go_wp2_with fail
          go_roundg g
          case measure => omega
          case rel => exact ⟨q + 1, by omega, by go_num, HO4.out, hb3⟩

set_option maxRecDepth 100000 in
set_option maxHeartbeats 1000000 in
theorem rint_neg (m : Nat) (hm : m ≤ 9223372036854775807) (w : World) :
    Calls Try.prog 15 #[.int .i64 (-1 - (m : Int))] w fun e w' => ∃ v', e = .returned v' ∧ w'.ownsRow w.heap.size 5 1 v' (enS true m).length (bs (enS true m)) ∧ Below w.heap.size w w' := by
  obtain ⟨i0, hi0, hz0, hz1, hz2⟩ := info_parts Try.info5
  have hlen8 := be_len 8 m
  obtain ⟨ES, hES⟩ : ∃ ES, enS true m = ES := ⟨_, rfl⟩
  have HES := Lib.hid hES
  rw [hES]
  clear hES
  have hsub : (-1 : Int) - (-1 - (m : Int)) = (m : Int) := by omega
  have hdec : decide ((-1 - (m : Int)) < 0) = true := by simp; omega
  have hdec2 : decide (0 ≤ (-1 - (m : Int))) = false := by simp; omega
  go_enter Try.func15, Try.ntmps15
  go_wp2_with fail
  go_loopg [3, 4] 8 (fun g s3 s4 wr => ∃ (M : Nat) (D : List UInt8), D.length + g = 8 ∧ M ≤ 9223372036854775807 ∧ s3 = .int .i64 M ∧ Hid (be 8 m = be g M ++ D.reverse ∧ M < 256 ^ g) ∧ wr.ownsRow w.heap.size 5 1 s4 D.length (bs D) ∧ Below w.heap.size w wr)
  case atStart => exact ⟨m, [], rfl, hm, rfl, ⟨by simp, by omega⟩, World.ownsRow_nil _ _ _ _, Below.refl _ _⟩
  case round =>
    obtain ⟨M, D, hD, hM, rfl, HH, hown, hbr⟩ := hrel
    obtain ⟨A, c, rfl, hrd, hc, hmc⟩ := Rd.of_own hown
    have HO := Lib.hid hown; clear hown
    have HRD := Lib.hid hrd; clear hrd
    by_cases h0 : 0 < M
    · cases gk with
      | zero => have h := HH.out.2; simp at h; omega
      | succ g =>
        go_wp2_with (at_builtin; refine wpList_own_src rfl (.tmp 16) (.tmp 20) 28 28 rfl w.heap.size 5 i0 _ 1 1 Try.underlying28 hi0 hz0 hz1 hz2 rfl _ _ _ rfl (HO.out.alloc _) _ 1 [.int .u8 ((M : Int) % 256)] rfl (src_one Try.underlying28 hz1 _ _ _ rfl) ?c1 ?c2 ?c3 ?_)
        case c1 => unfold maxLen; omega
        case c2 => omega
        case c3 => simp; exact Nat.le_succ_of_le hbr.size
        intro v1 w1 hown1 hg1 hat1
        have hb1 : Below w.heap.size w w1 := (hbr.alloc hbr.size _).grown hg1 (by simp; exact Nat.le_succ_of_le hbr.size) (fun g hg => (HO.out.lt g hg).1)
        have hown2 : w1.ownsRow w.heap.size 5 1 v1 (D ++ [UInt8.ofNat (M % 256)]).length (bs (D ++ [UInt8.ofNat (M % 256)])) := by
          rw [bs_append, List.length_append]
          have e : bs [UInt8.ofNat (M % 256)] = [.int .u8 ((M : Int) % 256)] := by
            simp [bs, by8]
          rw [e]
          exact hown1
        have HO2 := Lib.hid hown2
        clear hown1 hown2 hg1 hat1
        go_wp2_with fail
        go_roundg g
        case measure => omega
        case rel => exact ⟨M / 256, D ++ [UInt8.ofNat (M % 256)], by simp; omega, by omega, by go_num, ⟨by rw [HH.out.1, be_pos h0]; simp, by have := HH.out.2; rw [Nat.pow_succ] at this; omega⟩, HO2.out, hb1⟩
    · have hM0 : M = 0 := by omega
      have hDIG : be 8 m = D.reverse := by rw [HH.out.1, hM0, be_zero]; rfl
      have HM0 := Lib.hid hM0
      have HDG := Lib.hid hDIG
      have hlD : D.length ≤ 8 := by omega
      clear hM0 hDIG
      obtain ⟨wd, hwd⟩ : ∃ wd : World, wd = wr := ⟨_, rfl⟩
      rw [← hwd] at HO HRD hbr ⊢
      clear hwd
      go_wp2_with (at_builtin; refine wpList_own_src rfl (.tmp 34) (.tmp 38) 28 28 rfl wd.heap.size 5 i0 _ 1 1 Try.underlying28 hi0 hz0 hz1 hz2 rfl (.slice none 0 0) 0 [] rfl (World.ownsRow_nil _ _ _ _) _ 1 [.int .u8 (127 - (D.length : Int))] rfl (src_one Try.underlying28 hz1 _ _ _ rfl) ?c1 ?c2 ?c3 ?_)
      case c1 => unfold maxLen; omega
      case c2 => omega
      case c3 => simp
      intro v1 w1 hown1 hg1 hat1
      have hb1 : Below wd.heap.size wd w1 := ((below_a1 wd _)).grown hg1 (by simp) (by simp [Value.ownBlock])
      have hown2 : w1.ownsRow wd.heap.size 5 1 v1 (1 + 0) (bs (flip true (UInt8.ofNat (128 + D.length)) :: ((D.reverse.take 0).map (flip true)))) := by
        have e : bs (flip true (UInt8.ofNat (128 + D.length)) :: ((D.reverse.take 0).map (flip true))) = [] ++ [.int .u8 (127 - (D.length : Int))] := by
          have hof : (UInt8.ofNat (128 + D.length)).toNat = 128 + D.length := by simp; omega
          simp only [List.take_zero, List.map_nil, bs, by8, List.map_cons, flip_toNat, hof, List.nil_append]
          first | (congr 2; done) | (congr 2; simp; done) | (congr 2; simp; omega)
        rw [e]
        exact hown1
      have HO2 := Lib.hid hown2
      clear hown1 hown2 hg1 hat1
      go_wp2_with fail
      go_loopg [6, 7, 8] D.length (fun g s6 s7 s8 wr => ∃ q : Nat, q + g = D.length ∧ s7 = .int .i64 ((g : Int) - 1) ∧ wr.ownsRow wd.heap.size 5 1 s6 (1 + q) (bs (flip true (UInt8.ofNat (128 + D.length)) :: ((D.reverse.take q).map (flip true)))) ∧ Below wd.heap.size wd wr)
      case atStart => exact ⟨0, by omega, rfl, HO2.out, hb1⟩
      case round =>
        obtain ⟨q, hq, rfl, hown, hbr2⟩ := hrel
        obtain ⟨A2, c2, rfl, hrd2, hc2, hm2⟩ := Rd.of_own hown
        have HO3 := Lib.hid hown; clear hown hrd2
        cases gk with
        | zero =>
          go_wp2_with fail
          go_ret
          have hbf := below_next hbr hbr2
          refine ⟨_, rfl, ?_, hbf⟩
          have h := own_mono HO3.out hbr.size
          have hq' : q = D.length := by omega
          have e1 : ES = flip true (UInt8.ofNat (128 + D.length)) :: ((D.reverse.take q).map (flip true)) := by
            rw [← HES.out]
            unfold enS
            rw [HDG.out, List.length_reverse, List.take_of_length_le (by rw [List.length_reverse]; omega)]
          have e2 : ES.length = 1 + q := by rw [e1]; simp; omega
          rw [e2, e1]
          exact h
        | succ g =>
          have hgD : g < D.length := by omega
          obtain ⟨b, o, e, hcell⟩ := rd_cells0 (HRD.out.below hbr2) g hgD
          subst e
          obtain ⟨dv, hdv⟩ : ∃ dv : UInt8, dv = D[g] := ⟨_, rfl⟩
          rw [← hdv] at hcell
          have hd255 : dv.toNat ≤ 255 := by have := dv.toNat_lt; omega
          have hrev : D.reverse[q]? = some dv := by rw [List.getElem?_reverse (by omega), hdv, show D.length - 1 - q = g from by omega]; simp [hgD]
          have HDV := Lib.hid hrev
          obtain ⟨RR, hRR⟩ : ∃ RR, RR = bs (flip true (UInt8.ofNat (128 + D.length)) :: ((D.reverse.take q).map (flip true))) := ⟨_, rfl⟩
          rw [← hRR] at HO3
          have HRR := Lib.hid hRR
          clear hRR
          obtain ⟨gi, hgi⟩ : ∃ gi : Int, ((g + 1 : Nat) : Int) - 1 = gi ∧ gi = (g : Int) := ⟨_, rfl, by omega⟩
          rw [hgi.1, hgi.2]
          clear hgi hdv hrev
          go_wp2_with (at_builtin; refine wpList_own_src rfl (.tmp 54) (.tmp 56) 28 28 rfl wd.heap.size 5 i0 _ 1 1 Try.underlying28 hi0 hz0 hz1 hz2 rfl _ _ _ rfl (HO3.out.alloc _) _ 1 [.int .u8 (255 - (dv.toNat : Int))] rfl (src_one Try.underlying28 hz1 _ _ _ rfl) ?c1 ?c2 ?c3 ?_)
          case c1 => unfold maxLen; omega
          case c2 => omega
          case c3 => simp; exact Nat.le_succ_of_le hbr2.size
          intro v3 w3 hown3 hg3 hat3
          have hb3 : Below wd.heap.size wd w3 := (hbr2.alloc hbr2.size _).grown hg3 (by simp; exact Nat.le_succ_of_le hbr2.size) (fun g hg => (HO3.out.lt g hg).1)
          have hown4 : w3.ownsRow wd.heap.size 5 1 v3 (1 + (q + 1)) (bs (flip true (UInt8.ofNat (128 + D.length)) :: ((D.reverse.take (q + 1)).map (flip true)))) := by
            have e : bs (flip true (UInt8.ofNat (128 + D.length)) :: ((D.reverse.take (q + 1)).map (flip true))) = bs (flip true (UInt8.ofNat (128 + D.length)) :: ((D.reverse.take q).map (flip true))) ++ [.int .u8 (255 - (dv.toNat : Int))] := by
              rw [List.take_add_one, HDV.out, Option.toList_some, List.map_append, ← List.cons_append, bs_append]
              congr 1
              all_goals simp only [bs, by8, List.map_cons, List.map_nil, flip_toNat]
              all_goals first | (congr 2; done) | (congr 2; simp; done) | (congr 2; simp; omega)
            rw [e, ← Nat.add_assoc, ← HRR.out]
            exact hown3
          have HO4 := Lib.hid hown4
          clear hown3 hown4 hg3 hat3
          go_wp2_with fail
          go_roundg g
          case measure => omega
          case rel => exact ⟨q + 1, by omega, by go_num, HO4.out, hb3⟩

theorem rint_any (n : Int) (hn : inI n) (w : World) :
    Calls Try.prog 15 #[.int .i64 n] w fun e w' => ∃ v', e = .returned v' ∧ w'.ownsRow w.heap.size 5 1 v' (en n).length (bs (en n)) ∧ Below w.heap.size w w' := by
  unfold inI at hn
  by_cases h : n < 0
  · obtain ⟨m, hm⟩ : ∃ m : Nat, -1 - n = (m : Int) := ⟨(-1 - n).toNat, by omega⟩
    have e : en n = enS true m := by unfold en; rw [if_pos h, hm]; rfl
    have e2 : n = -1 - (m : Int) := by omega
    rw [e, e2]
    exact rint_neg m (by omega) w
  · obtain ⟨m, hm⟩ : ∃ m : Nat, n = (m : Int) := ⟨n.toNat, by omega⟩
    have e : en n = enS false m := by unfold en; rw [if_neg h, hm]; rfl
    rw [e, hm]
    exact rint_pos m (by omega) w

end Go.Proofs.Ytelkekicceoaoaa
