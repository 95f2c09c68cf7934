/-
  The walk of sign's parts: the values and the nodes of a signature.
-/
import Derived.Test.YtbgcnfikcddcpaaDoorSSign
import Derived.BigRegion
namespace Go.Proofs.YtbgcnfikcddcpaaDoor
open Go.RowKit
set_option linter.unusedVariables false
open Sha Sgn
theorem othersOf_succ (r : List UInt8) (j : Nat) : othersOf r (j + 1) = othersOf r j ++ [cut16 r (68 + j)] := by simp [othersOf, List.range_succ]
theorem drop_take16 (r : List UInt8) (k : Nat) : (r.drop (16 * k)).take 16 = cut16 r k := rfl
theorem sb_drop (l : List UInt8) (n : Nat) (hn : n ≤ l.length) : (sb l).extract n (sb l).size = sb (l.drop n) := sb_extract l n
theorem arr44c (b c : Nat) (w : World) : (Instr.arrayAt 23 (.slice (some ⟨b, 0, none⟩) 16 c)).run Tryd.prog w = .ok (.pointer (some ⟨b, 0, none⟩)) w := by
  simp [Instr.arrayAt, run_underlying Tryd.underlying23]
theorem sb_toList (u : List UInt8) : (sb u).toList = u := ByteArray.toList_mk u
theorem own_stored {w w1 : World} {base g : Nat} {e : TypeId} {size n : Nat} {v : Value} {xs : List Value} {D : List Value} {T : TypeId} (h : w.ownsRow base e size v n xs) (hs : Stored w w1 g D T) (hg : g < base) : w1.ownsRow base e size v n xs := by
  refine h.kept (row := some g) ⟨hs.2.2.2.1, hs.2.2.2.2.1, hs.2.2.2.2.2, by rw [hs.2.2.1]; exact Nat.le_refl _, fun k _ hne => hs.2.1 k (fun e => hne (by rw [e]))⟩ ?_
  refine .inr fun e => ?_
  have := (h.lt g e).1
  omega
theorem rd_stored {w w1 : World} {base g : Nat} {e : TypeId} {size n c : Nat} {A : Option Addr} {xs : List Value} {D : List Value} {T : TypeId} (h : w.ownsRow base e size (.slice A n c) n xs) (hs : Stored w w1 g D T) (hg : g < base) : Rd w1 A xs := by
  obtain ⟨A', c', e', hr, _⟩ := Rd.of_own (own_stored h hs hg)
  simp only [Value.slice.injEq] at e'
  rw [e'.1]
  exact hr
/-- What parts keep in its second loop. -/
def PA (w : World) (V : List (List UInt8)) (wr : World) : Prop := Blk wr (w.heap.size + 1) (ss V) 52 ∧ Blk wr w.heap.size (ss (List.replicate 68 [])) 52 ∧ Below w.heap.size w wr
theorem PA.next {w wr w1 : World} {V : List (List UInt8)} (h : PA w V wr) (hb : Below wr.heap.size wr w1) : PA w V w1 := ⟨h.1.below hb h.1.lt, h.2.1.below hb h.2.1.lt, below_next h.2.2 hb⟩
theorem PA.alloc {w wr : World} {V : List (List UInt8)} (h : PA w V wr) (o : Obj) : PA w V (wr.alloc o) := h.next (below_a1 _ _)
theorem PA.grown {w wr w1 : World} {V : List (List UInt8)} {row : Option Nat} (h : PA w V wr) (hg : wr.grownBy w1 row) (hr : ∀ g, row = some g → w.heap.size + 2 ≤ g) : PA w V w1 :=
  ⟨h.1.grown hg (fun e => by have := hr _ e.symm; omega), h.2.1.grown hg (fun e => by have := hr _ e.symm; omega), h.2.2.grown hg h.2.2.size (fun g hg => by have := hr g hg; omega)⟩
set_option maxRecDepth 100000 in
set_option maxHeartbeats 2000000 in
theorem parts_aux (r : List UInt8) (V : List (List UInt8)) (h : Nat) (hV : V = valsOf r) (hr : r.length = 16 * (68 + h)) (hh : h ≤ 6) (w : World) :
    Calls Tryd.prog 44 #[.string (sb r)] w fun e w' => ∃ A c, e = .returned (.tuple #[.agg (ss V).toArray, .slice A h c]) ∧ Rd w' A ((othersOf r h).flatMap bs) ∧ Below w.heap.size w w' := by
  obtain ⟨i0, hi0, hz0, hz1, hz2⟩ := info_parts Tryd.info23
  have hVl : V.length = 68 := by rw [hV, valsOf_length]
  have hVg : ∀ k, k < 68 → V.getD k [] = cut16 r k := fun k hk => by rw [hV, valsOf_get _ _ hk]
  have HV := Lib.hid (And.intro hVl (And.intro hVg hr)); clear hV hVl hVg hr
  have H0 : Hid (AS w V 0 ((w.alloc (.cells Tryd.zeroCells52 52)).alloc (.cells Tryd.zeroCells52 52))) := Lib.hid
    ⟨by rw [preS_zero]; exact Blk.at _ _ _ _ _ Tryd.zero52 (by simp), (Blk.at w _ _ _ _ Tryd.zero52 rfl).alloc _, (below_a1 _ _).alloc (by simp) _⟩
  go_enter Tryd.func44, Tryd.ntmps44
  go_wp2_with fail
  go_loopg [0, 7] 68 (fun g s0 s7 wr => ∃ k : Nat, k + g = 68 ∧ s7 = .int .i64 k ∧ s0 = .string (sb (r.drop (16 * k))) ∧ AS w V k wr)
  case atStart => exact ⟨0, rfl, rfl, rfl, H0.out⟩
  case round =>
    clear H0
    obtain ⟨k, hk, rfl, rfl, hA⟩ := hrel
    by_cases hlt : k < 68
    · obtain ⟨g, rfl⟩ : ∃ g, gk = g + 1 := ⟨gk - 1, by omega⟩
      obtain ⟨u, hu⟩ : ∃ u, u = r.drop (16 * k) := ⟨_, rfl⟩
      obtain ⟨x, hx⟩ : ∃ x, x = V.getD k [] := ⟨_, rfl⟩
      obtain ⟨u', hu'⟩ : ∃ u', u' = r.drop (16 * (k + 1)) := ⟨_, rfl⟩
      rw [← hu]
      have hul : 16 ≤ u.length := by rw [hu, List.length_drop, HV.out.2.2]; omega
      have husz : (sb u).size = u.length := sb_size u
      have hc1 : (sb u).extract 0 16 = sb x := by rw [sb_take, hx, HV.out.2.1 k hlt, cut16, hu]
      have hc2 : (sb u).extract 16 u.length = sb u' := by rw [← husz, sb_drop u 16 hul, hu', hu, List.drop_drop, show 16 * (k + 1) = 16 * k + 16 from by omega]
      have hset : (ss (preS k V 68)).set k (.string (sb x)) = ss (preS (k + 1) V 68) := by rw [ss_set, hx, preS_set k V 68 HV.out.1 hlt]
      have hjl : k < (ss (preS k V 68)).length := by rw [ss_length, preS_length _ _ _ HV.out.1 (by omega)]; exact hlt
      have hcell : wr.drew.cell? ⟨w.heap.size + 1, k, none⟩ = some (ss (preS k V 68))[k] := hA.1.drew.cell (List.getElem?_eq_getElem hjl)
      have hfro : wr.drew.frozen? ⟨w.heap.size + 1, k, none⟩ = false := hA.1.drew.frozen k
      have HX : Hid (AS w V (k + 1) (wr.drew.setCell ⟨w.heap.size + 1, k, none⟩ (.string (sb x)))) := Lib.hid (AS.stored (wr := wr.drew) ⟨hA.1.drew, hA.2.1.drew, hA.2.2.drew⟩ (by have := Stored.of_setCell hA.1.drew k (.string (sb x)); rw [hset] at this; exact this))
      have HU := Lib.hid hu'
      clear hu hx hu' hset hA
      go_wp2_with fail
      go_region
      all_goals
        go_wp2_with fail
        go_roundg g
        case rel => exact ⟨k + 1, by omega, by go_num, by rw [HU.out], HX.out⟩
        case measure => omega
    · obtain rfl : k = 68 := by omega
      have hpre : preS 68 V 68 = V := by have := preS_all V; rw [HV.out.1] at this; exact this
      have HP : Hid (PA w V wr) := Lib.hid (by have := hA; unfold AS at this; rw [hpre] at this; exact this)
      clear hpre hA
      go_wp2_with fail
      go_loopg [0, 6] h (fun g s0 s6 wr => ∃ j : Nat, j + g = h ∧ s0 = .string (sb (r.drop (16 * (68 + j)))) ∧ wr.ownsRow (w.heap.size + 2) 23 16 s6 j ((othersOf r j).flatMap bs) ∧ PA w V wr)
      case atStart => exact ⟨0, by omega, rfl, World.ownsRow_nil _ _ _ _, HP.out⟩
      case round =>
        clear HP
        obtain ⟨j, hj, rfl, hown, hP⟩ := hrel
        obtain ⟨u, hu⟩ : ∃ u, u = r.drop (16 * (68 + j)) := ⟨_, rfl⟩
        rw [← hu]
        have husz : (sb u).size = u.length := sb_size u
        have hul : u.length = 16 * (h - j) := by rw [hu, List.length_drop, HV.out.2.2]; omega
        by_cases hlt : j < h
        · obtain ⟨g, rfl⟩ : ∃ g, gk = g + 1 := ⟨gk - 1, by omega⟩
          obtain ⟨d, hd⟩ : ∃ d, d = cut16 r (68 + j) := ⟨_, rfl⟩
          obtain ⟨u', hu'⟩ : ∃ u', u' = r.drop (16 * (68 + (j + 1))) := ⟨_, rfl⟩
          have hd16 : d.length = 16 := by rw [hd]; exact cut16_length _ _ (by rw [HV.out.2.2]; omega)
          have he : (sb u).toList.isEmpty = false := by
            rw [sb_toList]
            cases u with
            | nil => simp at hul; omega
            | cons a b => rfl
          have hu16 : 16 ≤ u.length := by omega
          have hc1 : (sb u).extract 0 16 = sb d := by rw [sb_take, hd, cut16, hu]
          have hc2 : (sb u).extract 16 u.length = sb u' := by rw [← husz, sb_drop u 16 hu16, hu', hu, List.drop_drop, show 16 * (68 + (j + 1)) = 16 * (68 + j) + 16 from by omega]
          obtain ⟨c1, x1, hcv1, hrd1, hb1⟩ := conv_back (P := Tryd.prog) (src := 9) (dst := 58) Tryd.underlying9 Tryd.underlying58 Tryd.underlying5 wr (sb d)
          rw [sb_size, hd16] at hcv1
          rw [sb_list] at hrd1
          have hrg : x1.rangeAt wr.heap.size 0 (bs d) := by
            obtain ⟨b, o, e, hc⟩ := hrd1.open (by intro e; have := congrArg List.length e; rw [bs_length, hd16] at this; simp at this)
            have e2 := Option.some.inj e
            simp only [Addr.mk.injEq] at e2
            obtain ⟨rfl, rfl, _⟩ := e2
            exact fun k v hv => hc k v hv
          have hxb : (bs d).length = 16 := by rw [bs_length]; exact hd16
          have hfold := fold16 d hd16
          have hsrc : Src Tryd.prog i0.size 48 (.slice (some ⟨x1.heap.size, 0, none⟩) 1 1) 1 (bs d) (x1.alloc (.cells (bs d).toArray 23)) :=
            Src.ofSlice _ Tryd.underlying48 ⟨x1.heap.size, 0, none⟩ 1 1 (bs d) (by rw [hxb, hz1]) (World.news_of_block (heap_alloc_new x1 _)) (bs_one d)
          have HX1 : Hid (x1.ownsRow (w.heap.size + 2) 23 16 _ j ((othersOf r j).flatMap bs) ∧ PA w V x1 ∧ w.heap.size + 2 ≤ x1.heap.size) := Lib.hid ⟨own_keep hown hb1, hP.next hb1, by have h1 := (hP.next hb1).1.lt; omega⟩
          have hfl : (othersOf r (j + 1)).flatMap bs = (othersOf r j).flatMap bs ++ bs d := by rw [othersOf_succ, List.flatMap_append, hd]; simp
          have HF := Lib.hid (And.intro hfl hu')
          have HS := Lib.hid (And.intro hsrc hrg)
          have hsz16 : i0.size = 16 := hz1
          have harr := arr44c wr.heap.size c1
          have HXB := Lib.hid hxb
          clear hfl hu' hsrc hrg hd hu hown hP hb1 hrd1 hd16 hsz16 hul
          go_wp2_with (first
            | (refine wpList_load_mid rfl 23 (.tmp 25) rfl wr.heap.size 0 rfl (bs d) _ HS.out.2 Tryd.underlying23 rfl (by rw [HXB.out]; exact Tryd.size44) ?_)
            | (at_builtin; refine wpList_own_src rfl (.tmp 21) (.tmp 27) 48 48 rfl (w.heap.size + 2) 23 i0 _ 16 16 Tryd.underlying48 hi0 hz0 hz1 hz2 rfl _ j _ rfl (HX1.out.1.alloc _) _ 1 (bs d) rfl HS.out.1 (by unfold maxLen; omega) (by omega) (by have := HX1.out.2.2; simp; omega) ?_; intro v3 x3 hown3 hg3 hat3; have HX3 : Hid (x3.ownsRow (w.heap.size + 2) 23 16 v3 (j + 1) ((othersOf r (j + 1)).flatMap bs) ∧ PA w V x3) := Lib.hid ⟨by rw [HF.out.1]; exact hown3, (HX1.out.2.1.alloc _).grown hg3 (fun g hg => (HX1.out.1.lt g hg).1)⟩; clear hown3 hg3 hat3))
          go_roundg g
          case rel => exact ⟨j + 1, by omega, by rw [HF.out.2], HX3.out⟩
          case measure => omega
        · obtain rfl : j = h := by omega
          have hu0 : u = [] := List.eq_nil_of_length_eq_zero (by omega)
          have he : (sb u).toList.isEmpty = true := by rw [sb_toList, hu0]; rfl
          obtain ⟨A, c, rfl, hrd, _, _⟩ := Rd.of_own hown
          have hVl : (ss V).length = 68 := by rw [ss_length]; exact HV.out.1
          have HVL := Lib.hid hVl
          have HP := Lib.hid (And.intro hP hrd)
          have HO := Lib.hid hown
          clear hu0 hu hP hrd hown hVl hul
          go_wp2_with (first
            | (refine wpList_load_blk rfl 52 (.tmp 4) rfl (w.heap.size + 1) 0 rfl HP.out.1.1 _ Tryd.underlying52 rfl 68 Tryd.size52 (by rw [HVL.out]; omega) ?_; rw [List.drop_zero, List.take_of_length_le (by rw [HVL.out]; omega)])
            | (refine wpList_store_blk rfl 52 (.tmp 2) (.tmp 29) rfl w.heap.size 0 rfl (ss V) rfl HP.out.1.2.1 68 Tryd.size52 HVL.out (by rw [ss_length, List.length_replicate]; omega) (ss_one _) ?_; intro w3 hst3; rw [List.take_zero, List.nil_append, List.drop_of_length_le (by rw [ss_length, List.length_replicate]; omega), List.append_nil] at hst3; have HST3 : Hid (Stored wr w3 w.heap.size (ss V) 52 ∧ Rd w3 A ((othersOf r j).flatMap bs)) := Lib.hid ⟨hst3, rd_stored HO.out hst3 (by omega)⟩; clear hst3))
          exact ret_blk2 rfl _ rfl HST3.out.1.1 _ Tryd.underlying52 rfl (by rw [HVL.out]; exact Tryd.size52) rfl _ rfl ⟨A, c, rfl, HST3.out.2, HST3.out.1.below HP.out.1.2.2 (by omega)⟩
theorem parts_any (r : List UInt8) (h : Nat) (hr : r.length = 16 * (68 + h)) (hh : h ≤ 6) (w : World) :
    Calls Tryd.prog 44 #[.string (sb r)] w fun e w' => ∃ A c, e = .returned (.tuple #[.agg (ss (valsOf r)).toArray, .slice A h c]) ∧ Rd w' A ((othersOf r h).flatMap bs) ∧ Below w.heap.size w w' := parts_aux r _ h rfl hr hh w
end Go.Proofs.YtbgcnfikcddcpaaDoor
