/-
  CalendarFiles: for every list of numbers the law returns true, and leaves what was there as it was; the tables are as the program's text lays them (the card ties them).
-/
import Derived.Test.YtkaaejfochdjcaaDoorCFil
import Derived.Deep.QuietTactic
import Derived.BigQuiet
namespace Go.Proofs.YtkaaejfochdjcaaDoor
open Go.ChangeShapes Go.WideShapes Go.ChangeAt Go.RowKit Go.ChangeMaps
set_option linter.unusedVariables false
set_option linter.unusedSimpArgs false
namespace CL9
open Sha
open Cal hiding below_next below_al below_a1 below_drewN ret_bool

set_option maxRecDepth 100000 in
set_option maxHeartbeats 8000000 in
theorem walk_aux (S : List (Int × Int)) (TS : List (List UInt8)) (E D : List UInt8) (n m : Nat) (hTS : TS = S.map fun x => prt x.1 x.2) (hn : n = S.length) (hn8 : n ≤ 8) (hv : ∀ x ∈ S, vaB x.1 x.2 = true) (hm : m ≤ 20000) (A : Option Addr) (ln cl : Nat) (w : World)
    (HSP : Hid (∀ W, Below w.heap.size w W → Calls Tryd.prog 31 #[.slice A ln cl, .int .i64 8] W (SpN W S n)))
    (HPR : Hid (∀ p q, ∀ W, Below w.heap.size w W → Calls Tryd.prog 28 #[.agg #[.int .i64 p, .int .i64 q]] W fun e w' => e = .returned (.string (tb (prt p q))) ∧ Below W.heap.size W w'))
    (HPA : Hid (∀ p q, vaB p q = true → ∀ W, Below w.heap.size w W → Calls Tryd.prog 25 #[.string (tb (prt p q))] W fun e w' => e = .returned (.tuple #[.agg #[.int .i64 p, .int .i64 q], .int .i64 0]) ∧ Below W.heap.size W w'))
    (HST : Hid (∀ (A : Option Addr) (c : Nat) W, Rd W A (tv TS) → Calls Tryd.prog 33 #[.slice A n c] W (BsPost W E m)))
    (HGS : Hid (∀ (A : Option Addr) (c : Nat) W, m ≤ c → c ≤ maxLen → Rd W A (bs E) → Calls Tryd.prog 34 #[.slice A m c] W (GsPost W TS n m)))
    (HOF : Hid (∀ (B : Nat) W, B = W.heap.size → Below w.heap.size w W → Calls Tryd.prog 35 #[.int .i64 3, .slice (some ⟨B, 0, none⟩) 1 1] (W.alloc (.cells #[.string (tb E)] 9)) fun e w' => e = .returned (.agg (bs D).toArray) ∧ Below W.heap.size W w'))
    (HCV : Hid (∀ (A : Option Addr) (c : Nat) W, Rd W A (bs E) → (convert 53 9 (.slice A m c)).run Tryd.prog W = .ok (.string (tb E)) W))
    (heq : ∀ W, (Op.equalIn 10000 58 (.agg (bs D).toArray) (.agg (bs D).toArray)).run Tryd.prog W = .ok true W)
    (HL : Hid (∀ W, Below w.heap.size w W → Calls Tryd.prog 16 #[] W fun e w' => e = .returned (.bool true) ∧ Below W.heap.size W w')) :
    Calls Tryd.prog 11 #[.slice A ln cl] w fun e w' => e = .returned (.bool true) ∧ Below w.heap.size w w' := by
  obtain ⟨i0, hi0, hz0, hz1, hz2⟩ := info_parts Tryd.infoStr
  have HTS := Lib.hid hTS
  have HN := Lib.hid hn
  have HV := Lib.hid hv
  have HTL : Hid (TS.length = n) := Lib.hid (by rw [hTS, List.length_map, hn])
  have hnn : ((n : Int) != (n : Int)) = false := by simp
  have hmm : ((m : Int) != (m : Int)) = false := by simp
  clear hTS hn hv
  go_enter Tryd.func11, Tryd.ntmps11
  go_wp2_with ((with_reducible refine (HSP.out _ (Below.refl _ _)).mono ?_); rintro e w1 hs1; obtain ⟨A1, c1, rfl, hrd1, hc1, hm1, hb1⟩ := spn_out hs1; clear hs1; have HR1 := Lib.hid hrd1; have HB1 : Hid (Below w.heap.size w w1) := Lib.hid hb1; clear hrd1 hb1)
  have hc63 : c1 ≤ 9223372036854775807 := by unfold maxLen at hm1; omega
  have HC : Hid (∀ W, Below w1.heap.size w1 W → ∀ k, k < n → ∀ p q, (p, q) = S.getD k (0, 0) → ∃ b o, A1 = some ⟨b, o, none⟩ ∧ W.cell? ⟨b, o + k * 2, none⟩ = some (.int .i64 p) ∧ W.cell? ⟨b, o + k * 2 + 1, none⟩ = some (.int .i64 q)) := Lib.hid fun W hb k hk p q e => by
    have hkl : k < S.length := by rw [← HN.out]; exact hk
    obtain ⟨b, o, rfl, hcell⟩ := HR1.out.open (by intro e; have := congrArg List.length e; rw [sv_length, List.length_nil] at this; omega)
    exact ⟨b, o, rfl, sv_cells hcell W k p q hb hkl e⟩
  have HD : Hid (∀ k, k < n → ∀ p q, (p, q) = S.getD k (0, 0) → TS.drop k = prt p q :: TS.drop (k + 1) ∧ vaB p q = true ∧ (tv TS)[k]? = some (.string (tb (prt p q)))) := Lib.hid fun k hk p q e => by
    have hkl : k < S.length := by rw [← HN.out]; exact hk
    have hkt : k < TS.length := by rw [HTL.out]; exact hk
    have hq : (p, q) = S[k] := by rw [e]; simp [List.getD, hkl]
    have hg : TS.getD k [] = prt p q := by
      have h2 : (S.map fun x => prt x.1 x.2).getD k [] = prt S[k].1 S[k].2 := by simp [List.getD, hkl]
      rw [HTS.out, h2, ← hq]
    refine ⟨?_, ?_, by rw [tv_get TS k hkt, hg]⟩
    · rw [List.drop_eq_getElem_cons hkt, ← hg]; simp [List.getD, hkt]
    · have h1 : S.getD k (0, 0) ∈ S := by simp [List.getD, hkl]
      rw [← e] at h1
      exact HV.out _ h1
  go_loopg [4, 5] n (fun g s4 s5 wr => ∃ (k : Nat) (L : List (List UInt8)), k + g = n ∧ s5 = .int .i64 (k : Int) ∧ Hid (OwS w1 s4 L k wr) ∧ Hid (TS = L ++ TS.drop k))
  case atStart => exact ⟨0, [], by omega, rfl, Lib.hid ⟨⟨rfl, .inl ⟨rfl, rfl⟩⟩, rfl, Below.refl _ _⟩, Lib.hid rfl⟩
  case round =>
    obtain ⟨k, L, hk, rfl, HO, HT⟩ := hrel
    obtain ⟨A2, c2, hv, hrd2, hc2, hm2⟩ := HO.out.rd
    subst hv
    have HR2 := Lib.hid hrd2
    clear hrd2
    have hs1 : k + 1 ≤ maxLen := by unfold maxLen; omega
    have hs2 : (k + 1) * 16 ≤ 140737488355328 := by omega
    have hc263 : c2 ≤ 9223372036854775807 := by unfold maxLen at hm2; omega
    by_cases hlt : k < n
    · obtain ⟨g, rfl⟩ : ∃ g, gk = g + 1 := ⟨gk - 1, by omega⟩
      obtain ⟨⟨p, q⟩, hpq⟩ : ∃ r, r = S.getD k (0, 0) := ⟨_, rfl⟩
      have hd := HD.out k hlt p q hpq
      obtain ⟨b1, o1, rfl, hc0, hc1'⟩ := HC.out wr HO.out.2.2 k hlt p q hpq
      have HOB : Hid (Below w1.heap.size w1 wr) := Lib.hid HO.out.2.2
      have HDK := Lib.hid hd.1
      clear hd hpq
      go_wp2_with (first
        | ((with_reducible refine (HPR.out p q _ (Cal.below_next HB1.out HOB.out)).mono ?_); rintro e w5 ⟨rfl, hb5⟩; have HO5 := Lib.hid (HO.out.below hb5); clear hb5 hc0 hc1')
        | (at_builtin; refine wpList_own_src rfl (.tmp 22) (.tmp 28) 52 52 rfl w1.heap.size 9 i0 _ 1 16 Tryd.underlying52 hi0 hz0 hz1 hz2 rfl _ _ _ rfl (HO5.out.own _) _ 1 [.string (tb (prt p q))] rfl (src_one Tryd.underlying52 hz1 _ _ _ rfl) hs1 hs2 (HO5.out.size _) ?_; intro v4 w4 hown4 hg4 hat4; have HO6 := Lib.hid (HO5.out.step hown4 _ hg4); clear hown4 hg4 hat4))
      go_roundg g
      case rel => exact ⟨k + 1, L ++ [prt p q], by omega, by go_num, HO6, Lib.hid (by rw [List.append_assoc, List.singleton_append, ← HDK.out]; exact HT.out)⟩
      case measure => omega
    · obtain rfl : k = n := by omega
      have hTL : TS = L := by have := HT.out; rw [List.drop_of_length_le (by rw [HTL.out]; exact Nat.le_refl _), List.append_nil] at this; exact this
      have HRT : Hid (Rd wr A2 (tv TS)) := Lib.hid (by rw [hTL]; exact HR2.out)
      have HBw : Hid (Below w1.heap.size w1 wr) := Lib.hid HO.out.2.2
      clear hTL HT HO HR2
      have hnb0 : ((0 : Int) != 0) = false := rfl
      go_wp2_with (first
        | ((with_reducible refine (HST.out A2 c2 _ HRT.out).mono ?_); rintro e w6 hs6; obtain ⟨A6, c6, rfl, hrd6, hc6, hm6, hb6⟩ := bs_out hs6; clear hs6; have HR6 := Lib.hid hrd6; have HB6 : Hid (Below w1.heap.size w1 w6) := Lib.hid (Cal.below_next HBw.out hb6); clear hrd6 hb6)
        | ((with_reducible refine (HGS.out A6 c6 _ hc6 hm6 HR6.out).mono ?_); rintro e w7 hs7; obtain ⟨A7, c7, rfl, hrd7, hc7, hm7, hb7⟩ := gs_out hs7; clear hs7; have HR7 := Lib.hid hrd7; have HR67 : Hid (Rd w7 A6 (bs E)) := Lib.hid (HR6.out.below hb7); have HB7 : Hid (Below w1.heap.size w1 w7) := Lib.hid (Cal.below_next HB6.out hb7); clear hrd7 hb7))
      have hc763 : c7 ≤ 9223372036854775807 := by unfold maxLen at hm7; omega
      go_loopg [10, 11] k (fun g s10 s11 wr => ∃ (j : Nat) (L : List (List UInt8)), j + g = k ∧ s11 = .int .i64 (j : Int) ∧ Hid (OwS w7 s10 L j wr) ∧ Hid (TS = L ++ TS.drop j))
      case atStart => exact ⟨0, [], by omega, rfl, Lib.hid ⟨⟨rfl, .inl ⟨rfl, rfl⟩⟩, rfl, Below.refl _ _⟩, Lib.hid rfl⟩
      case round =>
        obtain ⟨j, L, hj, rfl, HO, HT⟩ := hrel
        obtain ⟨A8, c8, hv, hrd8, hc8, hm8⟩ := HO.out.rd
        subst hv
        have HR8 := Lib.hid hrd8
        clear hrd8
        have hs1 : j + 1 ≤ maxLen := by unfold maxLen; omega
        have hs2 : (j + 1) * 16 ≤ 140737488355328 := by omega
        have HBx : Hid (Below w1.heap.size w1 wr) := Lib.hid (Cal.below_next HB7.out HO.out.2.2)
        by_cases hlt : j < k
        · obtain ⟨g, rfl⟩ : ∃ g, gk = g + 1 := ⟨gk - 1, by omega⟩
          obtain ⟨⟨p, q⟩, hpq⟩ : ∃ r, r = S.getD j (0, 0) := ⟨_, rfl⟩
          have hd := HD.out j hlt p q hpq
          have hcs := HC.out
          have HDK := Lib.hid hd.1
          have HVP := Lib.hid hd.2.1
          obtain ⟨b7, o7, rfl, hcell7⟩ := HR7.out.open (by intro e; have := congrArg List.length e; rw [tv_len, HTL.out, List.length_nil] at this; omega)
          have hx7 := hcell7 j _ hd.2.2
          have ht0 : wr.cell? ⟨b7, o7 + j, none⟩ = some (.string (tb (prt p q))) := (HO.out.2.2.cell (p := ⟨b7, o7 + j, none⟩) (World.block_lt_of_cell? w7 _ hx7)).trans hx7
          obtain ⟨b1, o1, rfl, _, _⟩ := HC.out wr HBx.out j hlt p q hpq
          have HCC : Hid (∀ W, Below w1.heap.size w1 W → W.cell? ⟨b1, o1 + j * 2, none⟩ = some (.int .i64 p) ∧ W.cell? ⟨b1, o1 + j * 2 + 1, none⟩ = some (.int .i64 q)) := Lib.hid fun W hb => by
            obtain ⟨b', o', e, h1, h2⟩ := HC.out W hb j hlt p q hpq
            simp at e
            obtain ⟨rfl, rfl⟩ := e
            exact ⟨h1, h2⟩
          have hqe : ∀ W, (Op.equalIn 10000 30 (.agg #[.int .i64 p, .int .i64 q]) (.agg #[.int .i64 p, .int .i64 q])).run Tryd.prog W = .ok true W := fun W => by rw [eq_span]; simp
          clear hd hpq hcell7 hx7 hcs
          go_wp2_with ((with_reducible refine (HPA.out p q HVP.out _ (Cal.below_next HB1.out HBx.out)).mono ?_); rintro e w5 ⟨rfl, hb5⟩; have HO5 := Lib.hid (HO.out.below hb5); have HBy : Hid (Below w1.heap.size w1 w5) := Lib.hid (Cal.below_next HBx.out hb5); clear hb5 ht0)
          have hh := HCC.out _ (Cal.below_al HBy.out (.cells #[.int .i64 p, .int .i64 q] 30))
          obtain ⟨hh0, hh1⟩ := hh
          have hk0 : (w5.alloc (.cells #[.int .i64 p, .int .i64 q] 30)).cell? ⟨w5.heap.size, 0, none⟩ = some (.int .i64 p) := (Blk.at w5 (iv [p, q]) _ 30 _ rfl rfl).cell rfl
          have hk1 : (w5.alloc (.cells #[.int .i64 p, .int .i64 q] 30)).cell? ⟨w5.heap.size, 1, none⟩ = some (.int .i64 q) := (Blk.at w5 (iv [p, q]) _ 30 _ rfl rfl).cell rfl
          go_quiet (fail)
          go_wp2_with (first
            | (refine wpList_load_w2 (by rfl) (.tmp 12) rfl w5.heap.size rfl p q ((Blk.at w5 (iv [p, q]) _ 30 _ rfl rfl).drewN _) ?_)
            | ((with_reducible refine (HPR.out p q _ (Cal.below_next HB1.out (Cal.below_drewN (Cal.below_al HBy.out _) _))).mono ?_); rintro e w9 ⟨rfl, hb9⟩; have HO9 := Lib.hid ((HO5.out.below (Cal.below_drewN (Cal.below_a1 _ _) _)).below hb9); clear hb9 hh0 hh1 hk0 hk1)
            | (at_builtin; refine wpList_own_src rfl (.tmp 77) (.tmp 80) 52 52 rfl w7.heap.size 9 i0 _ 1 16 Tryd.underlying52 hi0 hz0 hz1 hz2 rfl _ _ _ rfl (HO9.out.own _) _ 1 [.string (tb (prt p q))] rfl (src_one Tryd.underlying52 hz1 _ _ _ rfl) hs1 hs2 (HO9.out.size _) ?_; intro v4 w4 hown4 hg4 hat4; have HO10 := Lib.hid (HO9.out.step hown4 _ hg4); clear hown4 hg4 hat4))
          go_roundg g
          case rel => exact ⟨j + 1, L ++ [prt p q], by omega, by go_num, HO10, Lib.hid (by rw [List.append_assoc, List.singleton_append, ← HDK.out]; exact HT.out)⟩
          case measure => omega
        · obtain rfl : j = k := by omega
          have hTL : TS = L := by have := HT.out; rw [List.drop_of_length_le (by rw [HTL.out]; exact Nat.le_refl _), List.append_nil] at this; exact this
          have HRT2 : Hid (Rd wr A8 (tv TS)) := Lib.hid (by rw [hTL]; exact HR8.out)
          have hcv1 := HCV.out A6 c6 wr (HR67.out.below HO.out.2.2)
          clear hTL HT HR8
          go_wp2_with (first
            | ((with_reducible refine (HOF.out _ wr rfl (Cal.below_next HB1.out HBx.out)).mono ?_); rintro e y1 ⟨rfl, hb⟩; have HY1 : Hid (Below w1.heap.size w1 y1 ∧ Rd y1 A8 (tv TS)) := Lib.hid ⟨Cal.below_next HBx.out hb, HRT2.out.below hb⟩; clear hb hcv1)
            | ((with_reducible refine (HST.out A8 c8 _ HY1.out.2).mono ?_); rintro e y2 hs9; obtain ⟨A9, c9, rfl, hrd9, hc9, hm9, hb9⟩ := bs_out hs9; clear hs9; have hcv2 := HCV.out A9 c9 y2 hrd9; have HY2 : Hid (Below w1.heap.size w1 y2) := Lib.hid (Cal.below_next HY1.out.1 hb9); clear hrd9 hb9)
            | ((with_reducible refine (HOF.out _ y2 rfl (Cal.below_next HB1.out HY2.out)).mono ?_); rintro e y3 ⟨rfl, hb⟩; have HY3 : Hid (Below w.heap.size w y3) := Lib.hid (Cal.below_next (Cal.below_next HB1.out HY2.out) hb); clear hb hcv2)
            | ((with_reducible refine (HL.out _ HY3.out).mono ?_); rintro e y4 ⟨rfl, hb⟩; have HY4 : Hid (Below w.heap.size w y4) := Lib.hid (Cal.below_next HY3.out hb); clear hb))
          go_ret
          exact ⟨rfl, HY4.out⟩
theorem walk (l : List Int) (A : Option Addr) (c : Nat) (hli : ∀ x ∈ l, inI x) (hll : l.length ≤ c) (hlm : c ≤ maxLen) (w : World) (hlr : Rd w A (iv l)) (hK : KC w ∧ KH w) :
    Calls Tryd.prog 11 #[.slice A l.length c] w fun e w' => e = .returned (.bool true) ∧ Below w.heap.size w w' := by
  obtain ⟨hKC, hKH⟩ := hK
  obtain ⟨f, hf⟩ := made_fun
  obtain ⟨S, hS⟩ : ∃ S, S = spP f 8 l := ⟨_, rfl⟩
  have hv : ∀ x ∈ S, vaB x.1 x.2 = true := fun x hx => by
    rw [hS] at hx
    obtain ⟨a, b, h1, h2, rfl⟩ := spP_mem f 8 l hli x hx
    exact (hf a b h1 h2).1
  have hlen : S.length ≤ 8 := by rw [hS]; exact spP_len f 8 l
  obtain ⟨TS, hTS⟩ : ∃ TS, TS = S.map fun x => prt x.1 x.2 := ⟨_, rfl⟩
  have hsh : ∀ x ∈ TS, x.length ≤ 21 := fun x hx => by
    rw [hTS] at hx
    obtain ⟨y, hy, rfl⟩ := List.mem_map.1 hx
    exact prt_short (hv y hy)
  have hTL : S.length = TS.length := by rw [hTS, List.length_map]
  have hE := eS_short TS hsh (by omega)
  refine walk_aux S TS (eS TS) (dig 3 [eS TS]) S.length (eS TS).length hTS rfl hlen hv hE A l.length c w
    (Lib.hid fun W hb => by have := spans_any f hf l hli 8 (by omega) A c hll hlm W (hlr.below hb); rw [← hS] at this; exact this)
    (Lib.hid fun p q W hb => print_any p q W (hKC.below hb))
    (Lib.hid fun p q h W hb => by have := parse_any (prt p q) W (hKC.below hb).1; rw [pars_prt h] at this; exact this)
    (Lib.hid fun A c W hr => fstr_any TS _ hTL _ rfl _ rfl hsh (by omega) A c W hr)
    (Lib.hid fun A c W h1 h2 hr => fget_any TS _ hTL _ rfl _ rfl hsh (by omega) A c h1 h2 W hr)
    (Lib.hid fun B W hB hb => fof_any _ hE _ rfl B W hB (hKH.below hb hKH.2))
    (Lib.hid fun A c W hr => conv_rd (l := eS TS) Tryd.underlying53 Tryd.underlying5 Tryd.underlying9 hr c)
    (eq_dig _ (dig_length _ _))
    (Lib.hid fun W hb => lives_any W (hKC.below hb))

set_option maxRecDepth 100000 in
theorem contract (H : Type) (enc : TypeId × Value → H) (W : World) (base : Nat) (args : Array Value) (ds gs : List (DataW H)) (before : List MemPlace)
    (hval : ∀ (j : Nat) t v, Tryd.f11.params[j]? = some t → args[j]? = some v → Value.okWide Tryd.prog W .any base t v)
    (hW : DataW.Whole enc Tryd.prog Tryd.f11.params.toList Rows.calendarFilesSpec.vars false W args.toList ds gs before) (hK : KC W ∧ KH W) :
    Calls Tryd.prog 11 args W fun e W' => ∃ v, e = .returned v ∧ Rows.calendarFilesSpec.post enc Tryd.prog Tryd.f11 false true false false W args v W' := by
  have hW' := hW
  obtain ⟨p, q, hA0, hV, rfl, hfz, hnd⟩ := hW
  have hA : DataW.TrodAll enc Tryd.prog W 0 (fun _ => true) true Tryd.f11.params.toList args.toList ds p := hA0
  rw [Tryd.params11] at hA hval
  obtain ⟨v0, d0, rfl, rfl, h0⟩ := trodAll_one hA
  obtain ⟨rfl, rfl⟩ := trodVars_none hV
  obtain ⟨lA, ll, lc, rfl, lr, li, ln, lm⟩ := open_ivs (hval 0 47 v0 rfl rfl) h0
  have hargs : (#[.slice lA ll.length lc] : Array Value) = #[.slice lA ll.length lc] := by rfl
  have hwalk : Calls Tryd.prog 11 #[.slice lA ll.length lc] W fun e W' => e = .returned (.bool true) ∧ Below W.heap.size W W' := by
    rw [hargs]
    exact walk ll lA lc li ln lm W lr hK
  refine hwalk.mono fun e W' ⟨he, hb⟩ => ⟨_, he, ?_⟩
  exact law_post rfl rfl (by kernel_rfl) hW' rfl hb

set_option maxRecDepth 100000 in
theorem lifted (os : Os) (started : os.Started) (H : Type) (enc : TypeId × Value → H) :
    ReturnsInHanded {} Tryd.checked os 11 .any (fun w args => (Rows.calendarFilesSpec.pre enc Tryd.prog Tryd.f11 [] false w args ∧ laidMetH Tryd.prog laid5 w) ∧ sizedMet enc Tryd.prog Tryd.f11 (OpenSpec.ofChange Rows.calendarFilesSpec) false w args)
      (Rows.calendarFilesSpec.post enc Tryd.prog Tryd.f11 false true false false) := by
  refine returnsInHanded_of_change_and (C := Tryd.checked) (X := fun w _ => laidMetH Tryd.prog laid5 w) (fun _ _ _ hh h => h.of_heap hh) Tryd.own started (by kernel_rfl) Tryd.func11
    (ChangeSpec.witness_shaped (enc := enc) (C := Tryd.checked) (os := os) (X := fun w _ => laidMetH Tryd.prog laid5 w) false (World.doorLaid Tryd.prog 400 os) #[.slice none 0 0] 8 rfl (World.shaped_of_RefB (by kernel_rfl) (by kernel_rfl)) (by kernel_rfl) (by kernel_rfl) (by kernel_rfl) (door_met5 os _)) ?_
  intro W base args ds gs before hval hW _ hsz hL _
  exact contract H enc W base args ds gs before hval hW (of_laid5 hL)

theorem row : Rows.CalendarFilesSaid :=
  OpenClaim.holds_of_wide 11 Tryd.f11 rfl rfl rfl rfl rfl rfl rfl ⟨rfl, rfl, rfl, rfl, rfl⟩ rfl rfl rfl rfl rfl (by kernel_rfl) Tryd.func11 (by kernel_rfl)
    (of_decide_eq_true (by kernel_rfl)) (by unfold Func.isWrapper; first | (rw [if_pos (by decide +kernel)]; kernel_rfl) | (rw [if_neg (by decide +kernel)]; exact ⟨rfl, rfl⟩))
    (fun os started H enc _ => lifted os started H enc)

theorem proved : Rows.CalendarFilesCardSaid :=
  Claim7.holds_tied_plain_at .later [] [.data, .data, .data, .data, .data] true (true, "520023937c31a48c793982c9874225f2c411890cd26ecc880d0bbeb410484da2") false
    row (fun _ h => by cases h) (by kernel_rfl) (fun _ h => by cases h) calendarFiles_row_tie rfl ⟨rfl, rfl⟩ (by kernel_rfl) rfl
    (fun f fn hf hfn => by
      obtain rfl : f = 11 := Option.some.inj ((show Tryd.prog.funcNamed "wordbook/wordbooklaw04.CalendarFiles" = some 11 by kernel_rfl).symm.trans hf) |>.symm
      obtain rfl : fn = Tryd.f11 := (Option.some.inj (Tryd.func11.symm.trans hfn)).symm
      exact ⟨by kernel_rfl, fun j t ht => by
        rw [Tryd.params11] at ht
        have hm : t ∈ [47] := by simpa using Array.mem_of_getElem? ht
        have hall : ([47].all fun u => !Tryd.prog.wantsStandIn u) = true := by kernel_rfl
        exact (show Tryd.prog.wantsStandIn t = false by simpa using List.all_eq_true.1 hall t hm)⟩)
    (by kernel_rfl)
end CL9
end Go.Proofs.YtkaaejfochdjcaaDoor
