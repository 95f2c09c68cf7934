/-
  WireCanonical: for every byte sequence the law returns true, and nothing that was there has turned.
-/
import Derived.Test.YtelkekicceoaoaaWLaw
import Derived.Test.YtelkekicceoaoaaWBase2
import Derived.Test.YtelkekicceoaoaaWPure2
namespace Go.Proofs.Ytelkekicceoaoaa
open Go.ChangeShapes Go.WideShapes Go.ChangeAt Go.RowKit
set_option linter.unusedVariables false

theorem cells_ints (l : List Int) : (l.map fun n => [Value.int .i64 n]).flatten = l.map (Value.int .i64) := by
  induction l with
  | nil => rfl
  | cons a r ih => simp [ih]
theorem cells_strs (l : List (List UInt8)) : (l.map fun s => [Value.string ⟨s.toArray⟩]).flatten = (l.map fun s => (⟨s.toArray⟩ : ByteArray)).map Value.string := by
  induction l with
  | nil => rfl
  | cons a r ih => simp [ih]
theorem cells_digs (l : List (List UInt8)) : (l.map bs).flatten = bs l.flatten := by
  induction l with
  | nil => rfl
  | cons a r ih => simp [ih, bs]
theorem lists_mk (l : List (List UInt8)) : lists (l.map fun s => (⟨s.toArray⟩ : ByteArray)) = l := by
  induction l with
  | nil => rfl
  | cons a r ih => simp only [lists, List.map_cons, List.map_map] at *; rw [ih]
theorem gI_inI (l : List UInt8) : inI (gI l).1 := by
  by_cases h : (gI l).2.2 = 0
  · exact (gI_ok h).1
  · have : ∀ neg k t, (gB neg k t).2.2 ≠ 0 → (gB neg k t).1 = 0 := by
      intro neg k t h
      unfold gB at h ⊢
      by_cases h1 : 8 < k
      · rw [if_pos h1]
      · rw [if_neg h1] at h ⊢
        by_cases h2 : t.length < k
        · rw [if_pos h2]
        · rw [if_neg h2] at h ⊢
          by_cases h3 : ((t.take k).map (flip neg)).head? = some 0
          · rw [if_pos h3]
          · rw [if_neg h3] at h ⊢
            by_cases h4 : 9223372036854775808 ≤ val ((t.take k).map (flip neg))
            · rw [if_pos h4]
            · rw [if_neg h4] at h
              exact absurd rfl h
    have h0 : (gI l).1 = 0 := by
      cases l with
      | nil => rfl
      | cons c t =>
        rw [gI_cons] at h ⊢
        split
        · rename_i hc; rw [if_pos hc] at h; exact this _ _ _ h
        · rename_i hc; rw [if_neg hc] at h; exact this _ _ _ h
    rw [h0]
    unfold inI
    omega

theorem gB3_len (l : List UInt8) : (gB3 l).1.length ≤ l.length := by
  unfold gB3
  split
  · simp
  · simp; omega
theorem flatMap_self (l : List (List UInt8)) : (l.flatMap fun d => d) = l.flatten := by
  induction l with
  | nil => rfl
  | cons a r ih => simp [ih]
theorem eLs_digs (l : List (List UInt8)) : eD l = eLs (fun d => d) l := by unfold eD eLs; rw [flatMap_self]
theorem eLs_strs (l : List (List UInt8)) : eS (lists (l.map fun s => (⟨s.toArray⟩ : ByteArray))) = eLs eB l := by rw [lists_mk]; rfl
theorem flatten_le (l : List (List UInt8)) : l.flatten.length ≤ (l.flatMap eB).length := by
  induction l with
  | nil => simp
  | cons a r ih => simp only [List.flatten_cons, List.flatMap_cons, List.length_append, eB] at *; omega

/-- What a decoder of lists leaves, with an error or without: a list that reads, and, without one, encodes to what was consumed. -/
theorem postL_can {α : Type} {wd : Nat} {enc : α → List UInt8} {vals : α → List Value} {valid : α → Prop} {el : List UInt8 → Nat × Int} {step : List (List Value) → List UInt8 → List (List Value)} (C : Codec wd enc vals valid el step) (hw : 1 ≤ wd) (hfix : wd ≠ 1 → ∀ a, valid a → (enc a).length = wd)
    {w w' : World} {t : TypeId} {size : Nat} {l : List UInt8} {e : Ending} (h : PostL w t size (gList el l wd) (sList step el l wd []) e w') :
    ∃ (A : Option Addr) (c : Nat) (L : List α) (u : Nat) (er : Int), e = .returned (.tuple #[.slice A L.length c, .int .i64 u, .int .i64 er]) ∧ (Rd w' A (L.map vals).flatten ∧ (∀ a ∈ L, valid a) ∧ L.length ≤ l.length ∧ (L.flatMap enc).length ≤ l.length ∧ L.length ≤ c ∧ c ≤ maxLen ∧ (er = 0 → u ≤ l.length ∧ l.take u = eLs enc L)) ∧ Below w.heap.size w w' := by
  obtain ⟨v, he, hb, hne, hok⟩ := h
  by_cases h0 : (gList el l wd).2 = 0
  · obtain ⟨L, h1, h2, h3, h4, h5⟩ := gList_inv C hw hfix l h0
    obtain ⟨A, c, rfl, hrd, hc, hm⟩ := Rd.of_own (hok h0)
    rw [h4] at he hrd hc
    rw [List.length_map] at he hc
    refine ⟨A, c, L, _, _, he, ⟨hrd, h1, h5, ?_, hc, hm, fun _ => ⟨h2, h3⟩⟩, hb⟩
    have := congrArg List.length h3
    rw [List.length_take, eLs, List.length_append] at this
    omega
  · have := hne h0
    subst this
    exact ⟨none, 0, [], _, _, he, ⟨.inl rfl, by simp, Nat.zero_le _, Nat.zero_le _, Nat.le_refl _, Nat.zero_le _, fun h => absurd h h0⟩, hb⟩

namespace L7

set_option maxHeartbeats 400000 in
theorem is_any (E : List UInt8) (A1 : Option Addr) (c1 u : Nat) (er : Int) (B : Nat) (l : List UInt8) (A : Option Addr) (c : Nat) (w : World) (hB : w.cell? ⟨B, 0, none⟩ = some (.slice A l.length c)) (hr : Rd w A (bs l)) (hc : l.length ≤ c) (hl : l.length ≤ 2000) (hE : Rd w A1 (bs E)) (hu : er = 0 → u ≤ l.length ∧ l.take u = E) :
    Calls Try.prog 37 #[.slice A1 E.length c1, .int .i64 u, .int .i64 er, .pointer (some ⟨B, 0, none⟩)] w fun e w' => e = .returned (.bool true) ∧ ∃ m, w' = w.drewN m := by
  have HR := Lib.hid hr; clear hr
  have HE := Lib.hid hE; clear hE
  by_cases he : er = 0
  · obtain ⟨hu1, hu2⟩ := hu he
    subst he
    clear hu
    have hlen : E.length = u := by rw [← hu2]; simp; omega
    have HT := Lib.hid hu2
    have hsame := fun w' (h1 : Rd w' A1 (bs E)) (h2 : Rd w' A (bs E)) c2 => same_rd E A1 A c1 c2 w' (by unfold maxLen; omega) h1 h2
    rw [hlen] at hsame ⊢
    have hA2 : Rd w A (bs E) := by
      rcases HR.out with h | ⟨b, o, e, hcell⟩
      · refine .inl ?_
        have hnil : l = [] := by simpa [bs] using h
        rw [← hu2, hnil, List.take_nil]; rfl
      · refine .inr ⟨b, o, e, fun k v hv => hcell k v ?_⟩
        rw [← hu2, ← bs_take, List.getElem?_take] at hv
        split at hv
        · exact hv
        · cases hv
    have HA2 := Lib.hid hA2
    have HS := Lib.hid hsame
    clear hlen hu2 hsame hA2
    have h0 : decide ((0 : Int) ≤ (u : Int)) = true := by simp
    have h1 : decide ((u : Int) ≤ (l.length : Int)) = true := by simpa using hu1
    have hmin : min (u : Int) (l.length : Int) = (u : Int) := by omega
    have hmax : max (0 : Int) (u : Int) = (u : Int) := by omega
    go_enter Try.func37, Try.ntmps37
    go_wp2_with fail
    · refine (HS.out w HE.out HA2.out c).mono ?_
      rintro e w1 ⟨rfl, m, rfl⟩
      go_wp2_with fail
      go_ret
      exact ⟨rfl, m, rfl⟩
    · obtain rfl : u = 0 := by omega
      refine (HS.out w HE.out HA2.out c).mono ?_
      rintro e w1 ⟨rfl, m, rfl⟩
      go_wp2_with fail
      go_ret
      exact ⟨rfl, m, rfl⟩
  · have h0 : ((er : Int) != 0) = true := by rw [bne_iff_ne]; exact he
    have HX := Lib.hid he
    clear he hu
    go_enter Try.func37, Try.ntmps37
    go_wp2_with fail
    go_ret
    exact ⟨rfl, 0, rfl⟩


theorem stay {w w' : World} {B : Nat} {v : Value} (hB : w.cell? ⟨B, 0, none⟩ = some v) (hb : Below w.heap.size w w') : w'.cell? ⟨B, 0, none⟩ = some v := (hb.cell (p := ⟨B, 0, none⟩) (World.block_lt_of_cell? w _ hB)).trans hB

set_option maxHeartbeats 800000 in
theorem walk (A : Option Addr) (l : List UInt8) (c : Nat) (w : World) (hr : Rd w A (bs l)) (hc : l.length ≤ c) (hm : c ≤ maxLen) :
    Calls Try.prog 7 #[.slice A l.length c] w (San w) := by
  have hl63 : l.length ≤ 9223372036854775807 := by unfold maxLen at hm; omega
  obtain ⟨W, hW⟩ : ∃ W, W = w.alloc (.cells #[.slice A l.length c] 28) := ⟨_, rfl⟩
  have hcell : W.cell? ⟨w.heap.size, 0, none⟩ = some (.slice A l.length c) := by rw [hW, cell_of_row _ w.heap.size 0 _ _ _ (heap_alloc_new w _)]; rfl
  have HB := Lib.hid hcell
  have HR := Lib.hid (show Rd W A (bs l) by rw [hW]; exact hr.alloc _)
  have hbW : Below w.heap.size w W := by rw [hW]; exact below_a1 _ _
  have HM := Lib.hid hm; clear hm hcell hr
  have hmf : ∀ (fn : Fn) (first cap : Array Value) (w : World), (Instr.makeFunc fn first cap).run Try.prog w = .ok (.func fn first cap) w := fun _ _ _ _ => rfl
  go_enter Try.func7, Try.ntmps7
  by_cases hbig : 2000 < l.length
  · go_wp2_with fail
    refine (sanity_any _).mono ?_
    rintro e w1 ⟨rfl, hb⟩
    go_wp2_with fail
    go_ret
    exact ⟨rfl, below_new hb⟩
  · have hlen : l.length ≤ 2000 := by omega
    go_wp2_with fail
    rw [← hW]
    clear hW
    refine (getInt_any l A c W hc HM.out HR.out).mono ?_
    rintro e w1 ⟨rfl, rfl⟩
    unfold ret3
    have hinI := Lib.hid (gI_inI l)
    have hgI : Hid ((gI l).2.2 = 0 → (gI l).2.1 ≤ l.length ∧ l.take (gI l).2.1 = en (gI l).1) := fun h => ⟨(gI_ok h).2.1, (gI_ok h).2.2.2.2⟩
    generalize gI l = r at hinI hgI
    obtain ⟨n, u1, e1⟩ := r
    have hcW := HB.out
    go_wp2_with fail
    refine (getBytes_any l A c W hc HM.out HR.out).mono ?_
    rintro e w1 ⟨rfl, rfl⟩
    unfold retS
    have hgB : Hid ((gB3 l).2.2 = 0 → (gB3 l).2.1 ≤ l.length ∧ l.take (gB3 l).2.1 = eB (gB3 l).1) := fun h => ⟨(gB3_inv h).1, (gB3_inv h).2.2.1⟩
    have hgBl : (gB3 l).1.length ≤ l.length := gB3_len l
    generalize gB3 l = r at hgB hgBl
    obtain ⟨s, u2, e2⟩ := r
    simp only at hgBl
    go_wp2_with fail
    refine (getI_any l A c W (by omega) hc HM.out HR.out).mono ?_
    rintro e w1 hp
    obtain ⟨A3, c3, L3, u3, e3, rfl, H3, hb1⟩ := postL_can codecI (by omega) (by omega) hp
    clear hp
    have hB1 := stay HB.out hb1
    have HB1 := Lib.hid hB1
    have HR1 := Lib.hid (HR.out.below hb1)
    have hb1' := below_next hbW hb1
    have HH3 := Lib.hid H3
    clear H3
    go_wp2_with fail
    refine (getS_any l A c w1 (by omega) hc HM.out HR1.out).mono ?_
    rintro e w2 hp
    obtain ⟨A4, c4, L4, u4, e4, rfl, H4, hb2⟩ := postL_can codecS (by omega) (by omega) hp
    clear hp
    have hB2 := stay HB1.out hb2
    have HB2 := Lib.hid hB2
    have HR2 := Lib.hid (HR1.out.below hb2)
    have hb2' := below_next hb1' hb2
    have HH4 := Lib.hid H4
    have HD3 := Lib.hid (HH3.out.1.below hb2)
    clear H4
    go_wp2_with fail
    refine (getD_any l A c w2 (by omega) hc HM.out HR2.out).mono ?_
    rintro e w3 hp
    obtain ⟨A5, c5, L5, u5, e5, rfl, H5, hb3⟩ := postL_can codecD (by omega) (fun _ a h => h) hp
    clear hp
    have hB3 := stay HB2.out hb3
    have HR3 := Lib.hid (HR2.out.below hb3)
    have hb3' := below_next hb2' hb3
    have HH5 := Lib.hid H5
    have HD3' := Lib.hid (HD3.out.below hb3)
    have HD4 := Lib.hid (HH4.out.1.below hb3)
    have HB3 := Lib.hid hB3
    clear H5 hB1 hB2 hB3 hcW HB1 HB2 HR1 HR2 HD3 hb1 hb2 hb3 hb1' hb2'
    have HD5 := Lib.hid HH5.out.1
    have ht3 := hb3'
    clear hb3'
    go_wp2_with fail
    refine (sanity_any w3).mono ?_
    rintro e w4 ⟨rfl, hb4⟩
    have HB3 := Lib.hid (stay HB3.out hb4)
    have HR3 := Lib.hid (HR3.out.below hb4)
    have HD3' := Lib.hid (HD3'.out.below hb4)
    have HD4 := Lib.hid (HD4.out.below hb4)
    have HD5 := Lib.hid (HD5.out.below hb4)
    have ht4 := below_next ht3 hb4
    clear hb4 ht3
    go_wp2_with fail
    refine (st_own (w := w4) (int_any n hinI.out w4) (en n) rfl (Below.refl _ _)).mono ?_
    rintro e w5 ⟨B5, d5, rfl, he5, hb5⟩
    have HE5 := Lib.hid he5.1
    clear he5
    have HB3 := Lib.hid (stay HB3.out hb5)
    have HR3 := Lib.hid (HR3.out.below hb5)
    have HD3' := Lib.hid (HD3'.out.below hb5)
    have HD4 := Lib.hid (HD4.out.below hb5)
    have HD5 := Lib.hid (HD5.out.below hb5)
    have ht5 := below_next ht4 hb5
    clear hb5 ht4
    go_wp2_with fail
    refine (is_any (en n) B5 d5 u1 e1 w.heap.size l A c w5 HB3.out HR3.out hc hlen HE5.out (hgI.out)).mono ?_
    rintro e w6 ⟨rfl, m6, hm6⟩
    have hb6 : Below w5.heap.size w5 w6 := by rw [hm6]; exact below_drewN (Below.refl _ _) _
    clear hm6
    have HB3 := Lib.hid (stay HB3.out hb6)
    have HR3 := Lib.hid (HR3.out.below hb6)
    have HD3' := Lib.hid (HD3'.out.below hb6)
    have HD4 := Lib.hid (HD4.out.below hb6)
    have HD5 := Lib.hid (HD5.out.below hb6)
    have ht6 := below_next ht5 hb6
    clear hb6 ht5
    go_wp2_with fail
    refine (st_own (w := w6) (bytes_any ⟨s.toArray⟩ w6 (by show s.length ≤ _; omega)) (eB s) rfl (Below.refl _ _)).mono ?_
    rintro e w7 ⟨B7, d7, rfl, he7, hb7⟩
    have HE7 := Lib.hid he7.1
    clear he7
    have HB3 := Lib.hid (stay HB3.out hb7)
    have HR3 := Lib.hid (HR3.out.below hb7)
    have HD3' := Lib.hid (HD3'.out.below hb7)
    have HD4 := Lib.hid (HD4.out.below hb7)
    have HD5 := Lib.hid (HD5.out.below hb7)
    have ht7 := below_next ht6 hb7
    clear hb7 ht6
    go_wp2_with fail
    refine (is_any (eB s) B7 d7 u2 e2 w.heap.size l A c w7 HB3.out HR3.out hc hlen HE7.out (hgB.out)).mono ?_
    rintro e w8 ⟨rfl, m8, hm8⟩
    have hb8 : Below w7.heap.size w7 w8 := by rw [hm8]; exact below_drewN (Below.refl _ _) _
    clear hm8
    have HB3 := Lib.hid (stay HB3.out hb8)
    have HR3 := Lib.hid (HR3.out.below hb8)
    have HD3' := Lib.hid (HD3'.out.below hb8)
    have HD4 := Lib.hid (HD4.out.below hb8)
    have HD5 := Lib.hid (HD5.out.below hb8)
    have ht8 := below_next ht7 hb8
    clear hb8 ht7
    go_wp2_with fail
    refine (st_own (w := w8) (ints_any L3 A3 c3 w8 (by have := HH3.out.2.2.1; omega) HH3.out.2.1 (by have := HD3'.out; rwa [cells_ints] at this)) (eLs en L3) rfl (Below.refl _ _)).mono ?_
    rintro e w9 ⟨B9, d9, rfl, he9, hb9⟩
    have HE9 := Lib.hid he9.1
    clear he9
    have HB3 := Lib.hid (stay HB3.out hb9)
    have HR3 := Lib.hid (HR3.out.below hb9)
    have HD3' := Lib.hid (HD3'.out.below hb9)
    have HD4 := Lib.hid (HD4.out.below hb9)
    have HD5 := Lib.hid (HD5.out.below hb9)
    have ht9 := below_next ht8 hb9
    clear hb9 ht8
    go_wp2_with fail
    refine (is_any (eLs en L3) B9 d9 u3 e3 w.heap.size l A c w9 HB3.out HR3.out hc hlen HE9.out (HH3.out.2.2.2.2.2.2)).mono ?_
    rintro e w10 ⟨rfl, m10, hm10⟩
    have hb10 : Below w9.heap.size w9 w10 := by rw [hm10]; exact below_drewN (Below.refl _ _) _
    clear hm10
    have HB3 := Lib.hid (stay HB3.out hb10)
    have HR3 := Lib.hid (HR3.out.below hb10)
    have HD3' := Lib.hid (HD3'.out.below hb10)
    have HD4 := Lib.hid (HD4.out.below hb10)
    have HD5 := Lib.hid (HD5.out.below hb10)
    have ht10 := below_next ht9 hb10
    clear hb10 ht9
    go_wp2_with fail
    have hstr := strings_any (L4.map fun s => (⟨s.toArray⟩ : ByteArray)) A4 c4 w10 (by rw [List.length_map]; have := HH4.out.2.2.1; omega) (by rw [lists_mk]; have := HH4.out.2.2.2.1; have := flatten_le L4; omega) (by have := HD4.out; rwa [cells_strs] at this)
    rw [List.length_map] at hstr
    refine (st_own (w := w10) (hstr) (eLs eB L4) (eLs_strs L4) (Below.refl _ _)).mono ?_
    rintro e w11 ⟨B11, d11, rfl, he11, hb11⟩
    have HE11 := Lib.hid he11.1
    clear he11
    have HB3 := Lib.hid (stay HB3.out hb11)
    have HR3 := Lib.hid (HR3.out.below hb11)
    have HD3' := Lib.hid (HD3'.out.below hb11)
    have HD4 := Lib.hid (HD4.out.below hb11)
    have HD5 := Lib.hid (HD5.out.below hb11)
    have ht11 := below_next ht10 hb11
    clear hb11 ht10
    clear hstr
    go_wp2_with fail
    refine (is_any (eLs eB L4) B11 d11 u4 e4 w.heap.size l A c w11 HB3.out HR3.out hc hlen HE11.out (HH4.out.2.2.2.2.2.2)).mono ?_
    rintro e w12 ⟨rfl, m12, hm12⟩
    have hb12 : Below w11.heap.size w11 w12 := by rw [hm12]; exact below_drewN (Below.refl _ _) _
    clear hm12
    have HB3 := Lib.hid (stay HB3.out hb12)
    have HR3 := Lib.hid (HR3.out.below hb12)
    have HD3' := Lib.hid (HD3'.out.below hb12)
    have HD4 := Lib.hid (HD4.out.below hb12)
    have HD5 := Lib.hid (HD5.out.below hb12)
    have ht12 := below_next ht11 hb12
    clear hb12 ht11
    go_wp2_with fail
    refine (st_own (w := w12) (digests_any L5 A5 c5 w12 (by have := HH5.out.2.2.1; omega) HH5.out.2.1 (by have := HD5.out; rwa [cells_digs] at this)) (eLs (fun d => d) L5) (eLs_digs L5) (Below.refl _ _)).mono ?_
    rintro e w13 ⟨B13, d13, rfl, he13, hb13⟩
    have HE13 := Lib.hid he13.1
    clear he13
    have HB3 := Lib.hid (stay HB3.out hb13)
    have HR3 := Lib.hid (HR3.out.below hb13)
    have HD3' := Lib.hid (HD3'.out.below hb13)
    have HD4 := Lib.hid (HD4.out.below hb13)
    have HD5 := Lib.hid (HD5.out.below hb13)
    have ht13 := below_next ht12 hb13
    clear hb13 ht12
    go_wp2_with fail
    refine (is_any (eLs (fun d => d) L5) B13 d13 u5 e5 w.heap.size l A c w13 HB3.out HR3.out hc hlen HE13.out (HH5.out.2.2.2.2.2.2)).mono ?_
    rintro e w14 ⟨rfl, m14, hm14⟩
    have hb14 : Below w13.heap.size w13 w14 := by rw [hm14]; exact below_drewN (Below.refl _ _) _
    clear hm14
    have HB3 := Lib.hid (stay HB3.out hb14)
    have HR3 := Lib.hid (HR3.out.below hb14)
    have HD3' := Lib.hid (HD3'.out.below hb14)
    have HD4 := Lib.hid (HD4.out.below hb14)
    have HD5 := Lib.hid (HD5.out.below hb14)
    have ht14 := below_next ht13 hb14
    clear hb14 ht13
    go_wp2_with fail
    go_ret
    exact ⟨rfl, ht14⟩

theorem contract (H : Type) (enc : TypeId × Value → H) (W : World) (base : Nat) (args : Array Value) (ds gs : List (DataW H)) (before : List MemPlace)
    (hval : ∀ (j : Nat) t v, Try.f7.params[j]? = some t → args[j]? = some v → Value.okWide Try.prog W .any base t v)
    (hW : DataW.Whole enc Try.prog Try.f7.params.toList Rows.wireCanonicalSpec.vars false W args.toList ds gs before) :
    Calls Try.prog 7 args W fun e W' => ∃ v, e = .returned v ∧ Rows.wireCanonicalSpec.post enc Try.prog Try.f7 false true false false W args v W' := by
  have hW' := hW
  obtain ⟨p, q, hA0, hV, rfl, hfz, hnd⟩ := hW
  have hA : DataW.TrodAll enc Try.prog W 0 (fun _ => true) true Try.f7.params.toList args.toList ds p := hA0
  rw [Try.params7] at hA hval
  obtain ⟨v0, vs0, d0, ds0, p0, q0, hargs, rfl, rfl, h0, r0⟩ := trodAll_cons hA
  obtain ⟨rfl, rfl, rfl⟩ := trodAll_nil r0
  obtain rfl : args = #[v0] := by cases args; simp_all
  obtain ⟨rfl, rfl⟩ := trodVars_none hV
  obtain ⟨A, l, c, rfl, hr, hc, hm, hA⟩ := open_rd (hval 0 28 v0 rfl rfl) h0
  refine (walk A l c W hr hc hm).mono fun e W' ⟨he, hb⟩ => ⟨_, he, ?_⟩
  exact law_post rfl rfl (by kernel_rfl) hW' rfl hb

set_option maxRecDepth 100000 in
theorem lifted (os : Os) (started : os.Started) (H : Type) (enc : TypeId × Value → H) :
    ReturnsInHanded {} Try.checked os 7 .any (Rows.wireCanonicalSpec.pre6 enc Try.prog Try.f7 Rows.wireCanonicalRow.domain false) (Rows.wireCanonicalSpec.post enc Try.prog Try.f7 false true false false) := by
  refine returnsInHanded_of_change (C := Try.checked) Try.own started (by kernel_rfl) Try.func7
    (ChangeSpec.witness6 (enc := enc) (C := Try.checked) false ⟨#[], #[.slice none 0 0], []⟩ 8 (by kernel_rfl) (by kernel_rfl) (by kernel_rfl) (by kernel_rfl)) ?_
  intro W base args ds gs before hval hW _ _
  exact contract H enc W base args ds gs before hval hW

theorem proved : Rows.WireCanonicalSaid :=
  OpenClaim.holds_of_wide 7 Try.f7 rfl rfl rfl rfl rfl rfl rfl ⟨rfl, rfl, rfl, rfl, rfl⟩ rfl rfl rfl rfl rfl (by kernel_rfl) Try.func7 (by kernel_rfl)
    (of_decide_eq_true (by kernel_rfl)) (by unfold Func.isWrapper; first | (rw [if_pos (by decide +kernel)]; kernel_rfl) | (rw [if_neg (by decide +kernel)]; exact ⟨rfl, rfl⟩))
    (fun os started H enc _ => lifted os started H enc)

end L7
end Go.Proofs.Ytelkekicceoaoaa
