/-
  The walks of wire.GetInts, GetStrings, GetDigests.
-/
import Derived.Test.YtelkekicceoaoaaWGetD
namespace Go.Proofs.Ytelkekicceoaoaa
open Go.RowKit
set_option linter.unusedVariables false

/-- What a decoder of lists leaves: the list in new memory, or nil. -/
def PostL (w : World) (t : TypeId) (size : Nat) (res : Nat × Int) (cells : List (List Value)) (e : Ending) (w' : World) : Prop :=
  ∃ v, e = .returned (.tuple #[v, .int .i64 res.1, .int .i64 res.2]) ∧ Below w.heap.size w w' ∧ (res.2 ≠ 0 → v = .slice none 0 0) ∧ (res.2 = 0 → w'.ownsRow (w.heap.size + 1) t size v cells.length cells.flatten)

theorem gLoop_err (el : List UInt8 → Nat × Int) (l : List UInt8) : ∀ n u, (gLoop el l n u).2 ≠ 0 → (gLoop el l n u).1 = 0 := by
  intro n
  induction n with
  | zero => intro u h; simp [gLoop] at h
  | succ n ih =>
    intro u h
    rw [gLoop] at h ⊢
    by_cases he : (el (l.drop u)).2 ≠ 0
    · rw [if_pos he]
    · rw [if_neg he] at h ⊢
      exact ih _ h
theorem gList_err (el : List UInt8 → Nat × Int) (l : List UInt8) (wd : Int) : (gList el l wd).2 ≠ 0 → (gList el l wd).1 = 0 := by
  intro h
  unfold gList at h ⊢
  by_cases he : (gLen l wd).2.2 ≠ 0
  · rw [if_pos he]
  · rw [if_neg he] at h ⊢
    exact gLoop_err el l _ _ h
theorem gB3_ok {l : List UInt8} (h : (gB3 l).2.2 = 0) : (gB3 l).2.1 ≤ l.length ∧ 1 ≤ (gB3 l).2.1 := by
  unfold gB3 at h ⊢
  by_cases he : (gLen l 1).2.2 ≠ 0
  · rw [if_pos he] at h; exact absurd h he
  · rw [if_neg he]
    obtain ⟨h1, h2, h3, h4⟩ := gLen_ok (by simpa using he) (by omega)
    have h5 := gI_ok h1
    rw [h4]
    simp only
    omega

theorem elI_elem (w0 : World) (top : Nat) (ht : top ≤ 1099511627776) : Elem 42 w0.heap.size (Box w0 w0.heap.size top 22 3 1) stI elI (fun _ _ => True) where
  enter := elI_enter
  le := fun _ r _ h => (gI_ok h).2.1
  next := fun _ _ _ _ => trivial
  call := fun k r A c s W _ hI hr hAB hc hm => elI_call w0 _ top ht k r A c s W hI hr hAB hc hm

set_option maxHeartbeats 400000 in
theorem getI_any (l : List UInt8) (A : Option Addr) (c : Nat) (w : World) (hl : l.length ≤ 1099511627776) (hc : l.length ≤ c) (hm : c ≤ maxLen) (hr : Rd w A (bs l)) :
    Calls Try.prog 28 #[.slice A l.length c] w (PostL w 3 1 (gList elI l 1) (sList stI elI l 1 [])) := by
  have hmf : ∀ (fn : Fn) (first cap : Array Value) (w : World), (Instr.makeFunc fn first cap).run Try.prog w = .ok (.func fn first cap) w := fun _ _ _ _ => rfl
  have hAB : l ≠ [] → ∀ b o, A = some ⟨b, o, none⟩ → b < w.heap.size := fun hne b o hA => by
    obtain ⟨b', o', hA', hcell⟩ := hr.open (by intro e; exact hne (by simpa [bs] using e))
    obtain ⟨rfl, rfl⟩ : b = b' ∧ o = o' := by rw [hA] at hA'; simpa using hA'
    obtain ⟨x, r, rfl⟩ : ∃ x r, l = x :: r := by cases l with
      | nil => exact absurd rfl hne
      | cons x r => exact ⟨x, r, rfl⟩
    exact World.block_lt_of_cell? w _ (hcell 0 _ rfl)
  have hR := Lib.hid hr; clear hr
  have hAB' := Lib.hid hAB; clear hAB
  generalize hgr : gList elI l 1 = R
  generalize hgs : sList stI elI l 1 [] = S
  have HGR := Lib.hid hgr; clear hgr
  have HGS := Lib.hid hgs; clear hgs
  go_enter Try.func28, Try.ntmps28
  go_wp2_with fail
  have hcall := getList_any 42 w.heap.size (Box w w.heap.size l.length 22 3 1) stI elI (fun _ _ => True) (elI_elem w l.length hl) l A c 1 (w.alloc (.cells #[.slice none 0 0] 22)) [] (by omega) (by omega) hc hm
    (fun k s W h => h.rd rfl hR.out) (fun k hk => Box.start rfl hk) hAB'.out (fun _ _ _ => trivial)
  rw [HGR.out, HGS.out] at hcall
  refine hcall.mono ?_
  rintro e w1 ⟨rfl, k, s, ⟨v, hB, hown, hb, hlk⟩, hfin⟩
  unfold ret2
  obtain ⟨u, er⟩ := R
  have hcell : w1.cell? ⟨w.heap.size, 0, none⟩ = some v := by rw [cell_of_row w1 _ 0 _ _ _ hB]; rfl
  have HO := Lib.hid hown; clear hown
  have HF := Lib.hid hfin; clear hfin
  clear hcall hB
  by_cases he : er = 0
  · subst he
    have hs : s = S := HF.out rfl
    subst hs
    go_wp2_with fail
    go_ret3
    exact ⟨v, rfl, hb, fun h => absurd rfl h, fun _ => HO.out⟩
  · have h0 : ((er : Int) != 0) = true := by rw [bne_iff_ne]; exact he
    have HE := Lib.hid he; clear he
    have hu : u = 0 := by
      have := gList_err elI l 1
      rw [HGR.out] at this
      exact this HE.out
    subst hu
    go_wp2_with fail
    go_ret3
    exact ⟨_, rfl, hb, fun _ => rfl, fun h => absurd h HE.out⟩

theorem elS_elem (w0 : World) (top : Nat) (ht : top ≤ 1099511627776) : Elem 43 w0.heap.size (Box w0 w0.heap.size top 23 9 1) stS elS (fun _ _ => True) where
  enter := elS_enter
  le := fun _ r _ h => (gB3_ok h).1
  next := fun _ _ _ _ => trivial
  call := fun k r A c s W _ hI hr hAB hc hm => elS_call w0 _ top ht k r A c s W hI hr hAB hc hm

set_option maxHeartbeats 400000 in
theorem getS_any (l : List UInt8) (A : Option Addr) (c : Nat) (w : World) (hl : l.length ≤ 1099511627776) (hc : l.length ≤ c) (hm : c ≤ maxLen) (hr : Rd w A (bs l)) :
    Calls Try.prog 31 #[.slice A l.length c] w (PostL w 9 1 (gList elS l 1) (sList stS elS l 1 [])) := by
  have hmf : ∀ (fn : Fn) (first cap : Array Value) (w : World), (Instr.makeFunc fn first cap).run Try.prog w = .ok (.func fn first cap) w := fun _ _ _ _ => rfl
  have hAB : l ≠ [] → ∀ b o, A = some ⟨b, o, none⟩ → b < w.heap.size := fun hne b o hA => by
    obtain ⟨b', o', hA', hcell⟩ := hr.open (by intro e; exact hne (by simpa [bs] using e))
    obtain ⟨rfl, rfl⟩ : b = b' ∧ o = o' := by rw [hA] at hA'; simpa using hA'
    obtain ⟨x, r, rfl⟩ : ∃ x r, l = x :: r := by cases l with
      | nil => exact absurd rfl hne
      | cons x r => exact ⟨x, r, rfl⟩
    exact World.block_lt_of_cell? w _ (hcell 0 _ rfl)
  have hR := Lib.hid hr; clear hr
  have hAB' := Lib.hid hAB; clear hAB
  generalize hgr : gList elS l 1 = R
  generalize hgs : sList stS elS l 1 [] = S
  have HGR := Lib.hid hgr; clear hgr
  have HGS := Lib.hid hgs; clear hgs
  go_enter Try.func31, Try.ntmps31
  go_wp2_with fail
  have hcall := getList_any 43 w.heap.size (Box w w.heap.size l.length 23 9 1) stS elS (fun _ _ => True) (elS_elem w l.length hl) l A c 1 (w.alloc (.cells #[.slice none 0 0] 23)) [] (by omega) (by omega) hc hm
    (fun k s W h => h.rd rfl hR.out) (fun k hk => Box.start rfl hk) hAB'.out (fun _ _ _ => trivial)
  rw [HGR.out, HGS.out] at hcall
  refine hcall.mono ?_
  rintro e w1 ⟨rfl, k, s, ⟨v, hB, hown, hb, hlk⟩, hfin⟩
  unfold ret2
  obtain ⟨u, er⟩ := R
  have hcell : w1.cell? ⟨w.heap.size, 0, none⟩ = some v := by rw [cell_of_row w1 _ 0 _ _ _ hB]; rfl
  have HO := Lib.hid hown; clear hown
  have HF := Lib.hid hfin; clear hfin
  clear hcall hB
  by_cases he : er = 0
  · subst he
    have hs : s = S := HF.out rfl
    subst hs
    go_wp2_with fail
    go_ret3
    exact ⟨v, rfl, hb, fun h => absurd rfl h, fun _ => HO.out⟩
  · have h0 : ((er : Int) != 0) = true := by rw [bne_iff_ne]; exact he
    have HE := Lib.hid he; clear he
    have hu : u = 0 := by
      have := gList_err elS l 1
      rw [HGR.out] at this
      exact this HE.out
    subst hu
    go_wp2_with fail
    go_ret3
    exact ⟨_, rfl, hb, fun _ => rfl, fun h => absurd h HE.out⟩

theorem elD_elem (w0 : World) (top : Nat) (ht : top ≤ 1099511627776) : Elem 44 w0.heap.size (Box w0 w0.heap.size top 24 57 16) stD elD (fun k r => 16 * k ≤ r.length) where
  enter := elD_enter
  le := fun k r h _ => by simp [elD]; omega
  next := fun k r h _ => by simp [elD]; omega
  call := fun k r A c s W hrdy hI hr hAB hc hm => elD_call w0 _ top ht k r A c s W (by omega) hI hr hAB hc hm

set_option maxHeartbeats 400000 in
theorem getD_any (l : List UInt8) (A : Option Addr) (c : Nat) (w : World) (hl : l.length ≤ 1099511627776) (hc : l.length ≤ c) (hm : c ≤ maxLen) (hr : Rd w A (bs l)) :
    Calls Try.prog 34 #[.slice A l.length c] w (PostL w 57 16 (gList elD l 16) (sList stD elD l 16 [])) := by
  have hmf : ∀ (fn : Fn) (first cap : Array Value) (w : World), (Instr.makeFunc fn first cap).run Try.prog w = .ok (.func fn first cap) w := fun _ _ _ _ => rfl
  have hAB : l ≠ [] → ∀ b o, A = some ⟨b, o, none⟩ → b < w.heap.size := fun hne b o hA => by
    obtain ⟨b', o', hA', hcell⟩ := hr.open (by intro e; exact hne (by simpa [bs] using e))
    obtain ⟨rfl, rfl⟩ : b = b' ∧ o = o' := by rw [hA] at hA'; simpa using hA'
    obtain ⟨x, r, rfl⟩ : ∃ x r, l = x :: r := by cases l with
      | nil => exact absurd rfl hne
      | cons x r => exact ⟨x, r, rfl⟩
    exact World.block_lt_of_cell? w _ (hcell 0 _ rfl)
  have hR := Lib.hid hr; clear hr
  have hAB' := Lib.hid hAB; clear hAB
  generalize hgr : gList elD l 16 = R
  generalize hgs : sList stD elD l 16 [] = S
  have HGR := Lib.hid hgr; clear hgr
  have HGS := Lib.hid hgs; clear hgs
  go_enter Try.func34, Try.ntmps34
  go_wp2_with fail
  have hcall := getList_any 44 w.heap.size (Box w w.heap.size l.length 24 57 16) stD elD (fun k r => 16 * k ≤ r.length) (elD_elem w l.length hl) l A c 16 (w.alloc (.cells #[.slice none 0 0] 24)) [] (by omega) (by omega) hc hm
    (fun k s W h => h.rd rfl hR.out) (fun k hk => Box.start rfl hk) hAB'.out (fun k u h => by simp; omega)
  rw [HGR.out, HGS.out] at hcall
  refine hcall.mono ?_
  rintro e w1 ⟨rfl, k, s, ⟨v, hB, hown, hb, hlk⟩, hfin⟩
  unfold ret2
  obtain ⟨u, er⟩ := R
  have hcell : w1.cell? ⟨w.heap.size, 0, none⟩ = some v := by rw [cell_of_row w1 _ 0 _ _ _ hB]; rfl
  have HO := Lib.hid hown; clear hown
  have HF := Lib.hid hfin; clear hfin
  clear hcall hB
  by_cases he : er = 0
  · subst he
    have hs : s = S := HF.out rfl
    subst hs
    go_wp2_with fail
    go_ret3
    exact ⟨v, rfl, hb, fun h => absurd rfl h, fun _ => HO.out⟩
  · have h0 : ((er : Int) != 0) = true := by rw [bne_iff_ne]; exact he
    have HE := Lib.hid he; clear he
    have hu : u = 0 := by
      have := gList_err elD l 16
      rw [HGR.out] at this
      exact this HE.out
    subst hu
    go_wp2_with fail
    go_ret3
    exact ⟨_, rfl, hb, fun _ => rfl, fun h => absurd h HE.out⟩

end Go.Proofs.Ytelkekicceoaoaa
