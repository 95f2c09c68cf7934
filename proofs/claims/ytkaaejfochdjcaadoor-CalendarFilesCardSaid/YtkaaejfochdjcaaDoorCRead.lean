/-
  calendar.readDate and its closure, which reads some digits.
-/
import Derived.Test.YtkaaejfochdjcaaDoorCBtw
import Derived.Deep.LoopGhost
namespace Go.Proofs.YtkaaejfochdjcaaDoor
open Go.RowKit
open Cal
set_option linter.unusedVariables false
set_option linter.unusedSimpArgs false

/-- One cell into a block. -/
theorem wpList_store_one {P : Program} {w : World} {ops : Array Oper} {rest : List Oper} {o : Oper} {a : Act} {Q : Exit → Act → World → Prop} (hgd : o.guard = none) (ty : TypeId) (x y : Operand) (ho : o.op = .store ty x y)
    (g j : Nat) (hx : a.eval x = .pointer (some ⟨g, j, none⟩)) (u : Value) (hy : a.eval y = u) (hu : u.cells = #[u]) (hone : u.oneCell' = true) {C : List Value} {T : TypeId} (hb : Blk w g C T) (hj : j < C.length) (hi : (P.info? ty).map (·.size) = some 1)
    (h : ∀ w1, Stored w w1 g (C.set j u) T → wpList P ops Q rest (a.put o.dst undef) w1) : wpList P ops Q (o :: rest) a w := by
  refine wpList_plain hgd fun _ hK => ?_
  have hst := run_storeCells_cells (P := P) g j [u] 0 w (fun i hi => by have h0 : i = 0 := by simpa using hi
                                                                        subst h0; exact (hb.there j 1 (by omega) 0 (by omega)).1) (fun i hi => by have h0 : i = 0 := by simpa using hi
                                                                                                                                                  subst h0; exact (hb.there j 1 (by omega) 0 (by omega)).2) (fun v hv => by have hv' : v = u := by simpa using hv
                                                                                                                                                                                                                            subst hv'; exact hone)
  have hrun : (Instr.storeAt ty (.pointer (some ⟨g, j, none⟩)) u).run P w = .ok () (w.setCell ⟨g, j, none⟩ u) := by
    cases hq : P.info? ty with
    | none => simp [hq] at hi
    | some i =>
      have hi' : i.size = 1 := by simpa [hq] using hi
      have hst' : (storeCells ⟨g, j, none⟩ [u] 0).run P w = .ok () (w.setCell ⟨g, j, none⟩ u) := hst
      simp [Instr.storeAt, Instr.sureAddr, storeVar, sizeOf, typeInfo, hq, hi', hu, hst']
  unfold Oper.wp execOp
  simp only [ho, hx, hy, Sem.run_bind, Sem.run_pure, Result.andThen_ok, hrun]
  exact hK _ _ (h _ (Stored.of_setCell hb j _))
theorem Tryd.sizeStr : (Tryd.prog.info? 9).map (·.size) = some 1 := by kernel_rfl
theorem Tryd.sizeBool : (Tryd.prog.info? 4).map (·.size) = some 1 := by kernel_rfl

/-- From w to w' only the blocks T and O have been written. -/
def Two (w w' : World) (T O : Nat) : Prop := (∀ k, k ≠ T → k ≠ O → w'.heap[k]? = w.heap[k]?) ∧ w'.heap.size = w.heap.size ∧ w'.os = w.os ∧ w'.tape = w.tape ∧ w'.output = w.output
theorem Two.refl (w : World) (T O : Nat) : Two w w T O := ⟨fun _ _ _ => rfl, rfl, rfl, rfl, rfl⟩
theorem Two.size {w w' : World} {T O : Nat} (h : Two w w' T O) : w'.heap.size = w.heap.size := h.2.1
theorem Two.one {w w' w1 : World} {T O : Nat} {D : List Value} {t : TypeId} (h : Two w w' T O) (hs : Stored w' w1 T D t) : Two w w1 T O :=
  ⟨fun k h1 h2 => (hs.2.1 k h1).trans (h.1 k h1 h2), hs.2.2.1.trans h.2.1, hs.2.2.2.1.trans h.2.2.1, hs.2.2.2.2.1.trans h.2.2.2.1, hs.2.2.2.2.2.trans h.2.2.2.2⟩
theorem Two.other {w w' w1 : World} {T O : Nat} {D : List Value} {t : TypeId} (h : Two w w' T O) (hs : Stored w' w1 O D t) : Two w w1 T O :=
  ⟨fun k h1 h2 => (hs.2.1 k h2).trans (h.1 k h1 h2), hs.2.2.1.trans h.2.1, hs.2.2.2.1.trans h.2.2.1, hs.2.2.2.2.1.trans h.2.2.2.1, hs.2.2.2.2.2.trans h.2.2.2.2⟩
theorem Two.below {w0 w w' : World} {T O n : Nat} (h : Two w w' T O) (hb : Below n w0 w) (h1 : n ≤ T) (h2 : n ≤ O) : Below n w0 w' :=
  ⟨h.2.2.1.trans hb.os, h.2.2.2.1.trans hb.tape, h.2.2.2.2.trans hb.output, by rw [h.2.1]; exact hb.size, fun k hk => (h.1 k (by omega) (by omega)).trans (hb.block k hk)⟩
theorem Two.blk {w w' : World} {T O g : Nat} {C : List Value} {t : TypeId} (h : Two w w' T O) (hb : Blk w g C t) (h1 : g ≠ T) (h2 : g ≠ O) : Blk w' g C t := (h.1 g h1 h2).trans hb

theorem tb_get (c : UInt8) (t : List UInt8) (h : 0 < (tb (c :: t)).size) : (tb (c :: t))[0] = c := rfl
theorem tb_cut (c : UInt8) (t : List UInt8) : (tb (c :: t)).extract 1 (t.length + 1) = tb t := by
  apply ByteArray.ext
  apply Array.ext'
  simp [tb, ByteArray.data_extract]
def PartPost (w : World) (T O : Nat) (b0 : Bool) (R : Option (Int × List UInt8)) (e : Ending) (w' : World) : Prop :=
  ∃ (n : Int) (r : List UInt8) (b : Bool), e = .returned (.int .i64 n) ∧ Blk w' T [.string (tb r)] 9 ∧ Blk w' O [.bool b] 4 ∧ Two w w' T O ∧ (R = some (n, r) ∧ b = b0 ∨ R = none ∧ b = false)
set_option maxHeartbeats 1000000 in
theorem part_any (K : Nat) (hK : K ≤ 4) (l : List UInt8) (T O : Nat) (hne : T ≠ O) (b0 : Bool) (w : World) (hT : Blk w T [.string (tb l)] 9) (hO : Blk w O [.bool b0] 4) :
    Calls Tryd.prog 66 #[.int .i64 K, .pointer (some ⟨T, 0, none⟩), .pointer (some ⟨O, 0, none⟩)] w (PartPost w T O b0 (nk K 0 l)) := by
  obtain ⟨R, hR⟩ : ∃ R, R = nk K 0 l := ⟨_, rfl⟩
  rw [← hR]
  have HT := Lib.hid hT
  have HO := Lib.hid hO
  have HR := Lib.hid hR
  clear hT hO hR
  go_enter Tryd.func66, Tryd.ntmps66
  go_wp2_with fail
  go_loopg [5, 7] K (fun g s5 s7 wr => ∃ (j : Nat) (n : Int) (r : List UInt8), j + g = K ∧ s7 = .int .i64 j ∧ s5 = .int .i64 n ∧ 0 ≤ n ∧ n < 10 ^ j ∧ Hid (R = nk g n r) ∧ Blk wr T [.string (tb r)] 9 ∧ Blk wr O [.bool b0] 4 ∧ Two w wr T O)
  case atStart => exact ⟨0, 0, l, by omega, rfl, rfl, by omega, by decide, HR, HT.out, HO.out, Two.refl _ _ _⟩
  case round =>
    obtain ⟨j, n, r, hj, rfl, rfl, hn0, hn1, HQ, hbT, hbO, hTw⟩ := hrel
    have HB := Lib.hid (And.intro hbT (And.intro hbO hTw))
    clear hbT hbO hTw
    by_cases hlt : j < K
    · obtain ⟨g, rfl⟩ : ∃ g, gk = g + 1 := ⟨gk - 1, by omega⟩
      cases r with
      | nil =>
        have hcell : wr.cell? ⟨T, 0, none⟩ = some (.string (tb [])) := HB.out.1.cell rfl
        have hte : (tb []).toList = [] := tb_toList _
        go_wp2_with (refine wpList_store_one rfl 4 (.tmp 2) (.const (.bool false)) rfl O 0 rfl (.bool false) rfl rfl rfl HB.out.2.1 (by simp) Tryd.sizeBool ?_; intro w1 hst1; have HX1 := Lib.hid hst1; clear hst1)
        go_ret
        exact ⟨0, [], false, rfl, HX1.out.other HB.out.1 hne, HX1.out.1, HB.out.2.2.other HX1.out, .inr ⟨by rw [HQ.out, nk], rfl⟩⟩
      | cons c t =>
        have hcell : wr.cell? ⟨T, 0, none⟩ = some (.string (tb (c :: t))) := HB.out.1.cell rfl
        have hsz : (tb (c :: t)).size = t.length + 1 := by rw [tb_size]; rfl
        have hg0 := tb_get c t (by rw [tb_size]; simp)
        have hcut := tb_cut c t
        have hte : (tb (c :: t)).toList = c :: t := tb_toList _
        have hn9 : n ≤ 999 := by
          have hj3 : j ≤ 3 := by omega
          have : (10 : Int) ^ j ≤ 10 ^ 3 := by
            have := Nat.pow_le_pow_right (n := 10) (by omega) hj3
            exact_mod_cast this
          omega
        have hpow : (10 : Int) ^ (j + 1) = 10 * 10 ^ j := by rw [Int.pow_succ]; omega
        have HPOW := Lib.hid hpow
        have HN1 := Lib.hid hn1
        clear hpow hn1
        by_cases h1 : 48 ≤ c.toNat
        · by_cases h2 : c.toNat ≤ 57
          · have HD : Hid (isD c = true) := Lib.hid ((isD_iff c).2 ⟨h1, h2⟩)
            go_wp2_with (refine wpList_store_one rfl 9 (.tmp 1) (.tmp 29) rfl T 0 rfl (.string (tb t)) rfl rfl rfl HB.out.1 (by simp) Tryd.sizeStr ?_; intro w1 hst1; have HX1 : Hid (Blk w1 T [.string (tb t)] 9 ∧ Blk w1 O [.bool b0] 4 ∧ Two w w1 T O) := Lib.hid ⟨hst1.1, hst1.other HB.out.2.1 (Ne.symm hne), HB.out.2.2.one hst1⟩; clear hst1)
            go_roundg g
            case rel => exact ⟨j + 1, 10 * n + (c.toNat - 48), t, by omega, by go_num, rfl, by omega, by rw [HPOW.out]; have := HN1.out; omega, Lib.hid (by rw [HQ.out, nk, if_pos HD.out]), HX1.out⟩
            case measure => omega
          · have HD : Hid (isD c = false) := Lib.hid (by have := isD_iff c; cases e : isD c; rfl; exact absurd ((this.1 e).2) h2)
            go_wp2_with (refine wpList_store_one rfl 4 (.tmp 2) (.const (.bool false)) rfl O 0 rfl (.bool false) rfl rfl rfl HB.out.2.1 (by simp) Tryd.sizeBool ?_; intro w1 hst1; have HX1 := Lib.hid hst1; clear hst1)
            go_ret
            exact ⟨0, c :: t, false, rfl, HX1.out.other HB.out.1 hne, HX1.out.1, HB.out.2.2.other HX1.out, .inr ⟨by rw [HQ.out, nk, if_neg (by rw [HD.out]; decide)], rfl⟩⟩
        · have HD : Hid (isD c = false) := Lib.hid (by have := isD_iff c; cases e : isD c; rfl; exact absurd ((this.1 e).1) h1)
          go_wp2_with (refine wpList_store_one rfl 4 (.tmp 2) (.const (.bool false)) rfl O 0 rfl (.bool false) rfl rfl rfl HB.out.2.1 (by simp) Tryd.sizeBool ?_; intro w1 hst1; have HX1 := Lib.hid hst1; clear hst1)
          go_ret
          exact ⟨0, c :: t, false, rfl, HX1.out.other HB.out.1 hne, HX1.out.1, HB.out.2.2.other HX1.out, .inr ⟨by rw [HQ.out, nk, if_neg (by rw [HD.out]; decide)], rfl⟩⟩
    · obtain rfl : j = K := by omega
      obtain rfl : gk = 0 := by omega
      go_wp2_with fail
      go_ret
      exact ⟨n, r, b0, rfl, HB.out.1, HB.out.2.1, HB.out.2.2, .inl ⟨by rw [HQ.out, nk], rfl⟩⟩
end Go.Proofs.YtkaaejfochdjcaaDoor
