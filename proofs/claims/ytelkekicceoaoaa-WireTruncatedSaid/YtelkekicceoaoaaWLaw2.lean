/-
  The law's own count of letters (few); arguments that are lists of strings and of digests; what the bound of the second form gives.
-/
import Derived.Test.YtelkekicceoaoaaWLaw
import Derived.Test.YtelkekicceoaoaaWBase2
import Derived.Test.YtelkekicceoaoaaWPure2
import Derived.ChangeMaps5
import Derived.Deep.Slices
namespace Go.Proofs.Ytelkekicceoaoaa
open Go.ChangeShapes Go.WideShapes Go.ChangeAt Go.RowKit Go.ChangeMaps
set_option linter.unusedVariables false

def tot (l : List ByteArray) : Nat := l.length + (lists l).flatten.length

set_option maxHeartbeats 400000 in
theorem few_any (l : List ByteArray) (A : Option Addr) (c : Nat) (w : World) (ht : tot l ≤ 1099511627776) (hr : Rd w A (l.map Value.string)) :
    Calls Try.prog 11 #[.slice A l.length c] w fun e w' => e = .returned (.bool (decide ((tot l : Int) ≤ 2000))) ∧ w = w' := by
  have hl : l.length ≤ 1099511627776 := by unfold tot at ht; omega
  have HR := Lib.hid hr; clear hr
  obtain ⟨T, hT⟩ : ∃ T, tot l = T := ⟨_, rfl⟩
  have HT := Lib.hid hT
  rw [hT] at ht ⊢
  clear hT
  go_enter Try.func11, Try.ntmps11
  go_wp2_with fail
  go_loop [3, 10] (fun n i => ∃ j q : Nat, j ≤ l.length ∧ q ≤ T ∧ i = .int .i64 j ∧ n = .int .i64 q ∧ Hid (q = l.length + ((lists l).take j).flatten.length)) (fun _ i => l.length - (intOf i).toNat)
  case atStart => exact ⟨0, l.length, by omega, by have := HT.out; unfold tot at this; omega, rfl, rfl, by simp [Hid]⟩
  case round =>
    obtain ⟨j, q, hj, hq, rfl, rfl, HQ⟩ := hrel
    by_cases hlt : j < l.length
    · obtain ⟨x, hx⟩ : ∃ x, l[j]? = some x := ⟨_, List.getElem?_eq_getElem hlt⟩
      obtain ⟨b, o, rfl, hc⟩ := HR.out.open (by intro e; rw [List.map_eq_nil_iff] at e; subst e; simp at hlt)
      have hcell : w.cell? ⟨b, o + j, none⟩ = some (.string x) := hc j (.string x) (by simp [hx])
      have hxl : (lists l)[j]? = some x.data.toList := by simp [lists, hx]
      have hstep : q + x.size = l.length + ((lists l).take (j + 1)).flatten.length := by
        rw [take_snoc hxl, List.flatten_append, List.length_append, HQ.out]
        have : [x.data.toList].flatten.length = x.size := by simp
        omega
      have hle : q + x.size ≤ T := by
        have h1 := flatten_take_len (lists l) (j + 1)
        have h2 := HT.out
        unfold tot at h2
        omega
      have HS := Lib.hid hstep
      clear hc hx hxl hstep
      go_wp2
      go_round
      case rel => exact ⟨j + 1, q + x.size, by omega, hle, by go_num, by go_num, HS.out⟩
      case measure => simp [intOf]; omega
    · have hqT : q = T := by
        have h2 := HT.out
        unfold tot at h2
        rw [HQ.out, ← h2, List.take_of_length_le (by simp [lists]; omega)]
      have HQT := Lib.hid hqT
      clear hqT
      go_wp2
      go_ret
      exact ⟨ret_bool (by rw [HQT.out]), rfl⟩

/-! ## opening -/
section
variable {H : Type} {enc : TypeId × Value → H}
theorem bulk_pos (d : DataW H) : 1 ≤ Rows.uptoBulk d := by
  cases d with
  | lit l => cases l <;> simp [Rows.uptoBulk]
  | _ => simp [Rows.uptoBulk]
theorem bulk_all_len (l : List (DataW H)) : l.length ≤ Rows.uptoBulkAll l := by
  induction l with
  | nil => simp [Rows.uptoBulkAll]
  | cons x r ih => have := bulk_pos x; simp only [Rows.uptoBulkAll, List.length_cons]; omega
theorem bulk_strs (ss : List ByteArray) : Rows.uptoBulkAll (H := H) (strs ss) = tot ss := by
  induction ss with
  | nil => simp [strs, Rows.uptoBulkAll, tot, lists]
  | cons s r ih =>
    simp only [strs, List.map_cons, Rows.uptoBulkAll, Rows.uptoBulk, tot, lists, List.length_cons, List.flatten_cons, List.length_append] at *
    omega

theorem open_rdS {W : World} {v : Value} {d : DataW H} {ps : List MemPlace} {b0 : Nat} (hval : Value.okWide Try.prog W .any b0 23 v) (h : DataW.Trod enc Try.prog W 0 (fun _ => true) true 23 v d ps) :
    ∃ (A : Option Addr) (l : List ByteArray) (c : Nat), v = .slice A l.length c ∧ Rd W A (l.map Value.string) ∧ l.length ≤ c ∧ c ≤ maxLen ∧ tot l ≤ Rows.uptoBulk d := by
  obtain ⟨a0, len, cap, rfl⟩ := okWide_slice Try.underlying23 hval
  obtain ⟨fuel, hf⟩ := h
  rcases open_strings Try.underlying23 Try.underlying9 Try.cells9 hf with ⟨hcs, hx⟩ | ⟨a, len', cap', ss, hcs, _, hl, hm, hz, hx, hcell, hwz⟩
  · simp [Value.cells] at hcs
    obtain ⟨rfl, rfl, rfl⟩ := hcs
    exact ⟨none, [], 0, rfl, .inl rfl, Nat.le_refl _, Nat.zero_le _, by simp [tot, lists]⟩
  · simp [Value.cells] at hcs
    obtain ⟨rfl, rfl, rfl⟩ := hcs
    simp only [if_true] at hz
    simp only [Prod.mk.injEq] at hx
    have hlen : (ss.take len).length = len := by simp; omega
    refine ⟨some a, ss.take len, cap, by rw [hlen], ?_, by rw [hlen]; exact hl, hm, ?_⟩
    · refine rd_addr (n := len) (f := fun i => .string (ss.getD i ByteArray.empty)) (by rw [List.length_map]; exact hlen) (fun i hi => ?_) (fun i hi => hcell i (by omega))
      have hzi : i < ss.length := by omega
      simp [List.getD, List.getElem?_eq_getElem hzi, hi]
    · rw [hx.1]
      simp only [Rows.uptoBulk, bulk_strs]
      omega

theorem Try.cellsD : Try.prog.cellsOf 57 = 16 := by kernel_rfl
theorem open_rdD {W : World} {v : Value} {d : DataW H} {ps : List MemPlace} {b0 : Nat} (hval : Value.okWide Try.prog W .any b0 24 v) (h : DataW.Trod enc Try.prog W 0 (fun _ => true) true 24 v d ps) :
    ∃ (A : Option Addr) (l : List (List UInt8)) (c : Nat), v = .slice A l.length c ∧ Rd W A (bs l.flatten) ∧ (∀ x ∈ l, x.length = 16) ∧ l.length ≤ c ∧ c ≤ maxLen ∧ l.length ≤ Rows.uptoBulk d := by
  obtain ⟨a0, len, cap, rfl⟩ := okWide_slice Try.underlying24 hval
  obtain ⟨fuel, hf⟩ := h
  rcases Go.Deep.open_slice Try.underlying24 hf with ⟨hcs, hx⟩ | ⟨a, len', cap', m, n, D, Pl, hcs, _, hl, hm, hmm, hx, hi⟩
  · simp [Value.cells] at hcs
    obtain ⟨rfl, rfl, rfl⟩ := hcs
    exact ⟨none, [], 0, rfl, .inl rfl, by simp, Nat.le_refl _, Nat.zero_le _, Nat.zero_le _⟩
  · simp [Value.cells] at hcs
    obtain ⟨rfl, rfl, rfl⟩ := hcs
    simp only [if_true] at hmm
    rw [Try.cellsD] at hi
    have each : ∀ i, i < len → ∃ x : List UInt8, x.length = 16 ∧ ∀ (k : Nat) (c : UInt8), x[k]? = some c → W.cell? (a.add (i * 16 + k)) = some (by8 c) := by
      intro i hilt
      obtain ⟨cs', hc, ht'⟩ := hi i (by omega)
      obtain ⟨_, hcl, hat⟩ := World.cells?_some hc
      obtain ⟨xs, n', _, _, _, hxl, hel⟩ := DataW.trod_array Try.underlying57 ht'
      have hb : ∀ k, k < 16 → ∃ c : UInt8, cs'[k]? = some (by8 c) := by
        intro k hk
        have h1 := hel k hk
        rw [Try.cells5, Nat.mul_one, List.getElem?_eq_getElem (by omega)] at h1
        obtain ⟨z, hz, _, hw⟩ := DataW.trod_int Try.underlying5 h1
        have h3 : IntKind.u8.min = 0 := rfl
        have h4 : IntKind.u8.max = 255 := rfl
        simp only [Lit.wf, Bool.and_eq_true, decide_eq_true_eq, h3, h4] at hw
        refine ⟨UInt8.ofNat z.toNat, ?_⟩
        have h5 : ((cs'.drop k).take 1)[0]? = some (Value.int .u8 z) := by rw [hz]; rfl
        rw [List.getElem?_take_of_lt (by omega), List.getElem?_drop, Nat.add_zero] at h5
        rw [h5]
        unfold by8
        congr 2
        simp
        omega
      obtain ⟨x, hx1, hx2⟩ : ∃ x : List UInt8, x.length = 16 ∧ ∀ (k : Nat) (c : UInt8), x[k]? = some c → cs'[k]? = some (by8 c) := by
        have build : ∀ q, q ≤ 16 → ∃ x : List UInt8, x.length = q ∧ ∀ (k : Nat) (c : UInt8), x[k]? = some c → cs'[k]? = some (by8 c) := by
          intro q
          induction q with
          | zero => intro _; exact ⟨[], rfl, by simp⟩
          | succ q ih =>
            intro hq
            obtain ⟨x, h1, h2⟩ := ih (by omega)
            obtain ⟨c, hc⟩ := hb q (by omega)
            refine ⟨x ++ [c], by simp [h1], fun k c' hk => ?_⟩
            rw [List.getElem?_append] at hk
            split at hk
            · exact h2 k c' hk
            · rename_i hge
              have hkq : k - x.length = 0 := by
                rcases Nat.eq_zero_or_pos (k - x.length) with h | h
                · exact h
                · rw [List.getElem?_eq_none (by simp; omega)] at hk; cases hk
              obtain rfl : k = q := by omega
              rw [hkq] at hk
              have : c = c' := by simpa using hk
              rw [hc, this]
        exact build 16 (by omega)
      refine ⟨x, hx1, fun k c hk => ?_⟩
      have hk16 : k < 16 := by rw [← hx1]; exact (List.getElem?_eq_some_iff.1 hk).1
      have h1 := hat k hk16
      rw [hx2 k c hk] at h1
      have hadd : (a.add (i * 16)).add k = a.add (i * 16 + k) := by
        unfold Addr.add
        by_cases e1 : i * 16 = 0 <;> by_cases e2 : k = 0 <;> simp [e1, e2, Nat.add_assoc]
        all_goals (have : i = 0 := by omega) <;> simp [this]
      rw [← hadd]
      exact h1
    have all : ∀ q, q ≤ len → ∃ l : List (List UInt8), l.length = q ∧ (∀ x ∈ l, x.length = 16) ∧ ∀ (k : Nat) (c : UInt8), l.flatten[k]? = some c → W.cell? (a.add k) = some (by8 c) := by
      intro q
      induction q with
      | zero => intro _; exact ⟨[], rfl, by simp, by simp⟩
      | succ q ih =>
        intro hq
        obtain ⟨l, h1, h2, h3⟩ := ih (by omega)
        obtain ⟨x, hx1, hx2⟩ := each q (by omega)
        have hfl : l.flatten.length = q * 16 := by
          rw [← h1]
          clear h1 h3 hx1 hx2
          induction l with
          | nil => rfl
          | cons y r ih => have := h2 y (by simp); have := ih (fun z hz => h2 z (by simp [hz])); simp only [List.flatten_cons, List.length_append, List.length_cons]; omega
        refine ⟨l ++ [x], by simp [h1], by intro y hy; rcases List.mem_append.1 hy with hy | hy; exact h2 y hy; simp at hy; rw [hy]; exact hx1, fun k c hk => ?_⟩
        rw [List.flatten_append, List.getElem?_append] at hk
        split at hk
        · exact h3 k c hk
        · rename_i hge
          have := hx2 (k - l.flatten.length) c (by simpa using hk)
          rw [show q * 16 + (k - l.flatten.length) = k from by omega] at this
          exact this
    obtain ⟨l, h1, h2, h3⟩ := all len (Nat.le_refl _)
    refine ⟨some a, l, cap, by rw [h1], ?_, h2, by omega, hm, ?_⟩
    · refine rd_addr (n := l.flatten.length) (f := fun i => by8 (l.flatten[i]?.getD 0)) (by rw [bs_length]) (fun i hi => ?_) (fun i hi => ?_)
      · unfold bs; rw [List.getElem?_map, List.getElem?_eq_getElem hi]; rfl
      · rw [List.getElem?_eq_getElem hi]; exact h3 i _ (List.getElem?_eq_getElem hi)
    · simp only [Prod.mk.injEq] at hx
      rw [hx.1, h1]
      simp only [Rows.uptoBulk]
      have := bulk_all_len ((List.range len).map D)
      simp at this
      omega
theorem slice_bulk {W : World} {t e : TypeId} {A : Option Addr} {n c : Nat} {d : DataW H} {ps : List MemPlace} (ht : Try.prog.underlying t = some (.slice e)) (h : DataW.Trod enc Try.prog W 0 (fun _ => true) true t (.slice A n c) d ps) : n ≤ Rows.uptoBulk d := by
  obtain ⟨fuel, hf⟩ := h
  rcases Go.Deep.open_slice ht hf with ⟨hcs, hx⟩ | ⟨a, len, cap, m, k, D, Pl, hcs, _, hl, hm, hmm, hx, hi⟩
  · simp [Value.cells] at hcs
    omega
  · simp [Value.cells] at hcs
    obtain ⟨rfl, rfl, rfl⟩ := hcs
    simp only [Prod.mk.injEq] at hx
    rw [hx.1]
    simp only [Rows.uptoBulk]
    have := bulk_all_len ((List.range n).map D)
    simp at this
    omega
end

end Go.Proofs.Ytelkekicceoaoaa
