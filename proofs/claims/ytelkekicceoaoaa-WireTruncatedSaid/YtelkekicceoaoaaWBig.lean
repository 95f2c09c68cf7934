/-
  What the reach gives of lists of strings and of digests; the law's count of letters where they are many.
-/
import Derived.Test.YtelkekicceoaoaaWLaw2
namespace Go.Proofs.Ytelkekicceoaoaa
open Go.ChangeShapes Go.WideShapes Go.ChangeAt Go.RowKit Go.ChangeMaps
set_option linter.unusedVariables false

theorem Try.bytes9 : Try.prog.bytesOf 9 = 16 := by kernel_rfl
theorem Try.bytesD : Try.prog.bytesOf 57 = 16 := by kernel_rfl
theorem tot_le (B : Nat) (l : List ByteArray) (h : ∀ s ∈ l, s.size ≤ B) : tot l ≤ l.length * (B + 1) := by
  induction l with
  | nil => simp [tot, lists]
  | cons s r ih =>
    have h1 := ih fun y hy => h y (List.mem_cons_of_mem _ hy)
    have h2 := h s (List.mem_cons_self ..)
    have h3 : s.data.toList.length = s.size := rfl
    simp only [tot, lists, List.map_cons, List.flatten_cons, List.length_append, List.length_cons, h3] at h1 ⊢
    rw [Nat.add_mul, Nat.one_mul]
    omega

set_option maxHeartbeats 400000 in
theorem few_big (l : List ByteArray) (A : Option Addr) (c : Nat) (w : World) (ht : tot l ≤ 9007199254740992) (hr : Rd w A (l.map Value.string)) :
    Calls Try.prog 11 #[.slice A l.length c] w fun e w' => e = .returned (.bool (decide ((tot l : Int) ≤ 2000))) ∧ w = w' := by
  have hl : l.length ≤ 9007199254740992 := by unfold tot at ht; omega
  have HR := Lib.hid hr; clear hr
  obtain ⟨T, hT⟩ : ∃ T, tot l = T := ⟨_, rfl⟩
  have HT := Lib.hid hT
  rw [hT] at ht ⊢
  clear hT
  go_enter Try.func11, Try.ntmps11
  go_wp2_with fail
  go_loop [3, 10] (fun n i => ∃ j q : Nat, j ≤ l.length ∧ q ≤ T ∧ i = .int .i64 j ∧ n = .int .i64 q ∧ Hid (q = l.length + ((lists l).take j).flatten.length)) (fun _ i => l.length - (intOf i).toNat)
  case atStart => exact ⟨0, l.length, by omega, by have := HT.out; unfold tot at this; omega, rfl, rfl, by simp [Hid]⟩
  case round =>
    obtain ⟨j, q, hj, hq, rfl, rfl, HQ⟩ := hrel
    by_cases hlt : j < l.length
    · obtain ⟨x, hx⟩ : ∃ x, l[j]? = some x := ⟨_, List.getElem?_eq_getElem hlt⟩
      obtain ⟨b, o, rfl, hc⟩ := HR.out.open (by intro e; rw [List.map_eq_nil_iff] at e; subst e; simp at hlt)
      have hcell : w.cell? ⟨b, o + j, none⟩ = some (.string x) := hc j (.string x) (by simp [hx])
      have hxl : (lists l)[j]? = some x.data.toList := by simp [lists, hx]
      have hstep : q + x.size = l.length + ((lists l).take (j + 1)).flatten.length := by
        rw [take_snoc hxl, List.flatten_append, List.length_append, HQ.out]
        have : [x.data.toList].flatten.length = x.size := by simp
        omega
      have hle : q + x.size ≤ T := by
        have h1 := flatten_take_len (lists l) (j + 1)
        have h2 := HT.out
        unfold tot at h2
        omega
      have HS := Lib.hid hstep
      clear hc hx hxl hstep
      go_wp2
      go_round
      case rel => exact ⟨j + 1, q + x.size, by omega, hle, by go_num, by go_num, HS.out⟩
      case measure => simp [intOf]; omega
    · have hqT : q = T := by
        have h2 := HT.out
        unfold tot at h2
        rw [HQ.out, ← h2, List.take_of_length_le (by simp [lists]; omega)]
      have HQT := Lib.hid hqT
      clear hqT
      go_wp2
      go_ret
      exact ⟨ret_bool (by rw [HQT.out]), rfl⟩

section
variable {H : Type} {enc : TypeId × Value → H}
theorem open_rdS2 {W : World} {v : Value} {d : DataW H} {ps : List MemPlace} {b0 : Nat} (hval : Value.okWide Try.prog W .any b0 23 v) (h : DataW.Trod enc Try.prog W 0 (fun _ => true) true 23 v d ps) :
    ∃ (A : Option Addr) (l : List ByteArray) (c : Nat), v = .slice A l.length c ∧ Rd W A (l.map Value.string) ∧ l.length ≤ c ∧ c ≤ maxLen ∧ ∀ {ts : List TypeId} {ds : List (DataW H)} {j : Nat}, (DataW.weightsEach Try.prog ts ds).all (· ≤ reachBytes) = true → ts[j]? = some 23 → ds[j]? = some d → l.length ≤ 17592186044416 ∧ ∀ s ∈ l, s.size ≤ 140737488355328 := by
  obtain ⟨a0, len, cap, rfl⟩ := okWide_slice Try.underlying23 hval
  obtain ⟨fuel, hf⟩ := h
  rcases open_strings Try.underlying23 Try.underlying9 Try.cells9 hf with ⟨hcs, hx⟩ | ⟨a, len', cap', ss, hcs, _, hl, hm, hz, hx, hcell, hwz⟩
  · simp [Value.cells] at hcs
    obtain ⟨rfl, rfl, rfl⟩ := hcs
    exact ⟨none, [], 0, rfl, .inl rfl, Nat.le_refl _, Nat.zero_le _, fun _ _ _ => ⟨Nat.zero_le _, by simp⟩⟩
  · simp [Value.cells] at hcs
    obtain ⟨rfl, rfl, rfl⟩ := hcs
    simp only [if_true] at hz
    simp only [Prod.mk.injEq] at hx
    have hlen : (ss.take len).length = len := by simp; omega
    refine ⟨some a, ss.take len, cap, by rw [hlen], ?_, by rw [hlen]; exact hl, hm, ?_⟩
    · refine rd_addr (n := len) (f := fun i => .string (ss.getD i ByteArray.empty)) (by rw [List.length_map]; exact hlen) (fun i hi => ?_) (fun i hi => hcell i (by omega))
      have hzi : i < ss.length := by omega
      simp [List.getD, List.getElem?_eq_getElem hzi, hi]
    · intro ts ds j hw ht hd
      rw [hx.1] at hd
      have h1 := sized_slice hw ht hd Try.underlying23
      have hlit : ∀ s ∈ ss.take len, s.size ≤ reachBytes := fun s hs => by
        have h2 := List.all_eq_true.1 hw _ (DataW.weights_mem_each ht hd s.data.toList.length (by
          simp only [DataW.weights, Try.underlying23]
          refine List.mem_cons_of_mem _ (List.mem_append_left _ ?_)
          clear h1 hlen hl hd hx hz hcell hwz
          generalize ss.take len = r at hs
          induction r with
          | nil => cases hs
          | cons y r ih =>
            simp only [strs, List.map_cons, DataW.weightsAll, DataW.weights]
            rcases List.mem_cons.1 hs with rfl | hs
            · simp
            · exact List.mem_append_right _ (ih hs)))
        simpa using h2
      rw [Try.bytes9] at h1
      simp only [strs, List.length_map, List.length_take, List.length_drop, reachBytes] at h1
      refine ⟨by rw [hlen]; omega, fun s hs => ?_⟩
      have := hlit s hs
      simp only [reachBytes] at this
      omega

theorem slice_reach {W : World} {t e : TypeId} {A : Option Addr} {n c j : Nat} {d : DataW H} {ts : List TypeId} {ds : List (DataW H)} {ps : List MemPlace} (hu : Try.prog.underlying t = some (.slice e)) (h : DataW.Trod enc Try.prog W 0 (fun _ => true) true t (.slice A n c) d ps)
    (hw : (DataW.weightsEach Try.prog ts ds).all (· ≤ reachBytes) = true) (ht : ts[j]? = some t) (hd : ds[j]? = some d) : n * Try.prog.bytesOf e ≤ reachBytes := by
  obtain ⟨fuel, hf⟩ := h
  rcases Go.Deep.open_slice hu hf with ⟨hcs, hx⟩ | ⟨a, len', cap', m, k, D, Pl, hcs, _, hl, hm, hmm, hx, hi⟩
  · simp [Value.cells] at hcs
    obtain ⟨rfl, rfl, rfl⟩ := hcs
    simp
  · simp [Value.cells] at hcs
    obtain ⟨rfl, rfl, rfl⟩ := hcs
    simp only [Prod.mk.injEq] at hx
    rw [hx.1] at hd
    have h1 := sized_slice hw ht hd hu
    simp only [List.length_map, List.length_range] at h1
    exact Nat.le_trans (Nat.mul_le_mul_right _ (Nat.le_add_right _ _)) h1
end

end Go.Proofs.Ytelkekicceoaoaa
