/-
  Opening a list of strings as parts; the tag's low byte.
-/
import Derived.Test.YtpidddafbehmpaaDoorHLaw2
import Derived.Test.YtpidddafbehmpaaDoorHROf
import Derived.ChangeMaps5
import Derived.Deep.Slices
namespace Go.Proofs.YtpidddafbehmpaaDoor
open Go.ChangeShapes Go.WideShapes Go.ChangeAt Go.RowKit Go.ChangeMaps
open Sha
set_option linter.unusedVariables false
theorem Tryd.bytes9 : Tryd.prog.bytesOf 9 = 16 := by kernel_rfl
theorem Tryd.cells9 : Tryd.prog.cellsOf 9 = 1 := by kernel_rfl
theorem rd_addr {W : World} {a : Addr} {n : Nat} {f : Nat → Value} {xs : List Value} (hx : xs.length = n) (hf : ∀ i, i < n → xs[i]? = some (f i)) (h : ∀ i, i < n → W.cell? (a.add i) = some (f i)) : Rd W (some a) xs := by
  rcases Nat.eq_zero_or_pos n with h0 | h0
  · exact .inl (List.eq_nil_of_length_eq_zero (by omega))
  · obtain ⟨b, o, spot⟩ := a
    have hs : spot = none := by simpa [Addr.add] using World.cell?_spot (h 0 h0)
    subst hs
    refine .inr ⟨b, o, rfl, fun k v hv => ?_⟩
    have hk : k < n := by rw [← hx]; exact (List.getElem?_eq_some_iff.1 hv).1
    have := h k hk
    rw [hf k hk] at hv
    have ha : (⟨b, o, none⟩ : Addr).add k = ⟨b, o + k, none⟩ := by unfold Addr.add; split <;> simp_all
    rw [ha] at this
    rw [this, hv]
section
variable {H : Type} {enc : TypeId × Value → H}
theorem open_rdS2 {W : World} {v : Value} {d : DataW H} {ps : List MemPlace} {b0 : Nat} (hval : Value.okWide Tryd.prog W .any b0 27 v) (h : DataW.Trod enc Tryd.prog W 0 (fun _ => true) true 27 v d ps) :
    ∃ (A : Option Addr) (l : List ByteArray) (c : Nat), v = .slice A l.length c ∧ Rd W A (l.map Value.string) ∧ l.length ≤ c ∧ c ≤ maxLen ∧ ∀ {ts : List TypeId} {ds : List (DataW H)} {j : Nat}, (DataW.weightsEach Tryd.prog ts ds).all (· ≤ reachBytes) = true → ts[j]? = some 27 → ds[j]? = some d → l.length ≤ 17592186044416 ∧ ∀ s ∈ l, s.size ≤ 140737488355328 := by
  obtain ⟨a0, len, cap, rfl⟩ := okWide_slice Tryd.underlying27 hval
  obtain ⟨fuel, hf⟩ := h
  rcases open_strings Tryd.underlying27 Tryd.underlying9 Tryd.cells9 hf with ⟨hcs, hx⟩ | ⟨a, len', cap', ss, hcs, _, hl, hm, hz, hx, hcell, hwz⟩
  · simp [Value.cells] at hcs
    obtain ⟨rfl, rfl, rfl⟩ := hcs
    exact ⟨none, [], 0, rfl, .inl rfl, Nat.le_refl _, Nat.zero_le _, fun _ _ _ => ⟨Nat.zero_le _, by simp⟩⟩
  · simp [Value.cells] at hcs
    obtain ⟨rfl, rfl, rfl⟩ := hcs
    simp only [if_true] at hz
    simp only [Prod.mk.injEq] at hx
    have hlen : (ss.take len).length = len := by simp; omega
    refine ⟨some a, ss.take len, cap, by rw [hlen], ?_, by rw [hlen]; exact hl, hm, ?_⟩
    · refine rd_addr (n := len) (f := fun i => .string (ss.getD i ByteArray.empty)) (by rw [List.length_map]; exact hlen) (fun i hi => ?_) (fun i hi => hcell i (by omega))
      have hzi : i < ss.length := by omega
      simp [List.getD, List.getElem?_eq_getElem hzi, hi]
    · intro ts ds j hw ht hd
      rw [hx.1] at hd
      have h1 := sized_slice hw ht hd Tryd.underlying27
      have hlit : ∀ s ∈ ss.take len, s.size ≤ reachBytes := fun s hs => by
        have h2 := List.all_eq_true.1 hw _ (DataW.weights_mem_each ht hd s.data.toList.length (by
          simp only [DataW.weights, Tryd.underlying27]
          refine List.mem_cons_of_mem _ (List.mem_append_left _ ?_)
          clear h1 hlen hl hd hx hz hcell hwz
          generalize ss.take len = r at hs
          induction r with
          | nil => cases hs
          | cons y r ih =>
            simp only [strs, List.map_cons, DataW.weightsAll, DataW.weights]
            rcases List.mem_cons.1 hs with rfl | hs
            · simp
            · exact List.mem_append_right _ (ih hs)))
        simpa using h2
      rw [Tryd.bytes9] at h1
      simp only [strs, List.length_map, List.length_take, List.length_drop, reachBytes] at h1
      refine ⟨by rw [hlen]; omega, fun s hs => ?_⟩
      have := hlit s hs
      simp only [reachBytes] at this
      omega
theorem open_parts {W : World} {v : Value} {d : DataW H} {ps : List MemPlace} {b0 : Nat} (hval : Value.okWide Tryd.prog W .any b0 27 v) (h : DataW.Trod enc Tryd.prog W 0 (fun _ => true) true 27 v d ps) :
    ∃ (A : Option Addr) (l : List (List UInt8)) (c : Nat), v = .slice A l.length c ∧ Rd W A (l.map fun p => Value.string (sb p)) ∧ l.length ≤ c ∧ c ≤ maxLen ∧ ∀ {ts : List TypeId} {ds : List (DataW H)} {j : Nat}, (DataW.weightsEach Tryd.prog ts ds).all (· ≤ reachBytes) = true → ts[j]? = some 27 → ds[j]? = some d → l.length ≤ 17592186044416 ∧ ∀ p ∈ l, p.length ≤ 140737488355328 := by
  obtain ⟨A, l, c, rfl, hr, hc, hm, hreach⟩ := open_rdS2 hval h
  refine ⟨A, l.map fun s => s.data.toList, c, by rw [List.length_map], ?_, by rw [List.length_map]; exact hc, hm, fun hw ht hd => ?_⟩
  · rw [List.map_map]
    exact hr
  · have h2 := hreach hw ht hd
    refine ⟨by rw [List.length_map]; exact h2.1, fun p hp => ?_⟩
    obtain ⟨s, hs, rfl⟩ := List.mem_map.1 hp
    exact h2.2 s hs
end
theorem inI_wf {n : Int} (h : (Lit.int .i64 n).wf = true) : inI n := by
  have h1 : IntKind.i64.min = -9223372036854775808 := rfl
  have h2 : IntKind.i64.max = 9223372036854775807 := rfl
  simp only [Lit.wf, Bool.and_eq_true, decide_eq_true_eq, h1, h2] at h
  exact h
theorem and255 (tag : Int) (h1 : -9223372036854775808 ≤ tag) (h2 : tag ≤ 9223372036854775807) : bits .and .i64 tag 255 = tag % 256 := by
  show IntKind.i64.wrap ((BitVec.ofInt 64 tag &&& BitVec.ofInt 64 255).toNat : Int) = _
  have e : (BitVec.ofInt 64 tag &&& BitVec.ofInt 64 255).toNat = (tag % 256).toNat := by
    rw [BitVec.toNat_and, show (BitVec.ofInt 64 255).toNat = 2 ^ 8 - 1 from by decide, Nat.and_two_pow_sub_one_eq_mod, BitVec.toNat_ofInt]
    omega
  rw [e, IntWalk.i64_in _ (by omega)]
  omega
theorem dig_and (tag : Int) (parts : List (List UInt8)) : dig (tag % 256) parts = dig tag parts := by
  have : input (tag % 256) parts = input tag parts := by rw [input, input, tagb, tagb, Int.emod_emod_of_dvd tag (Int.dvd_refl 256)]
  rw [dig, dig, this]
end Go.Proofs.YtpidddafbehmpaaDoor
