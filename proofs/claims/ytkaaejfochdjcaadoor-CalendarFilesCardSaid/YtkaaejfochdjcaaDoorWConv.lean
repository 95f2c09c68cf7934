/-
  Bytes to a string: what the walk meets as a conversion, said of a slice that reads as bytes.
-/
import Derived.Test.YtkaaejfochdjcaaDoorWBase
import Derived.Laws.BytesArg
namespace Go.Proofs.YtkaaejfochdjcaaDoor
open Go.RowKit

theorem strOfNums_bytes (l : List UInt8) : strOfNums (l.map fun c => (c.toNat : Int)) = ⟨l.toArray⟩ := by
  apply ByteArray.ext
  apply Array.ext'
  rw [strOfNums_data, List.map_map]
  conv => rhs; rw [List.toList_toArray, ← List.map_id l]
  apply List.map_congr_left
  intro c _
  simp

theorem conv_rd {P : Program} {src dst e : TypeId} (hs : P.underlying src = some (.slice e)) (he : P.underlying e = some (.int .u8)) (hd : P.underlying dst = some .string) {w : World} {A : Option Addr} {l : List UInt8} (h : Rd w A (bs l)) (c : Nat) :
    (convert src dst (.slice A l.length c)).run P w = .ok (.string ⟨l.toArray⟩) w := by
  have key : ∀ b o, (∀ k v, (bs l)[k]? = some v → w.cell? ⟨b, o + k, none⟩ = some v) → (convert src dst (.slice (some ⟨b, o, none⟩) l.length c)).run P w = .ok (.string ⟨l.toArray⟩) w := by
    intro b o hc
    have := run_convert_bytes_arg (P := P) w src e hs he b o l.length c (l.map fun c => (c.toNat : Int)) (by simp) (fun i hi => by
      rw [hc i (.int .u8 l[i].toNat) (bs_get hi)]
      simp [List.getD, hi]) dst hd
    rw [strOfNums_bytes] at this
    exact this
  rcases h with h | ⟨b, o, rfl, hc⟩
  · have hl : l = [] := by simpa [bs] using h
    subst hl
    cases A with
    | none => exact run_convert_bytes_nil w src e hs he 0 c dst hd
    | some a =>
      rw [run_convert_bytes_string w src dst e (some a) _ c hs he hd, run_bytesToString w a _ c [] (by simp [loadCells, loadCellsFrom])]
      rfl
  · exact key b o hc

end Go.Proofs.YtkaaejfochdjcaaDoor
