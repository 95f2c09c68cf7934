/-
  Layer 3's values over numbers, for the kernel: what the law's own example (seed of 32 bytes 5, height 1) comes to.
-/
import Derived.Test.YtbgcnfikcddcpaaDoorSPure
import Derived.Test.YtbgcnfikcddcpaaDoorHFast
namespace Go.Proofs.YtbgcnfikcddcpaaDoor
set_option linter.unusedVariables false
namespace Fast
open Sha Sgn
def ndig (tag : Nat) (parts : List (List Nat)) : List Nat := (nsha (tag :: parts.flatMap fun p => nb (en p.length) ++ p)).take 16
theorem ndig_eq (tag : Nat) (ht : tag < 256) (parts : List (List UInt8)) : nb (dig tag parts) = ndig tag (parts.map nb) := by
  have h1 : nb (dig tag parts) = (nb (sha (input tag parts))).take 16 := by rw [dig]; simp [nb]
  have h2 : nb (input tag parts) = tag :: (parts.map nb).flatMap fun p => nb (en p.length) ++ p := by
    have e : (tagb tag).toNat = tag := by have := tagb_toNat tag; omega
    rw [input]
    simp only [nb, List.map_cons, e, List.map_flatMap, List.flatMap_map, List.length_map]
    congr 1
    congr 1
    funext p
    simp [eB]
  rw [h1, nsha_eq, h2, ndig]
def S5 : B := List.replicate 32 5
def A54 : List Nat := [51, 51, 51, 51, 51, 51, 51, 51, 51, 51, 51, 51, 51, 51, 51, 51, 51, 51, 51, 51, 51, 51, 51, 51, 51, 51, 51, 51, 51, 51, 51, 51, 54, 54, 54, 54, 54, 54, 54, 54, 54, 54, 54, 54, 54, 54, 54, 54, 54, 54, 54, 54, 54, 54, 54, 54, 54, 54, 54, 54, 54, 54, 54, 54]
def A92 : List Nat := [89, 89, 89, 89, 89, 89, 89, 89, 89, 89, 89, 89, 89, 89, 89, 89, 89, 89, 89, 89, 89, 89, 89, 89, 89, 89, 89, 89, 89, 89, 89, 89, 92, 92, 92, 92, 92, 92, 92, 92, 92, 92, 92, 92, 92, 92, 92, 92, 92, 92, 92, 92, 92, 92, 92, 92, 92, 92, 92, 92, 92, 92, 92, 92]
theorem A54_eq : nb (mask (ekey S5) 54) = A54 := by kernel_rfl
theorem A92_eq : nb (mask (ekey S5) 92) = A92 := by kernel_rfl
def nbot (i c : Nat) : List Nat := (nsha (A92 ++ nsha (A54 ++ nb (cmsg i c)))).take 16
theorem nbot_eq (i c : Nat) : nb (bot S5 i c) = nbot i c := by
  have h1 : nb (bot S5 i c) = (nb (mac S5 (cmsg i c))).take 16 := by rw [bot]; simp [nb]
  rw [h1, mac, nsha_eq, nb_append, nsha_eq, nb_append, A54_eq, A92_eq, nbot]
def nstp (i c t : Nat) (v : List Nat) : List Nat := ndig 8 [nb (eL [(i : Int), (c : Int), (t : Int)]), v]
theorem nstp_eq (i c t : Nat) (v : B) : nb (stp i c t v) = nstp i c t (nb v) := by
  rw [stp, show (8 : Int) = ((8 : Nat) : Int) from rfl, ndig_eq 8 (by omega)]
  rfl
def nadv (i c : Nat) : Nat → Nat → List Nat → List Nat
  | _, 0, v => v
  | f, n + 1, v => nadv i c (f + 1) n (nstp i c f v)
theorem nadv_eq (i c : Nat) : ∀ (n f : Nat) (v : B), nb (adv i c f n v) = nadv i c f n (nb v)
  | 0, _, _ => rfl
  | n + 1, f, v => by rw [adv, nadv, nadv_eq i c n, nstp_eq]
/-- The values of a key of S5, k of them from c0 on, at the height that h says. -/
def nvals (i : Nat) (h : List Nat) (c0 k : Nat) : List (List Nat) := (List.range' c0 k).map fun c => nadv i c 0 (h.getD c 0) (nbot i c)
def nleaf (t : List Nat) : List Nat := ndig 1 [ndig 9 [t]]
theorem nleaf_eq (i : Int) (vs : List B) (hs : List Nat) : nb (leafN i vs hs) = nleaf (nb (topsN i vs hs 68)) := by
  rw [leafN, show (1 : Int) = ((1 : Nat) : Int) from rfl, ndig_eq 1 (by omega), show (9 : Int) = ((9 : Nat) : Int) from rfl, List.map_cons, List.map_nil, ndig_eq 9 (by omega)]
  rfl
theorem npar_eq (a b : B) : nb (par a b) = ndig 2 [nb a, nb b] := by
  rw [par, show (2 : Int) = ((2 : Nat) : Int) from rfl, ndig_eq 2 (by omega)]
  rfl
theorem ndgst_eq (p : B) (i : Nat) (m : B) : nb (dgst p i m) = ndig 3 [nb p, nb (en i), nb m] := by
  rw [dgst, show (3 : Int) = ((3 : Nat) : Int) from rfl, ndig_eq 3 (by omega)]
  rfl
def ndig4 (n : Nat) : List Nat := [n / 64, n / 16 % 4, n / 4 % 4, n % 4]
def ndigs (l : List Nat) : List Nat := l.flatMap ndig4 ++ ndig4 (csum (l.flatMap ndig4))
theorem ndigs_eq (d : B) : digs d = ndigs (nb d) := by
  have : body d = (nb d).flatMap ndig4 := by rw [body, nb, List.flatMap_map]; rfl
  rw [digs, ndigs, this]
  rfl
end Fast
end Go.Proofs.YtbgcnfikcddcpaaDoor
