/-
  The pure side of layer 2: SHA-256 as a function on lists of bytes, and streams as what they have read.
-/
import Derived.KernelRfl
namespace Go.Proofs.YtkaaejfochdjcaaDoor
namespace Sha
abbrev U := UInt32

def rr (x : U) (n : Nat) : U := UInt32.ofNat ((x.toNat * 2 ^ (32 - n) % 2 ^ 32) ||| (x.toNat / 2 ^ n))
def sr (x : U) (n : Nat) : U := UInt32.ofNat (x.toNat / 2 ^ n)
def K : List U := [
  0x428a2f98, 0x71374491, 0xb5c0fbcf, 0xe9b5dba5, 0x3956c25b, 0x59f111f1, 0x923f82a4, 0xab1c5ed5,
  0xd807aa98, 0x12835b01, 0x243185be, 0x550c7dc3, 0x72be5d74, 0x80deb1fe, 0x9bdc06a7, 0xc19bf174,
  0xe49b69c1, 0xefbe4786, 0x0fc19dc6, 0x240ca1cc, 0x2de92c6f, 0x4a7484aa, 0x5cb0a9dc, 0x76f988da,
  0x983e5152, 0xa831c66d, 0xb00327c8, 0xbf597fc7, 0xc6e00bf3, 0xd5a79147, 0x06ca6351, 0x14292967,
  0x27b70a85, 0x2e1b2138, 0x4d2c6dfc, 0x53380d13, 0x650a7354, 0x766a0abb, 0x81c2c92e, 0x92722c85,
  0xa2bfe8a1, 0xa81a664b, 0xc24b8b70, 0xc76c51a3, 0xd192e819, 0xd6990624, 0xf40e3585, 0x106aa070,
  0x19a4c116, 0x1e376c08, 0x2748774c, 0x34b0bcb5, 0x391c0cb3, 0x4ed8aa4a, 0x5b9cca4f, 0x682e6ff3,
  0x748f82ee, 0x78a5636f, 0x84c87814, 0x8cc70208, 0x90befffa, 0xa4506ceb, 0xbef9a3f7, 0xc67178f2]
def IV : List U := [0x6a09e667, 0xbb67ae85, 0x3c6ef372, 0xa54ff53a, 0x510e527f, 0x9b05688c, 0x1f83d9ab, 0x5be0cd19]
def Kt (t : Nat) : U := K.getD t 0

structure S8 where
  a : U
  b : U
  c : U
  d : U
  e : U
  f : U
  g : U
  h : U
def xx (e f g h k w : U) : U := h + (rr e 6 ^^^ rr e 11 ^^^ rr e 25) + ((e &&& f) ^^^ (~~~ e &&& g)) + k + w
def yy (a b c : U) : U := (rr a 2 ^^^ rr a 13 ^^^ rr a 22) + ((a &&& b) ^^^ (a &&& c) ^^^ (b &&& c))
def rnd (k w : U) (s : S8) : S8 := ⟨xx s.e s.f s.g s.h k w + yy s.a s.b s.c, s.a, s.b, s.c, s.d + xx s.e s.f s.g s.h k w, s.e, s.f, s.g⟩
def rnds (W : List U) : Nat → S8 → S8
  | 0, s => s
  | t + 1, s => rnd (Kt t) (W.getD t 0) (rnds W t s)
def ofL (V : List U) : S8 := ⟨V.getD 0 0, V.getD 1 0, V.getD 2 0, V.getD 3 0, V.getD 4 0, V.getD 5 0, V.getD 6 0, V.getD 7 0⟩
def toL (s : S8) : List U := [s.a, s.b, s.c, s.d, s.e, s.f, s.g, s.h]
def addL (V X : List U) : List U := List.zipWith (· + ·) V X

/-- The word of the first j of four bytes. -/
def pw (l : List UInt8) : U := l.foldl (fun a c => UInt32.ofNat ((a.toNat * 256 % 2 ^ 32) ||| c.toNat)) 0
def word (b : List UInt8) (t : Nat) : U := pw ((b.drop (4 * t)).take 4)
def W0 (b : List UInt8) (k : Nat) : List U := (List.range k).map (word b) ++ List.replicate (64 - k) 0
def s0 (x : U) : U := rr x 7 ^^^ rr x 18 ^^^ sr x 3
def s1 (x : U) : U := rr x 17 ^^^ rr x 19 ^^^ sr x 10
def ext (t : Nat) (L : List U) : List U := L.set t (L.getD (t - 16) 0 + s0 (L.getD (t - 15) 0) + L.getD (t - 7) 0 + s1 (L.getD (t - 2) 0))
def exts : Nat → List U → List U
  | 0, L => L
  | k + 1, L => ext (16 + k) (exts k L)
def sched (b : List UInt8) : List U := exts 48 (W0 b 16)
def comp (V : List U) (b : List UInt8) : List U := addL V (toL (rnds (sched b) 64 (ofL V)))

/-- The hash value behind k blocks. -/
def hvN : Nat → List U → List UInt8 → List U
  | 0, V, _ => V
  | k + 1, V, m => hvN k (comp V (m.take 64)) (m.drop 64)
def hv (m : List UInt8) : List U := hvN (m.length / 64) IV m
def len8 (n : Nat) : List UInt8 := (List.range 8).map fun i => UInt8.ofNat (8 * n / 2 ^ (56 - 8 * i))
/-- The zeros between the byte 128 and the length. -/
def gap (n : Nat) : Nat := (119 - n % 64) % 64
def padded (m : List UInt8) : List UInt8 := m ++ [128] ++ List.replicate (gap m.length) 0 ++ len8 m.length
def outb (V : List U) : List UInt8 := (List.range 32).map fun i => UInt8.ofNat ((V.getD (i / 4) 0).toNat / 2 ^ (24 - 8 * (i % 4)))
def sha (m : List UInt8) : List UInt8 := outb (hv (padded m))
theorem W0_length (b : List UInt8) (k : Nat) (h : k ≤ 64) : (W0 b k).length = 64 := by simp [W0]; omega
theorem W0_set (b : List UInt8) (k : Nat) (h : k < 64) : (W0 b k).set k (word b k) = W0 b (k + 1) := by
  have e : 64 - k = (64 - (k + 1)) + 1 := by omega
  unfold W0
  rw [List.set_append_right _ _ (by simp), List.range_succ, e, List.replicate_succ]
  simp
theorem W0_zero (b : List UInt8) (k : Nat) (h : k < 64) : (W0 b k).set k 0 = W0 b k := by
  have e : 64 - k = (64 - (k + 1)) + 1 := by omega
  unfold W0
  rw [List.set_append_right _ _ (by simp), e, List.replicate_succ]
  simp
theorem pw_snoc (l : List UInt8) (c : UInt8) : pw (l ++ [c]) = UInt32.ofNat (((pw l).toNat * 256 % 2 ^ 32) ||| c.toNat) := by simp [pw]
theorem ext_length (t : Nat) (L : List U) : (ext t L).length = L.length := by simp [ext]
theorem exts_length (k : Nat) (L : List U) : (exts k L).length = L.length := by
  induction k with
  | zero => rfl
  | succ k ih => rw [exts, ext_length, ih]
theorem sched_length (b : List UInt8) : (sched b).length = 64 := by rw [sched, exts_length, W0_length _ _ (by omega)]
theorem toL_length (s : S8) : (toL s).length = 8 := rfl
theorem addL_length (V X : List U) (hv : V.length = 8) (hx : X.length = 8) : (addL V X).length = 8 := by simp [addL, hv, hx]
theorem comp_length (V : List U) (b : List UInt8) (hv : V.length = 8) : (comp V b).length = 8 := addL_length _ _ hv (toL_length _)
theorem K_length : K.length = 64 := rfl
theorem rnds_zero (W : List U) (s : S8) : rnds W 0 s = s := rfl
theorem rnds_succ (W : List U) (t : Nat) (s : S8) : rnds W (t + 1) s = rnd (Kt t) (W.getD t 0) (rnds W t s) := rfl
attribute [irreducible] sched exts comp rnds hvN hv sha padded
end Sha
end Go.Proofs.YtkaaejfochdjcaaDoor
