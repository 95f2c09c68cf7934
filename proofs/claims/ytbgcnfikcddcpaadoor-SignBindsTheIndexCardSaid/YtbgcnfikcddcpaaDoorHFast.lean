/-
  SHA-256 over numbers, in a form that the kernel evaluates quickly (each number is brought to a literal as soon as it is made), and that it is the function of the pure side.
-/
import Derived.Test.YtbgcnfikcddcpaaDoorHStr
import Derived.Test.YtbgcnfikcddcpaaDoorHSum
namespace Go.Proofs.YtbgcnfikcddcpaaDoor
set_option linter.unusedVariables false
namespace Fast
open Sha (U)
/-- k of n, n brought to a literal first. -/
def F {α : Type} (n : Nat) (k : Nat → α) : α := Nat.casesOn n (k 0) (fun m => k (Nat.succ m))
theorem F_eq {α : Type} (n : Nat) (k : Nat → α) : F n k = k n := by cases n <;> rfl
def rr (x p q : Nat) : Nat := Nat.lor (Nat.mod (Nat.mul x p) 4294967296) (Nat.div x q)
def xx (e f g h k w : Nat) : Nat := Nat.add (Nat.add (Nat.add (Nat.add h (Nat.xor (Nat.xor (rr e 67108864 64) (rr e 2097152 2048)) (rr e 128 33554432))) (Nat.xor (Nat.land e f) (Nat.land (Nat.sub 4294967295 e) g))) k) w
def yy (a b c : Nat) : Nat := Nat.add (Nat.xor (Nat.xor (rr a 1073741824 4) (rr a 524288 8192)) (rr a 1024 4194304)) (Nat.xor (Nat.xor (Nat.land a b) (Nat.land a c)) (Nat.land b c))
def s0 (x : Nat) : Nat := Nat.xor (Nat.xor (rr x 33554432 128) (rr x 16384 262144)) (Nat.div x 8)
def s1 (x : Nat) : Nat := Nat.xor (Nat.xor (rr x 32768 131072) (rr x 8192 524288)) (Nat.div x 1024)
def go : List Nat → Nat → Nat → Nat → Nat → Nat → Nat → Nat → Nat → Nat → Nat → Nat → Nat → Nat → Nat → Nat → Nat → Nat → Nat → Nat → Nat → Nat → Nat → Nat → Nat → List Nat
  | [], _, _, _, _, _, _, _, _, _, _, _, _, _, _, _, _, a, b, c, d, e, f, g, h => [a, b, c, d, e, f, g, h]
  | k :: ks, w0, w1, w2, w3, w4, w5, w6, w7, w8, w9, w10, w11, w12, w13, w14, w15, a, b, c, d, e, f, g, h =>
    F (xx e f g h k w0) fun t => F (Nat.mod (Nat.add t (yy a b c)) 4294967296) fun a' => F (Nat.mod (Nat.add d t) 4294967296) fun e' =>
    F (Nat.mod (Nat.add (Nat.add (Nat.add w0 (s0 w1)) w9) (s1 w14)) 4294967296) fun w16 =>
    go ks w1 w2 w3 w4 w5 w6 w7 w8 w9 w10 w11 w12 w13 w14 w15 w16 a' a b c e' e f g
def K : List Nat := [1116352408, 1899447441, 3049323471, 3921009573, 961987163, 1508970993, 2453635748, 2870763221, 3624381080, 310598401, 607225278, 1426881987, 1925078388, 2162078206, 2614888103, 3248222580, 3835390401, 4022224774, 264347078, 604807628, 770255983, 1249150122, 1555081692, 1996064986, 2554220882, 2821834349, 2952996808, 3210313671, 3336571891, 3584528711, 113926993, 338241895, 666307205, 773529912, 1294757372, 1396182291, 1695183700, 1986661051, 2177026350, 2456956037, 2730485921, 2820302411, 3259730800, 3345764771, 3516065817, 3600352804, 4094571909, 275423344, 430227734, 506948616, 659060556, 883997877, 958139571, 1322822218, 1537002063, 1747873779, 1955562222, 2024104815, 2227730452, 2361852424, 2428436474, 2756734187, 3204031479, 3329325298]
def IV : List Nat := [1779033703, 3144134277, 1013904242, 2773480762, 1359893119, 2600822924, 528734635, 1541459225]
def addL : List Nat → List Nat → List Nat
  | a :: p, b :: q => F (Nat.mod (Nat.add a b) 4294967296) fun x => x :: addL p q
  | _, _ => []
def comp : List Nat → List Nat → List Nat
  | [a, b, c, d, e, f, g, h], [w0, w1, w2, w3, w4, w5, w6, w7, w8, w9, w10, w11, w12, w13, w14, w15] => addL [a, b, c, d, e, f, g, h] (go K w0 w1 w2 w3 w4 w5 w6 w7 w8 w9 w10 w11 w12 w13 w14 w15 a b c d e f g h)
  | _, _ => []
def toW : List Nat → List Nat
  | a :: b :: c :: d :: r => F (Nat.add (Nat.mul (Nat.add (Nat.mul (Nat.add (Nat.mul a 256) b) 256) c) 256) d) fun x => x :: toW r
  | _ => []
def hvN : Nat → List Nat → List Nat → List Nat
  | 0, V, _ => V
  | k + 1, V, m => hvN k (comp V (toW (m.take 64))) (m.drop 64)
def nout : List Nat → List Nat
  | v :: r => F (Nat.mod (Nat.div v 16777216) 256) fun a => F (Nat.mod (Nat.div v 65536) 256) fun b => F (Nat.mod (Nat.div v 256) 256) fun c => F (Nat.mod v 256) fun d => a :: b :: c :: d :: nout r
  | [] => []
def nlen8 (n : Nat) : List Nat := (List.range 8).map fun i => 8 * n / 2 ^ (56 - 8 * i) % 256
def npad (m : List Nat) : List Nat := m ++ [128] ++ List.replicate (Sha.gap m.length) 0 ++ nlen8 m.length
def nsha (m : List Nat) : List Nat := nout (hvN ((npad m).length / 64) IV (npad m))

/-! ## it is the function of the pure side -/
def nu (l : List U) : List Nat := l.map UInt32.toNat
def nb (l : List UInt8) : List Nat := l.map UInt8.toNat
theorem nb_append (a b : List UInt8) : nb (a ++ b) = nb a ++ nb b := by simp [nb]
theorem nb_length (a : List UInt8) : (nb a).length = a.length := by simp [nb]
theorem nb_inj {a b : List UInt8} (h : nb a = nb b) : a = b := List.map_inj_right (fun _ _ h => UInt8.toNat_inj.1 h) |>.1 h
theorem rr_eq (x : U) (n : Nat) (h1 : n ≤ 32) : (Sha.rr x n).toNat = rr x.toNat (2 ^ (32 - n)) (2 ^ n) := by
  have hx := x.toNat_lt
  have hd : x.toNat / 2 ^ n ≤ x.toNat := Nat.div_le_self _ _
  have hm : x.toNat * 2 ^ (32 - n) % 2 ^ 32 < 2 ^ 32 := Nat.mod_lt _ (by omega)
  have ho := Nat.or_lt_two_pow (n := 32) hm (Nat.lt_of_le_of_lt hd hx)
  show (UInt32.ofNat _).toNat = _
  rw [UInt32.toNat_ofNat', Nat.mod_eq_of_lt ho]
  rfl
theorem sr_eq (x : U) (n : Nat) : (Sha.sr x n).toNat = x.toNat / 2 ^ n := by
  have hd : x.toNat / 2 ^ n ≤ x.toNat := Nat.div_le_self _ _
  have hx := x.toNat_lt
  show (UInt32.ofNat _).toNat = _
  rw [UInt32.toNat_ofNat', Nat.mod_eq_of_lt (by omega)]
theorem not_eq (x : U) : (~~~ x).toNat = 4294967295 - x.toNat := by
  rw [UInt32.toNat_not]; rfl
theorem xx_eq (e f g h k w : U) : (Sha.xx e f g h k w).toNat = xx e.toNat f.toNat g.toNat h.toNat k.toNat w.toNat % 4294967296 := by
  simp only [Sha.xx, UInt32.toNat_add, UInt32.toNat_xor, UInt32.toNat_and, not_eq, rr_eq _ 6 (by omega), rr_eq _ 11 (by omega), rr_eq _ 25 (by omega)]
  show _ = (h.toNat + (rr e.toNat 67108864 64 ^^^ rr e.toNat 2097152 2048 ^^^ rr e.toNat 128 33554432) + ((e.toNat &&& f.toNat) ^^^ ((4294967295 - e.toNat) &&& g.toNat)) + k.toNat + w.toNat) % 4294967296
  simp only [show (2 : Nat) ^ 32 = 4294967296 from rfl, show (2 : Nat) ^ (32 - 6) = 67108864 from rfl, show (2 : Nat) ^ 6 = 64 from rfl, show (2 : Nat) ^ (32 - 11) = 2097152 from rfl, show (2 : Nat) ^ 11 = 2048 from rfl, show (2 : Nat) ^ (32 - 25) = 128 from rfl, show (2 : Nat) ^ 25 = 33554432 from rfl]
  omega
theorem yy_eq (a b c : U) : (Sha.yy a b c).toNat = yy a.toNat b.toNat c.toNat % 4294967296 := by
  simp only [Sha.yy, UInt32.toNat_add, UInt32.toNat_xor, UInt32.toNat_and, rr_eq _ 2 (by omega), rr_eq _ 13 (by omega), rr_eq _ 22 (by omega)]
  rfl
theorem s0_eq (x : U) : (Sha.s0 x).toNat = s0 x.toNat := by
  simp only [Sha.s0, UInt32.toNat_xor, rr_eq _ 7 (by omega), rr_eq _ 18 (by omega), sr_eq]
  rfl
theorem s1_eq (x : U) : (Sha.s1 x).toNat = s1 x.toNat := by
  simp only [Sha.s1, UInt32.toNat_xor, rr_eq _ 17 (by omega), rr_eq _ 19 (by omega), sr_eq]
  rfl
theorem K_eq : nu Sha.K = K := by kernel_rfl
theorem IV_eq : nu Sha.IV = IV := by kernel_rfl
theorem Kt_eq (t : Nat) (h : t < 64) : K.drop t = (Sha.Kt t).toNat :: K.drop (t + 1) := by
  have hl : K.length = 64 := rfl
  rw [List.drop_eq_getElem_cons (by omega)]
  congr 1
  have h2 := congrArg (fun l => l[t]?) K_eq
  have hk : t < Sha.K.length := by rw [Sha.K_length]; exact h
  simp only [nu, List.getElem?_map, List.getElem?_eq_getElem hk, List.getElem?_eq_getElem (show t < K.length by omega), Option.map_some, Option.some.injEq] at h2
  rw [← h2, Sha.Kt]
  simp [List.getD, hk]

theorem exts_zero (L : List U) : Sha.exts 0 L = L := by rw [Sha.exts]
theorem exts_succ (k : Nat) (L : List U) : Sha.exts (k + 1) L = Sha.ext (16 + k) (Sha.exts k L) := by rw [Sha.exts]
theorem ext_other (t : Nat) (L : List U) (j : Nat) (h : j ≠ t) : (Sha.ext t L).getD j 0 = L.getD j 0 := by
  simp only [Sha.ext, List.getD]
  rw [List.getElem?_set_ne (by omega)]
theorem exts_keep (k m : Nat) (L : List U) (j : Nat) (h : j < 16 + k) : (Sha.exts (k + m) L).getD j 0 = (Sha.exts k L).getD j 0 := by
  induction m with
  | zero => rfl
  | succ m ih => rw [← Nat.add_assoc, exts_succ, ext_other _ _ _ (by omega), ih]
theorem sched_eq (b : List UInt8) : Sha.sched b = Sha.exts 48 (Sha.W0 b 16) := by rw [Sha.sched]
theorem sched_low (b : List UInt8) (j : Nat) (h : j < 16) : (Sha.sched b).getD j 0 = Sha.word b j := by
  rw [sched_eq, show 48 = 0 + 48 from rfl, exts_keep 0 48 _ j (by omega), exts_zero, Sha.W0]
  simp [List.getD, List.getElem?_append, h]
theorem sched_rec (b : List UInt8) (u : Nat) (h1 : u + 16 < 64) : (Sha.sched b).getD (u + 16) 0 = (Sha.sched b).getD u 0 + Sha.s0 ((Sha.sched b).getD (u + 1) 0) + (Sha.sched b).getD (u + 9) 0 + Sha.s1 ((Sha.sched b).getD (u + 14) 0) := by
  have key : ∀ j, j < 16 + u → (Sha.sched b).getD j 0 = (Sha.exts u (Sha.W0 b 16)).getD j 0 := fun j hj => by
    rw [sched_eq, show 48 = u + (48 - u) from by omega, exts_keep u (48 - u) _ j hj]
  rw [key u (by omega), key (u + 1) (by omega), key (u + 9) (by omega), key (u + 14) (by omega)]
  rw [sched_eq, show 48 = (u + 1) + (47 - u) from by omega, exts_keep (u + 1) (47 - u) _ (u + 16) (by omega), exts_succ]
  have hl : (Sha.exts u (Sha.W0 b 16)).length = 64 := by rw [Sha.exts_length, Sha.W0_length _ _ (by omega)]
  simp only [Sha.ext, List.getD]
  rw [show 16 + u = u + 16 from by omega, List.getElem?_set_self (by omega), show u + 16 - 16 = u from by omega, show u + 16 - 15 = u + 1 from by omega, show u + 16 - 7 = u + 9 from by omega, show u + 16 - 2 = u + 14 from by omega]
  rfl

def S8n (s : Sha.S8) : List Nat := nu (Sha.toL s)
theorem go_cons (k : Nat) (ks : List Nat) (w0 w1 w2 w3 w4 w5 w6 w7 w8 w9 w10 w11 w12 w13 w14 w15 a b c d e f g h : Nat) :
    go (k :: ks) w0 w1 w2 w3 w4 w5 w6 w7 w8 w9 w10 w11 w12 w13 w14 w15 a b c d e f g h =
    go ks w1 w2 w3 w4 w5 w6 w7 w8 w9 w10 w11 w12 w13 w14 w15 ((w0 + s0 w1 + w9 + s1 w14) % 4294967296) ((xx e f g h k w0 + yy a b c) % 4294967296) a b c ((d + xx e f g h k w0) % 4294967296) e f g := by
  rw [go]
  simp only [F_eq]
  rfl
theorem go_all (b : List UInt8) (s : Sha.S8) : ∀ (n t : Nat), n + t = 64 → ∀ (w0 w1 w2 w3 w4 w5 w6 w7 w8 w9 w10 w11 w12 w13 w14 w15 : Nat),
    (t < 64 → w0 = ((Sha.sched b).getD t 0).toNat) → (t + 1 < 64 → w1 = ((Sha.sched b).getD (t + 1) 0).toNat) → (t + 2 < 64 → w2 = ((Sha.sched b).getD (t + 2) 0).toNat) → (t + 3 < 64 → w3 = ((Sha.sched b).getD (t + 3) 0).toNat) →
    (t + 4 < 64 → w4 = ((Sha.sched b).getD (t + 4) 0).toNat) → (t + 5 < 64 → w5 = ((Sha.sched b).getD (t + 5) 0).toNat) → (t + 6 < 64 → w6 = ((Sha.sched b).getD (t + 6) 0).toNat) → (t + 7 < 64 → w7 = ((Sha.sched b).getD (t + 7) 0).toNat) →
    (t + 8 < 64 → w8 = ((Sha.sched b).getD (t + 8) 0).toNat) → (t + 9 < 64 → w9 = ((Sha.sched b).getD (t + 9) 0).toNat) → (t + 10 < 64 → w10 = ((Sha.sched b).getD (t + 10) 0).toNat) → (t + 11 < 64 → w11 = ((Sha.sched b).getD (t + 11) 0).toNat) →
    (t + 12 < 64 → w12 = ((Sha.sched b).getD (t + 12) 0).toNat) → (t + 13 < 64 → w13 = ((Sha.sched b).getD (t + 13) 0).toNat) → (t + 14 < 64 → w14 = ((Sha.sched b).getD (t + 14) 0).toNat) → (t + 15 < 64 → w15 = ((Sha.sched b).getD (t + 15) 0).toNat) →
    go (K.drop t) w0 w1 w2 w3 w4 w5 w6 w7 w8 w9 w10 w11 w12 w13 w14 w15 (Sha.rnds (Sha.sched b) t s).a.toNat (Sha.rnds (Sha.sched b) t s).b.toNat (Sha.rnds (Sha.sched b) t s).c.toNat (Sha.rnds (Sha.sched b) t s).d.toNat (Sha.rnds (Sha.sched b) t s).e.toNat (Sha.rnds (Sha.sched b) t s).f.toNat (Sha.rnds (Sha.sched b) t s).g.toNat (Sha.rnds (Sha.sched b) t s).h.toNat = S8n (Sha.rnds (Sha.sched b) 64 s) := by
  intro n
  induction n with
  | zero =>
    intro t ht w0 w1 w2 w3 w4 w5 w6 w7 w8 w9 w10 w11 w12 w13 w14 w15 _ _ _ _ _ _ _ _ _ _ _ _ _ _ _ _
    obtain rfl : t = 64 := by omega
    rw [List.drop_of_length_le (by decide)]
    rfl
  | succ n ih =>
    intro t ht w0 w1 w2 w3 w4 w5 w6 w7 w8 w9 w10 w11 w12 w13 w14 w15 h0 h1 h2 h3 h4 h5 h6 h7 h8 h9 h10 h11 h12 h13 h14 h15
    rw [Kt_eq t (by omega), go_cons]
    have e0 := h0 (by omega)
    have hr := Sha.rnds_succ (Sha.sched b) t s
    have e : ∀ X Y : Nat, X = ((Sha.rnds (Sha.sched b) (t + 1) s).a).toNat → Y = ((Sha.rnds (Sha.sched b) (t + 1) s).e).toNat →
        go (K.drop (t + 1)) w1 w2 w3 w4 w5 w6 w7 w8 w9 w10 w11 w12 w13 w14 w15 ((w0 + s0 w1 + w9 + s1 w14) % 4294967296) X (Sha.rnds (Sha.sched b) t s).a.toNat (Sha.rnds (Sha.sched b) t s).b.toNat (Sha.rnds (Sha.sched b) t s).c.toNat Y (Sha.rnds (Sha.sched b) t s).e.toNat (Sha.rnds (Sha.sched b) t s).f.toNat (Sha.rnds (Sha.sched b) t s).g.toNat = S8n (Sha.rnds (Sha.sched b) 64 s) := by
      intro X Y hX hY
      subst hX hY
      have hi := ih (t + 1) (by omega) w1 w2 w3 w4 w5 w6 w7 w8 w9 w10 w11 w12 w13 w14 w15 ((w0 + s0 w1 + w9 + s1 w14) % 4294967296) h1 (fun h => h2 (by omega)) (fun h => h3 (by omega)) (fun h => h4 (by omega)) (fun h => h5 (by omega)) (fun h => h6 (by omega)) (fun h => h7 (by omega)) (fun h => h8 (by omega)) (fun h => h9 (by omega)) (fun h => h10 (by omega)) (fun h => h11 (by omega)) (fun h => h12 (by omega)) (fun h => h13 (by omega)) (fun h => h14 (by omega)) (fun h => h15 (by omega)) ?_
      · rw [hr] at hi ⊢
        exact hi
      · intro hlt
        have h16 := sched_rec b t (by omega)
        rw [show t + 1 + 15 = t + 16 from by omega, h16]
        rw [UInt32.toNat_add, UInt32.toNat_add, UInt32.toNat_add, s0_eq, s1_eq, e0, h1 (by omega), h9 (by omega), h14 (by omega)]
        rw [show (2 : Nat) ^ 32 = 4294967296 from rfl]
        omega
    refine e _ _ ?_ ?_
    · rw [hr]
      show _ = (Sha.xx _ _ _ _ _ _ + Sha.yy _ _ _).toNat
      rw [UInt32.toNat_add, xx_eq, yy_eq, e0]
      rw [show (2 : Nat) ^ 32 = 4294967296 from rfl]
      omega
    · rw [hr]
      show _ = (_ + Sha.xx _ _ _ _ _ _).toNat
      rw [UInt32.toNat_add, xx_eq, e0]
      rw [show (2 : Nat) ^ 32 = 4294967296 from rfl]
      omega
theorem addL_eq : ∀ (V X : List U), addL (nu V) (nu X) = nu (Sha.addL V X)
  | [], X => by cases X <;> rfl
  | a :: V, [] => rfl
  | a :: V, b :: X => by
    have ih := addL_eq V X
    show addL (a.toNat :: nu V) (b.toNat :: nu X) = (a + b).toNat :: nu (Sha.addL V X)
    rw [addL, F_eq, ih, UInt32.toNat_add]
    rfl
theorem or_join (x c : Nat) (hx : x < 16777216) (hc : c < 256) : x * 256 % 2 ^ 32 ||| c = x * 256 + c := by
  rw [Nat.mod_eq_of_lt (by omega), Nat.mul_comm, show 256 = 2 ^ 8 from rfl, ← Nat.two_pow_add_eq_or_of_lt (by omega) x]
theorem pw4 (a b c d : UInt8) : (Sha.pw [a, b, c, d]).toNat = ((a.toNat * 256 + b.toNat) * 256 + c.toNat) * 256 + d.toNat := by
  have ha := a.toNat_lt; have hb := b.toNat_lt; have hc := c.toNat_lt; have hd := d.toNat_lt
  have e : ∀ (x : U) (c : UInt8), x.toNat < 16777216 → (UInt32.ofNat ((x.toNat * 256 % 2 ^ 32) ||| c.toNat)).toNat = x.toNat * 256 + c.toNat := fun x c hx => by
    have hc := c.toNat_lt
    rw [or_join _ _ hx hc, UInt32.toNat_ofNat', Nat.mod_eq_of_lt (by omega)]
  have e1 : (Sha.pw [a]).toNat = a.toNat := by
    show (UInt32.ofNat (((0 : U).toNat * 256 % 2 ^ 32) ||| a.toNat)).toNat = _
    rw [e _ _ (by decide)]; simp
  have e2 : (Sha.pw [a, b]).toNat = a.toNat * 256 + b.toNat := by
    show (UInt32.ofNat (((Sha.pw [a]).toNat * 256 % 2 ^ 32) ||| b.toNat)).toNat = _
    rw [e _ _ (by omega), e1]
  have e3 : (Sha.pw [a, b, c]).toNat = (a.toNat * 256 + b.toNat) * 256 + c.toNat := by
    show (UInt32.ofNat (((Sha.pw [a, b]).toNat * 256 % 2 ^ 32) ||| c.toNat)).toNat = _
    rw [e _ _ (by omega), e2]
  show (UInt32.ofNat (((Sha.pw [a, b, c]).toNat * 256 % 2 ^ 32) ||| d.toNat)).toNat = _
  rw [e _ _ (by omega), e3]
theorem toW_eq : ∀ (n : Nat) (l : List UInt8), l.length = 4 * n → toW (nb l) = (List.range n).map fun t => (Sha.word l t).toNat := by
  intro n
  induction n with
  | zero => intro l h; obtain rfl : l = [] := List.eq_nil_of_length_eq_zero (by omega); rfl
  | succ n ih =>
    intro l h
    match l, h with
    | a :: b :: c :: d :: r, h =>
      have hr : r.length = 4 * n := by simp only [List.length_cons] at h; omega
      show toW (a.toNat :: b.toNat :: c.toNat :: d.toNat :: nb r) = _
      rw [toW, F_eq, ih r hr, List.range_succ_eq_map, List.map_cons, List.map_map]
      congr 1
      · rw [Sha.word]
        exact (pw4 a b c d).symm
    | [], h => simp at h
    | [_], h => simp at h; omega
    | [_, _], h => simp at h; omega
    | [_, _, _], h => simp at h; omega
theorem comp_eq (V : List U) (b : List UInt8) (hV : V.length = 8) (hb : b.length = 64) : comp (nu V) (toW (nb b)) = nu (Sha.comp V b) := by
  rw [toW_eq 16 b (by omega)]
  match V, hV with
  | [a0, b0, c0, d0, e0, f0, g0, h0], _ =>
    show addL (nu [a0, b0, c0, d0, e0, f0, g0, h0]) (go K (Sha.word b 0).toNat (Sha.word b 1).toNat (Sha.word b 2).toNat (Sha.word b 3).toNat (Sha.word b 4).toNat (Sha.word b 5).toNat (Sha.word b 6).toNat (Sha.word b 7).toNat (Sha.word b 8).toNat (Sha.word b 9).toNat (Sha.word b 10).toNat (Sha.word b 11).toNat (Sha.word b 12).toNat (Sha.word b 13).toNat (Sha.word b 14).toNat (Sha.word b 15).toNat a0.toNat b0.toNat c0.toNat d0.toNat e0.toNat f0.toNat g0.toNat h0.toNat) = _
    have key := go_all b (Sha.ofL [a0, b0, c0, d0, e0, f0, g0, h0]) 64 0 rfl (Sha.word b 0).toNat (Sha.word b 1).toNat (Sha.word b 2).toNat (Sha.word b 3).toNat (Sha.word b 4).toNat (Sha.word b 5).toNat (Sha.word b 6).toNat (Sha.word b 7).toNat (Sha.word b 8).toNat (Sha.word b 9).toNat (Sha.word b 10).toNat (Sha.word b 11).toNat (Sha.word b 12).toNat (Sha.word b 13).toNat (Sha.word b 14).toNat (Sha.word b 15).toNat
      (fun _ => by rw [sched_low b _ (by omega)]) (fun _ => by rw [sched_low b _ (by omega)]) (fun _ => by rw [sched_low b _ (by omega)]) (fun _ => by rw [sched_low b _ (by omega)]) (fun _ => by rw [sched_low b _ (by omega)]) (fun _ => by rw [sched_low b _ (by omega)]) (fun _ => by rw [sched_low b _ (by omega)]) (fun _ => by rw [sched_low b _ (by omega)]) (fun _ => by rw [sched_low b _ (by omega)]) (fun _ => by rw [sched_low b _ (by omega)]) (fun _ => by rw [sched_low b _ (by omega)]) (fun _ => by rw [sched_low b _ (by omega)]) (fun _ => by rw [sched_low b _ (by omega)]) (fun _ => by rw [sched_low b _ (by omega)]) (fun _ => by rw [sched_low b _ (by omega)]) (fun _ => by rw [sched_low b _ (by omega)])
    rw [Sha.rnds_zero] at key
    rw [show go K (Sha.word b 0).toNat (Sha.word b 1).toNat (Sha.word b 2).toNat (Sha.word b 3).toNat (Sha.word b 4).toNat (Sha.word b 5).toNat (Sha.word b 6).toNat (Sha.word b 7).toNat (Sha.word b 8).toNat (Sha.word b 9).toNat (Sha.word b 10).toNat (Sha.word b 11).toNat (Sha.word b 12).toNat (Sha.word b 13).toNat (Sha.word b 14).toNat (Sha.word b 15).toNat a0.toNat b0.toNat c0.toNat d0.toNat e0.toNat f0.toNat g0.toNat h0.toNat = _ from key]
    rw [S8n, addL_eq, Sha.comp]
theorem hvN_eq : ∀ (k : Nat) (V : List U) (m : List UInt8), V.length = 8 → 64 * k ≤ m.length → hvN k (nu V) (nb m) = nu (Sha.hvN k V m) := by
  intro k
  induction k with
  | zero => intro V m _ _; rw [Sha.hvN_zero]; rfl
  | succ k ih =>
    intro V m hV hm
    rw [Sha.hvN_succ, ← ih _ _ (Sha.comp_length V _ hV) (by rw [List.length_drop]; omega), ← comp_eq V (m.take 64) hV (by rw [List.length_take]; omega)]
    show hvN k (comp (nu V) (toW ((nb m).take 64))) ((nb m).drop 64) = _
    simp only [nb, List.map_take, List.map_drop]
theorem nout_eq (V : List U) (h : V.length = 8) : nout (nu V) = nb (Sha.outb V) := by
  match V, h with
  | [a, b, c, d, e, f, g, h], _ =>
    simp only [nu, List.map_cons, List.map_nil, nout, F_eq]
    simp [nb, Sha.outb, List.range, List.range.loop]
    refine ⟨?_, ?_, ?_, ?_, ?_, ?_, ?_, ?_, ?_, ?_, ?_, ?_, ?_, ?_, ?_, ?_, ?_, ?_, ?_, ?_, ?_, ?_, ?_, ?_, ?_, ?_, ?_, ?_, ?_, ?_, ?_, ?_⟩ <;> rfl
theorem len8_eq (n : Nat) : nb (Sha.len8 n) = nlen8 n := by
  simp only [nb, Sha.len8, nlen8, List.map_map]
  apply List.map_congr_left
  intro i _
  simp
theorem npad_eq (m : List UInt8) : npad (nb m) = nb (Sha.padded m) := by
  rw [Sha.padded, nb_append, nb_append, nb_append, len8_eq, npad, nb_length]
  simp [nb]
theorem nsha_eq (m : List UInt8) : nb (Sha.sha m) = nsha (nb m) := by
  have hp : (Sha.padded m).length / 64 * 64 ≤ (Sha.padded m).length := Nat.div_mul_le_self _ _
  rw [Sha.sha, Sha.hv, nsha, npad_eq, nb_length, ← IV_eq, hvN_eq _ _ _ rfl (by omega), nout_eq _ (Sha.hvN_length _ _ _ rfl)]
end Fast
end Go.Proofs.YtbgcnfikcddcpaaDoor
