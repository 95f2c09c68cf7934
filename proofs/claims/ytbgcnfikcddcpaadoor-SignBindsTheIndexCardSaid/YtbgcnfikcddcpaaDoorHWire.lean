/-
  wire.Bytes and the reference's Bytes, walked (layer 1's texts, for a seat that has no decoder of wire).
-/
import Derived.Test.YtbgcnfikcddcpaaDoorWBase2
import Derived.Deep.LoopGhost
import Derived.Deep.MidRow
import Derived.ScopeJumps
namespace Go.Proofs.YtbgcnfikcddcpaaDoor
open Go.RowKit
set_option linter.unusedVariables false
theorem below_next {w0 w w' : World} (h : Below w0.heap.size w0 w) (k : Below w.heap.size w w') : Below w0.heap.size w0 w' := h.trans (k.mono h.size)
theorem below_a1 (w : World) (o : Obj) : Below w.heap.size w (w.alloc o) := (Below.refl _ _).alloc (Nat.le_refl _) o
theorem below_a2 (w : World) (o o' : Obj) : Below w.heap.size w ((w.alloc o).alloc o') := (below_a1 w o).alloc (by simp) o'
theorem xor255 (c : Nat) (h : c < 256) : bits .xor .u8 255 (c : Int) = 255 - (c : Int) := by
  rw [show (255 : Int) = ((255 : Nat) : Int) from rfl, u8_xor_nat 255 c (by omega) h]
  have : 255 ^^^ c = 255 - c := by
    have H : ∀ c : Fin 256, 255 ^^^ c.val = 255 - c.val := by decide +kernel
    exact H ⟨c, h⟩
  rw [this]; omega
theorem xor255' (c : Nat) (h : c < 256) : bits .xor .u8 (c : Int) 255 = 255 - (c : Int) := by
  rw [show (255 : Int) = ((255 : Nat) : Int) from rfl, u8_xor_nat c 255 h (by omega)]
  have : c ^^^ 255 = 255 - c := by
    have H : ∀ c : Fin 256, c.val ^^^ 255 = 255 - c.val := by decide +kernel
    exact H ⟨c, h⟩
  rw [this]; omega
theorem xor0 (c : Nat) (h : c < 256) : bits .xor .u8 (c : Int) 0 = (c : Int) := by
  rw [show (0 : Int) = ((0 : Nat) : Int) from rfl, u8_xor_nat c 0 h (by omega)]
  simp
theorem not8 (k : Nat) (h : k ≤ 127) : bits .xor .u8 (if IntKind.u8.signed = true then -1 else IntKind.u8.max) (127 - (k : Int)) = 128 + (k : Int) := by
  have e : (127 - (k : Int)) = ((127 - k : Nat) : Int) := by omega
  show bits .xor .u8 255 _ = _
  rw [e, xor255 _ (by omega)]; omega



theorem Tryd.info5 : (Tryd.prog.info? 5).map (fun i => (i.zero, i.size, i.bytes)) = some (some (.int .u8 0), 1, 1) := by kernel_rfl

theorem notw (m : Nat) (hm : m ≤ 9223372036854775807) : bits .xor .u64 (if IntKind.u64.signed = true then -1 else IntKind.u64.max) (IntKind.u64.wrap (-1 - (m : Int))) = (m : Int) := by
  have e : IntKind.u64.wrap (-1 - (m : Int)) = ((18446744073709551615 - m : Nat) : Int) := by
    simp [IntKind.wrap, IntKind.bits, IntKind.signed]
    omega
  rw [e]
  show IntKind.u64.wrap ((BitVec.ofInt 64 18446744073709551615 ^^^ BitVec.ofInt 64 ((18446744073709551615 - m : Nat) : Int)).toNat : Int) = _
  have h1 : BitVec.ofInt 64 18446744073709551615 = BitVec.allOnes 64 := by decide
  rw [h1, BitVec.allOnes_xor, BitVec.toNat_not, ofInt_u64 _ (by omega)]
  simp [IntKind.wrap, IntKind.bits, IntKind.signed]
  omega

/-- What the loop keeps: g shifts are still to come. -/
def AppRel (neg : Bool) (w : World) (base k : Nat) (xs : List Value) (B : Option Nat) (L : Nat → List UInt8) (g : Nat) (s0 : Value) (wr : World) : Prop :=
  wr.ownsRow base 5 1 s0 (k + 1 + (L g).length) (xs ++ [.int .u8 0] ++ bs ((L g).map (flip neg))) ∧ Grew w wr B s0.ownBlock
theorem AppRel.next {neg : Bool} {w : World} {base k : Nat} {xs : List Value} {B : Option Nat} {L : Nat → List UInt8} {g q : Nat} {s0 v' : Value} {wr w1 : World} {o : Obj} (h : AppRel neg w base k xs B L (g + 1) s0 wr) (hL : L g = L (g + 1) ++ [UInt8.ofNat (q % 256)])
    (hown : w1.ownsRow base 5 1 v' (k + 1 + (L (g + 1)).length + 1) (xs ++ [.int .u8 0] ++ bs ((L (g + 1)).map (flip neg)) ++ [.int .u8 (if neg then 255 - (q : Int) % 256 else (q : Int) % 256)])) (hg : (wr.alloc o).grownBy w1 s0.ownBlock) (hb : v'.ownBlock = s0.ownBlock ∨ v'.ownBlock = some (wr.alloc o).heap.size) :
    AppRel neg w base k xs B L g v' w1 := by
  refine ⟨?_, (h.2.alloc o).append hg hb⟩
  have e : bs ((L g).map (flip neg)) = bs ((L (g + 1)).map (flip neg)) ++ [.int .u8 (if neg then 255 - (q : Int) % 256 else (q : Int) % 256)] := by
    rw [hL, List.map_append, bs_append]
    congr 1
    simp only [bs, by8, List.map_cons, List.map_nil, flip_toNat]
    have : (UInt8.ofNat (q % 256)).toNat = q % 256 := by simp
    rw [this]
    cases neg <;> simp <;> omega
  rw [e, hL, ← List.append_assoc, List.length_append]
  exact hown
theorem AppRel.same {neg : Bool} {w : World} {base k : Nat} {xs : List Value} {B : Option Nat} {L : Nat → List UInt8} {g : Nat} {s0 : Value} {wr : World} (h : AppRel neg w base k xs B L (g + 1) s0 wr) (hL : L (g + 1) = L g) : AppRel neg w base k xs B L g s0 wr := by
  unfold AppRel at h ⊢
  rw [hL] at h
  exact h
theorem AppRel.done {neg : Bool} {w : World} {base k g0 cap0 : Nat} {xs : List Value} {B : Option Nat} {L : Nat → List UInt8} {wr : World} {u : Value} (hx : xs.length = k) (h : AppRel neg w base k xs B L 0 (.slice (some ⟨g0, 0, none⟩) (k + 1 + (L 0).length) cap0) wr)
    (hu : u = by8 (flip neg (UInt8.ofNat (128 + (L 0).length)))) :
    (wr.setCell ⟨g0, k, none⟩ u).ownsRow base 5 1 (.slice (some ⟨g0, 0, none⟩) (k + 1 + (L 0).length) cap0) (k + (1 + (L 0).length)) (xs ++ bs (flip neg (UInt8.ofNat (128 + (L 0).length)) :: (L 0).map (flip neg))) ∧ Grew w (wr.setCell ⟨g0, k, none⟩ u) B (some g0) := by
  refine ⟨?_, h.2.setCell k u⟩
  have h1 := (h.1.stored k u).1
  have e : (xs ++ [Value.int .u8 0] ++ bs ((L 0).map (flip neg))).set k u = xs ++ bs (flip neg (UInt8.ofNat (128 + (L 0).length)) :: (L 0).map (flip neg)) := by
    rw [List.append_assoc, List.set_append_right _ _ (by omega), hu]
    simp [hx, bs]
  rw [e] at h1
  rw [← Nat.add_assoc]
  exact h1

set_option maxRecDepth 100000 in
set_option maxHeartbeats 1000000 in
theorem appendInt_pos (m base k c : Nat) (xs : List Value) (A : Option Addr) (w : World) (L : Nat → List UInt8) (hm : m ≤ 9223372036854775807) (hown : w.ownsRow base 5 1 (.slice A k c) k xs) (hk : k + 9 ≤ 70368744177664) (hbase : base ≤ w.heap.size)
    (hL8 : L 8 = []) (hLz : ∀ g, g < 8 → m / 2 ^ (8 * g) = 0 → L (g + 1) = L g) (hLp : ∀ g, g < 8 → m / 2 ^ (8 * g) ≠ 0 → L g = L (g + 1) ++ [UInt8.ofNat (m / 2 ^ (8 * g) % 256)]) (hLl : ∀ g, g ≤ 8 → (L g).length ≤ 8) :
    Calls Tryd.prog 55 #[.slice A k c, .int .i64 (m : Int)] w fun e w' => ∃ v', e = .returned v' ∧ w'.ownsRow base 5 1 v' (k + (1 + (L 0).length)) (xs ++ bs (flip false (UInt8.ofNat (128 + (L 0).length)) :: (L 0).map (flip false))) ∧ Grew w w' (Value.slice A k c).ownBlock v'.ownBlock := by
  obtain ⟨i0, hi0, hz0, hz1, hz2⟩ := info_parts Tryd.info5
  have H8 := Lib.hid hL8; clear hL8
  have HZ := Lib.hid hLz; clear hLz
  have HP := Lib.hid hLp; clear hLp
  have HLL := Lib.hid hLl; clear hLl
  go_enter Tryd.func55, Tryd.ntmps55
  go_wp2_with fail
  go_step3
  go_wp2_with (at_builtin; refine wpList_own_src rfl (.tmp 18) (.tmp 19) 58 58 rfl base 5 i0 _ 1 1 Tryd.underlying58 hi0 hz0 hz1 hz2 rfl _ k xs rfl (hown.alloc _) _ 1 [.int .u8 0] rfl (src_one Tryd.underlying58 hz1 _ _ _ rfl) ?c1 ?c2 ?c3 ?_)
  case c1 => unfold maxLen; omega
  case c2 => omega
  case c3 => simp; omega
  intro v1 w1 hown1 hg1 hb1
  have HG : Hid (Grew w w1 (Value.slice A k c).ownBlock v1.ownBlock) := ((Grew.refl w _).alloc _).append hg1 (by simpa using hb1)
  clear hg1 hb1
  have HO := Lib.hid hown1; clear hown1
  go_wp2_with fail
  go_step3
  go_wp2_with fail
  go_loopg [0, 8] 8 (fun g s0 s8 wr => s8 = .int .i64 (8 * (g : Int) - 8) ∧ g ≤ 8 ∧ AppRel false w base k xs (Value.slice A k c).ownBlock L g s0 wr)
  case atStart => exact ⟨rfl, Nat.le_refl _, ⟨by rw [H8.out]; simpa [bs] using HO.out, HG.out⟩⟩
  case round =>
    obtain ⟨rfl, hg8, hrel⟩ := hrel
    have hbw : base ≤ wr.heap.size := Nat.le_trans hbase hrel.2.size
    have hll := HLL.out _ hg8
    cases gk with
    | zero =>
      obtain ⟨g0, cap0, rfl, hb0, hlt0⟩ := hrel.1.form (by omega)
      have hcell := hrel.1.cellAt k (by omega)
      have hfr := hrel.1.frozenAt k
      have hx0 : (xs ++ [Value.int .u8 0] ++ bs ((L 0).map (flip false)))[k]? = some (.int .u8 0) := by
        have hl := hown.1
        rw [List.append_assoc, List.getElem?_append_right (by omega)]
        simp [hl]
      rw [hx0] at hcell
      have HR := Lib.hid hrel; clear hrel
      have hxx : bits .xor .u8 (128 + ((k : Int) + 1 + ((L 0).length : Int) - (k : Int) - 1)) 0 = 128 + ((L 0).length : Int) := by
        rw [show (128 + ((k : Int) + 1 + ((L 0).length : Int) - (k : Int) - 1)) = ((128 + (L 0).length : Nat) : Int) from by omega, xor0 _ (by omega)]; omega
      go_wp2_with fail
      rw [Exit.noGoto_ret]
      go_ret
      have hof : (UInt8.ofNat (128 + (L 0).length)).toNat = 128 + (L 0).length := by simp; omega
      have hd := HR.out.done (by simpa using hown.1) (u := .int .u8 (128 + ((L 0).length : Int))) (by simp only [by8, flip_toNat, hof]; first | (congr 1; done) | (congr 1; simp; omega))
      exact ⟨_, rfl, hd.1, hd.2⟩
    | succ g =>
      obtain ⟨A0, c0, rfl, hrd0, hc0, hm0⟩ := Rd.of_own hrel.1
      have HR := Lib.hid hrel; clear hrel
      obtain ⟨s, hs, hs56, hsg⟩ : ∃ s : Nat, 8 * ((g + 1 : Nat) : Int) - 8 = (s : Int) ∧ s ≤ 56 ∧ s = 8 * g := ⟨8 * g, by omega, by omega, rfl⟩
      rw [hs]
      have HS := Lib.hid hsg; clear hs hsg
      obtain ⟨q, hq⟩ : ∃ q : Nat, q = m / 2 ^ s := ⟨_, rfl⟩
      have hq' : (m : Int) / 2 ^ s = (q : Int) := by rw [hq]; simp
      have HQ : Hid (q = m / 2 ^ (8 * g)) := by rw [← HS.out]; exact hq
      clear hq hrd0
      by_cases hz : q = 0
      · have hz' : ((q : Int) == 0) = true := by rw [beq_iff_eq]; omega
        have HZ0 := Lib.hid hz; clear hz
        go_wp2_with fail
        go_roundg g
        case rel => exact ⟨by have := HS.out; congr 1; omega, by omega, HR.out.same (HZ.out g (by omega) (by rw [← HQ.out]; exact HZ0.out))⟩
        case measure => omega
      · have hz' : ((q : Int) == 0) = false := by rw [beq_eq_false_iff_ne]; omega
        have hL := HP.out g (by omega) (by rw [← HQ.out]; exact hz)
        rw [← HQ.out] at hL
        have HL := Lib.hid hL; clear hL
        have hx := xor0 (q % 256) (by omega)
        rw [show ((q % 256 : Nat) : Int) = (q : Int) % 256 from by omega] at hx
        go_wp2_with (at_builtin; refine wpList_own_src rfl (.tmp 23) (.tmp 30) 58 58 rfl base 5 i0 _ 1 1 Tryd.underlying58 hi0 hz0 hz1 hz2 rfl _ _ _ rfl (HR.out.1.alloc _) _ 1 [.int .u8 ((q : Int) % 256)] rfl (src_one Tryd.underlying58 hz1 _ _ _ rfl) ?c1 ?c2 ?c3 ?_)
        case c1 => unfold maxLen; omega
        case c2 => omega
        case c3 => simp; omega
        intro v2 w2 hown2 hg2 hb2
        have HN : Hid (AppRel false w base k xs (Value.slice A k c).ownBlock L g v2 w2) := HR.out.next HL.out (by simpa using hown2) hg2 (by simpa using hb2)
        clear hown2 hg2 hb2
        go_wp2_with fail
        go_roundg g
        case rel => exact ⟨by have := HS.out; congr 1; omega, by omega, HN.out⟩
        case measure => omega

set_option maxRecDepth 100000 in
set_option maxHeartbeats 1000000 in
theorem appendInt_neg (m base k c : Nat) (xs : List Value) (A : Option Addr) (w : World) (L : Nat → List UInt8) (hm : m ≤ 9223372036854775807) (hown : w.ownsRow base 5 1 (.slice A k c) k xs) (hk : k + 9 ≤ 70368744177664) (hbase : base ≤ w.heap.size)
    (hL8 : L 8 = []) (hLz : ∀ g, g < 8 → m / 2 ^ (8 * g) = 0 → L (g + 1) = L g) (hLp : ∀ g, g < 8 → m / 2 ^ (8 * g) ≠ 0 → L g = L (g + 1) ++ [UInt8.ofNat (m / 2 ^ (8 * g) % 256)]) (hLl : ∀ g, g ≤ 8 → (L g).length ≤ 8) :
    Calls Tryd.prog 55 #[.slice A k c, .int .i64 (-1 - (m : Int))] w fun e w' => ∃ v', e = .returned v' ∧ w'.ownsRow base 5 1 v' (k + (1 + (L 0).length)) (xs ++ bs (flip true (UInt8.ofNat (128 + (L 0).length)) :: (L 0).map (flip true))) ∧ Grew w w' (Value.slice A k c).ownBlock v'.ownBlock := by
  obtain ⟨i0, hi0, hz0, hz1, hz2⟩ := info_parts Tryd.info5
  have H8 := Lib.hid hL8; clear hL8
  have hnot := notw m hm
  have HZ := Lib.hid hLz; clear hLz
  have HP := Lib.hid hLp; clear hLp
  have HLL := Lib.hid hLl; clear hLl
  go_enter Tryd.func55, Tryd.ntmps55
  go_wp2_with fail
  go_step3
  go_wp2_with (at_builtin; refine wpList_own_src rfl (.tmp 18) (.tmp 19) 58 58 rfl base 5 i0 _ 1 1 Tryd.underlying58 hi0 hz0 hz1 hz2 rfl _ k xs rfl (hown.alloc _) _ 1 [.int .u8 0] rfl (src_one Tryd.underlying58 hz1 _ _ _ rfl) ?c1 ?c2 ?c3 ?_)
  case c1 => unfold maxLen; omega
  case c2 => omega
  case c3 => simp; omega
  intro v1 w1 hown1 hg1 hb1
  have HG : Hid (Grew w w1 (Value.slice A k c).ownBlock v1.ownBlock) := ((Grew.refl w _).alloc _).append hg1 (by simpa using hb1)
  clear hg1 hb1
  have HO := Lib.hid hown1; clear hown1
  go_wp2_with fail
  go_step3
  go_wp2_with fail
  go_loopg [0, 8] 8 (fun g s0 s8 wr => s8 = .int .i64 (8 * (g : Int) - 8) ∧ g ≤ 8 ∧ AppRel true w base k xs (Value.slice A k c).ownBlock L g s0 wr)
  case atStart => exact ⟨rfl, Nat.le_refl _, ⟨by rw [H8.out]; simpa [bs] using HO.out, HG.out⟩⟩
  case round =>
    obtain ⟨rfl, hg8, hrel⟩ := hrel
    have hbw : base ≤ wr.heap.size := Nat.le_trans hbase hrel.2.size
    have hll := HLL.out _ hg8
    cases gk with
    | zero =>
      obtain ⟨g0, cap0, rfl, hb0, hlt0⟩ := hrel.1.form (by omega)
      have hcell := hrel.1.cellAt k (by omega)
      have hfr := hrel.1.frozenAt k
      have hx0 : (xs ++ [Value.int .u8 0] ++ bs ((L 0).map (flip true)))[k]? = some (.int .u8 0) := by
        have hl := hown.1
        rw [List.append_assoc, List.getElem?_append_right (by omega)]
        simp [hl]
      rw [hx0] at hcell
      have HR := Lib.hid hrel; clear hrel
      have hxx : bits .xor .u8 (128 + ((k : Int) + 1 + ((L 0).length : Int) - (k : Int) - 1)) 255 = 255 - (128 + ((L 0).length : Int)) := by
        rw [show (128 + ((k : Int) + 1 + ((L 0).length : Int) - (k : Int) - 1)) = ((128 + (L 0).length : Nat) : Int) from by omega, xor255' _ (by omega)]; omega
      go_wp2_with fail
      rw [Exit.noGoto_ret]
      go_ret
      have hof : (UInt8.ofNat (128 + (L 0).length)).toNat = 128 + (L 0).length := by simp; omega
      have hd := HR.out.done (by simpa using hown.1) (u := .int .u8 (255 - (128 + ((L 0).length : Int)))) (by simp only [by8, flip_toNat, hof]; first | (congr 1; done) | (congr 1; simp; omega))
      exact ⟨_, rfl, hd.1, hd.2⟩
    | succ g =>
      obtain ⟨A0, c0, rfl, hrd0, hc0, hm0⟩ := Rd.of_own hrel.1
      have HR := Lib.hid hrel; clear hrel
      obtain ⟨s, hs, hs56, hsg⟩ : ∃ s : Nat, 8 * ((g + 1 : Nat) : Int) - 8 = (s : Int) ∧ s ≤ 56 ∧ s = 8 * g := ⟨8 * g, by omega, by omega, rfl⟩
      rw [hs]
      have HS := Lib.hid hsg; clear hs hsg
      obtain ⟨q, hq⟩ : ∃ q : Nat, q = m / 2 ^ s := ⟨_, rfl⟩
      have hq' : (m : Int) / 2 ^ s = (q : Int) := by rw [hq]; simp
      have HQ : Hid (q = m / 2 ^ (8 * g)) := by rw [← HS.out]; exact hq
      clear hq hrd0
      by_cases hz : q = 0
      · have hz' : ((q : Int) == 0) = true := by rw [beq_iff_eq]; omega
        have HZ0 := Lib.hid hz; clear hz
        go_wp2_with fail
        go_roundg g
        case rel => exact ⟨by have := HS.out; congr 1; omega, by omega, HR.out.same (HZ.out g (by omega) (by rw [← HQ.out]; exact HZ0.out))⟩
        case measure => omega
      · have hz' : ((q : Int) == 0) = false := by rw [beq_eq_false_iff_ne]; omega
        have hL := HP.out g (by omega) (by rw [← HQ.out]; exact hz)
        rw [← HQ.out] at hL
        have HL := Lib.hid hL; clear hL
        have hx := xor255' (q % 256) (by omega)
        rw [show ((q % 256 : Nat) : Int) = (q : Int) % 256 from by omega] at hx
        go_wp2_with (at_builtin; refine wpList_own_src rfl (.tmp 23) (.tmp 30) 58 58 rfl base 5 i0 _ 1 1 Tryd.underlying58 hi0 hz0 hz1 hz2 rfl _ _ _ rfl (HR.out.1.alloc _) _ 1 [.int .u8 (255 - (q : Int) % 256)] rfl (src_one Tryd.underlying58 hz1 _ _ _ rfl) ?c1 ?c2 ?c3 ?_)
        case c1 => unfold maxLen; omega
        case c2 => omega
        case c3 => simp; omega
        intro v2 w2 hown2 hg2 hb2
        have HN : Hid (AppRel true w base k xs (Value.slice A k c).ownBlock L g v2 w2) := HR.out.next HL.out (by simpa using hown2) hg2 (by simpa using hb2)
        clear hown2 hg2 hb2
        go_wp2_with fail
        go_roundg g
        case rel => exact ⟨by have := HS.out; congr 1; omega, by omega, HN.out⟩
        case measure => omega

/-! ## both signs together -/

def Lbe (m g : Nat) : List UInt8 := be (8 - g) (m / 2 ^ (8 * g))
theorem pow_succ8 (m g : Nat) : m / 2 ^ (8 * (g + 1)) = m / 2 ^ (8 * g) / 256 := by
  rw [Nat.div_div_eq_div_mul, show (256 : Nat) = 2 ^ 8 from rfl, ← Nat.pow_add, show 8 * (g + 1) = 8 * g + 8 from by omega]
theorem Lbe_z (m g : Nat) (hg : g < 8) (hz : m / 2 ^ (8 * g) = 0) : Lbe m (g + 1) = Lbe m g := by
  unfold Lbe
  rw [pow_succ8, hz]
  simp [be_zero]
theorem Lbe_p (m g : Nat) (hg : g < 8) (hz : m / 2 ^ (8 * g) ≠ 0) : Lbe m g = Lbe m (g + 1) ++ [UInt8.ofNat (m / 2 ^ (8 * g) % 256)] := by
  unfold Lbe
  rw [pow_succ8, show 8 - g = (8 - (g + 1)) + 1 from by omega, be_pos (Nat.pos_of_ne_zero hz)]
theorem Lbe_8 (m : Nat) : Lbe m 8 = [] := rfl
theorem Lbe_0 (m : Nat) : Lbe m 0 = be 8 m := by simp [Lbe]
theorem Lbe_len (m g : Nat) (hg : g ≤ 8) : (Lbe m g).length ≤ 8 := Nat.le_trans (be_len _ _) (by omega)

theorem appendInt_any (n : Int) (hn : inI n) (base k c : Nat) (xs : List Value) (A : Option Addr) (w : World) (hown : w.ownsRow base 5 1 (.slice A k c) k xs) (hk : k + 9 ≤ 70368744177664) (hbase : base ≤ w.heap.size) :
    Calls Tryd.prog 55 #[.slice A k c, .int .i64 n] w fun e w' => ∃ v', e = .returned v' ∧ w'.ownsRow base 5 1 v' (k + (en n).length) (xs ++ bs (en n)) ∧ Grew w w' (Value.slice A k c).ownBlock v'.ownBlock := by
  unfold inI at hn
  by_cases h : n < 0
  · obtain ⟨m, hm⟩ : ∃ m : Nat, -1 - n = (m : Int) := ⟨(-1 - n).toNat, by omega⟩
    have e : en n = enS true m := by unfold en; rw [if_pos h, hm]; rfl
    have e2 : n = -1 - (m : Int) := by omega
    have H := appendInt_neg m base k c xs A w (Lbe m) (by omega) hown hk hbase (Lbe_8 m) (Lbe_z m) (Lbe_p m) (Lbe_len m)
    rw [Lbe_0] at H
    rw [e, enS_length, e2]
    exact H
  · obtain ⟨m, hm⟩ : ∃ m : Nat, n = (m : Int) := ⟨n.toNat, by omega⟩
    have e : en n = enS false m := by unfold en; rw [if_neg h, hm]; rfl
    have H := appendInt_pos m base k c xs A w (Lbe m) (by omega) hown hk hbase (Lbe_8 m) (Lbe_z m) (Lbe_p m) (Lbe_len m)
    rw [Lbe_0] at H
    rw [e, enS_length, hm]
    exact H

set_option maxHeartbeats 400000 in
theorem int_any (n : Int) (hn : inI n) (w : World) :
    Calls Tryd.prog 32 #[.int .i64 n] w fun e w' => ∃ v', e = .returned v' ∧ w'.ownsRow w.heap.size 5 1 v' (en n).length (bs (en n)) ∧ Below w.heap.size w w' := by
  have HN := Lib.hid hn; clear hn
  go_enter Tryd.func32, Tryd.ntmps32
  go_wp2_with fail
  refine (appendInt_any n HN.out w.heap.size 0 0 [] none w (World.ownsRow_nil _ _ _ _) (by omega) (Nat.le_refl _)).mono ?_
  rintro e w1 ⟨v, rfl, hown, hg⟩
  have HO := Lib.hid hown; clear hown
  go_wp2
  go_ret
  exact ⟨_, rfl, by simpa using HO.out, Grew.below (Below.refl _ _) hg (by simp [Value.ownBlock])⟩




def eB (s : List UInt8) : List UInt8 := en s.length ++ s
def eL (l : List Int) : List UInt8 := en l.length ++ l.flatMap en
def eS (l : List (List UInt8)) : List UInt8 := en l.length ++ l.flatMap eB
theorem en_len9 (n : Int) : (en n).length ≤ 9 := (en_length n).2
theorem inI_nat (n : Nat) (h : n ≤ 9223372036854775807) : inI (n : Int) := by unfold inI; omega
theorem flatMap_en_len (l : List Int) : (l.flatMap en).length ≤ 9 * l.length := by
  induction l with
  | nil => simp
  | cons a r ih => have := en_len9 a; simp only [List.flatMap_cons, List.length_append, List.length_cons]; omega

set_option maxHeartbeats 400000 in
theorem bytes_any (s : ByteArray) (w : World) (hs : s.size ≤ 1099511627776) :
    Calls Tryd.prog 60 #[.string s] w fun e w' => ∃ v', e = .returned v' ∧ w'.ownsRow w.heap.size 5 1 v' (eB s.data.toList).length (bs (eB s.data.toList)) ∧ Below w.heap.size w w' := by
  obtain ⟨i0, hi0, hz0, hz1, hz2⟩ := info_parts Tryd.info5
  have h9 := en_len9 s.size
  go_enter Tryd.func60, Tryd.ntmps60
  go_wp2_with fail
  refine (int_any s.size (inI_nat _ (by omega)) w).mono ?_
  rintro e w1 ⟨v1, rfl, hown, hb⟩
  have HO := Lib.hid hown; clear hown
  go_wp2_with (at_builtin; refine wpList_own_src rfl (.tmp 5) (.tmp 6) 58 9 rfl w.heap.size 5 i0 _ 1 1 Tryd.underlying58 hi0 hz0 hz1 hz2 rfl _ _ _ rfl HO.out _ s.size (byteCells s) rfl (by rw [hz1]; exact Src.ofString w1 Tryd.underlying9 s) ?c1 ?c2 ?c3 ?_)
  case c1 => unfold maxLen; omega
  case c2 => omega
  case c3 => exact hb.size
  intro v2 w2 hown2 hg2 hb2
  have HO2 := Lib.hid hown2; clear hown2
  go_wp2
  go_ret
  refine ⟨_, rfl, ?_, hb.grown hg2 hb.size (fun g hg => (HO.out.lt g hg).1)⟩
  have h := HO2.out
  rw [byteCells_bs, ← bs_append] at h
  have e : (eB s.data.toList).length = (en s.size).length + s.size := by simp [eB]
  rw [e]
  exact h



theorem own_mono {w : World} {base base' : Nat} {e : TypeId} {size n : Nat} {v : Value} {xs : List Value} (h : w.ownsRow base e size v n xs) (hb : base' ≤ base) : w.ownsRow base' e size v n xs := by
  refine ⟨h.1, ?_⟩
  rcases h.2 with h | ⟨g, cap, cur, hv, hg, r⟩
  · exact .inl h
  · exact .inr ⟨g, cap, cur, hv, Nat.le_trans hb hg, r⟩
theorem rd_cells0 {w : World} {A : Option Addr} {l : List UInt8} (h : Rd w A (bs l)) (i : Nat) (hi : i < l.length) : ∃ b o, A = some ⟨b, o, none⟩ ∧ w.cell? ⟨b, o + i, none⟩ = some (.int .u8 l[i].toNat) := by
  obtain ⟨b, o, e, hc⟩ := h.open (by intro e; have := congrArg List.length e; rw [bs_length, List.length_nil] at this; omega)
  exact ⟨b, o, e, hc i _ (bs_get hi)⟩

set_option maxRecDepth 100000 in
set_option maxHeartbeats 1000000 in
theorem rint_pos (m : Nat) (hm : m ≤ 9223372036854775807) (w : World) :
    Calls Tryd.prog 36 #[.int .i64 (m : Int)] w fun e w' => ∃ v', e = .returned v' ∧ w'.ownsRow w.heap.size 5 1 v' (enS false m).length (bs (enS false m)) ∧ Below w.heap.size w w' := by
  obtain ⟨i0, hi0, hz0, hz1, hz2⟩ := info_parts Tryd.info5
  have hlen8 := be_len 8 m
  obtain ⟨ES, hES⟩ : ∃ ES, enS false m = ES := ⟨_, rfl⟩
  have HES := Lib.hid hES
  rw [hES]
  clear hES
  go_enter Tryd.func36, Tryd.ntmps36
  go_wp2_with fail
  go_loopg [3, 4] 8 (fun g s3 s4 wr => ∃ (M : Nat) (D : List UInt8), D.length + g = 8 ∧ M ≤ 9223372036854775807 ∧ s3 = .int .i64 M ∧ Hid (be 8 m = be g M ++ D.reverse ∧ M < 256 ^ g) ∧ wr.ownsRow w.heap.size 5 1 s4 D.length (bs D) ∧ Below w.heap.size w wr)
  case atStart => exact ⟨m, [], rfl, hm, rfl, ⟨by simp, by omega⟩, World.ownsRow_nil _ _ _ _, Below.refl _ _⟩
  case round =>
    obtain ⟨M, D, hD, hM, rfl, HH, hown, hbr⟩ := hrel
    obtain ⟨A, c, rfl, hrd, hc, hmc⟩ := Rd.of_own hown
    have HO := Lib.hid hown; clear hown
    have HRD := Lib.hid hrd; clear hrd
    by_cases h0 : 0 < M
    · cases gk with
      | zero => have h := HH.out.2; simp at h; omega
      | succ g =>
        go_wp2_with (at_builtin; refine wpList_own_src rfl (.tmp 16) (.tmp 20) 58 58 rfl w.heap.size 5 i0 _ 1 1 Tryd.underlying58 hi0 hz0 hz1 hz2 rfl _ _ _ rfl (HO.out.alloc _) _ 1 [.int .u8 ((M : Int) % 256)] rfl (src_one Tryd.underlying58 hz1 _ _ _ rfl) ?c1 ?c2 ?c3 ?_)
        case c1 => unfold maxLen; omega
        case c2 => omega
        case c3 => simp; exact Nat.le_succ_of_le hbr.size
        intro v1 w1 hown1 hg1 hat1
        have hb1 : Below w.heap.size w w1 := (hbr.alloc hbr.size _).grown hg1 (by simp; exact Nat.le_succ_of_le hbr.size) (fun g hg => (HO.out.lt g hg).1)
        have hown2 : w1.ownsRow w.heap.size 5 1 v1 (D ++ [UInt8.ofNat (M % 256)]).length (bs (D ++ [UInt8.ofNat (M % 256)])) := by
          rw [bs_append, List.length_append]
          have e : bs [UInt8.ofNat (M % 256)] = [.int .u8 ((M : Int) % 256)] := by
            simp [bs, by8]
          rw [e]
          exact hown1
        have HO2 := Lib.hid hown2
        clear hown1 hown2 hg1 hat1
        go_wp2_with fail
        go_roundg g
        case measure => omega
        case rel => exact ⟨M / 256, D ++ [UInt8.ofNat (M % 256)], by simp; omega, by omega, by go_num, ⟨by rw [HH.out.1, be_pos h0]; simp, by have := HH.out.2; rw [Nat.pow_succ] at this; omega⟩, HO2.out, hb1⟩
    · have hM0 : M = 0 := by omega
      have hDIG : be 8 m = D.reverse := by rw [HH.out.1, hM0, be_zero]; rfl
      have HM0 := Lib.hid hM0
      have HDG := Lib.hid hDIG
      have hlD : D.length ≤ 8 := by omega
      clear hM0 hDIG
      obtain ⟨wd, hwd⟩ : ∃ wd : World, wd = wr := ⟨_, rfl⟩
      rw [← hwd] at HO HRD hbr ⊢
      clear hwd
      go_wp2_with (at_builtin; refine wpList_own_src rfl (.tmp 28) (.tmp 32) 58 58 rfl wd.heap.size 5 i0 _ 1 1 Tryd.underlying58 hi0 hz0 hz1 hz2 rfl (.slice none 0 0) 0 [] rfl (World.ownsRow_nil _ _ _ _) _ 1 [.int .u8 (128 + (D.length : Int))] rfl (src_one Tryd.underlying58 hz1 _ _ _ rfl) ?c1 ?c2 ?c3 ?_)
      case c1 => unfold maxLen; omega
      case c2 => omega
      case c3 => simp
      intro v1 w1 hown1 hg1 hat1
      have hb1 : Below wd.heap.size wd w1 := ((below_a1 wd _)).grown hg1 (by simp) (by simp [Value.ownBlock])
      have hown2 : w1.ownsRow wd.heap.size 5 1 v1 (1 + 0) (bs (flip false (UInt8.ofNat (128 + D.length)) :: ((D.reverse.take 0).map (flip false)))) := by
        have e : bs (flip false (UInt8.ofNat (128 + D.length)) :: ((D.reverse.take 0).map (flip false))) = [] ++ [.int .u8 (128 + (D.length : Int))] := by
          have hof : (UInt8.ofNat (128 + D.length)).toNat = 128 + D.length := by simp; omega
          simp only [List.take_zero, List.map_nil, bs, by8, List.map_cons, flip_toNat, hof, List.nil_append]
          first | (congr 2; done) | (congr 2; simp; done) | (congr 2; simp; omega)
        rw [e]
        exact hown1
      have HO2 := Lib.hid hown2
      clear hown1 hown2 hg1 hat1
      go_wp2_with fail
      go_loopg [6, 7, 8] D.length (fun g s6 s7 s8 wr => ∃ q : Nat, q + g = D.length ∧ s7 = .int .i64 ((g : Int) - 1) ∧ wr.ownsRow wd.heap.size 5 1 s6 (1 + q) (bs (flip false (UInt8.ofNat (128 + D.length)) :: ((D.reverse.take q).map (flip false)))) ∧ Below wd.heap.size wd wr)
      case atStart => exact ⟨0, by omega, rfl, HO2.out, hb1⟩
      case round =>
        obtain ⟨q, hq, rfl, hown, hbr2⟩ := hrel
        obtain ⟨A2, c2, rfl, hrd2, hc2, hm2⟩ := Rd.of_own hown
        have HO3 := Lib.hid hown; clear hown hrd2
        cases gk with
        | zero =>
          go_wp2_with fail
          go_ret
          have hbf := below_next hbr hbr2
          refine ⟨_, rfl, ?_, hbf⟩
          have h := own_mono HO3.out hbr.size
          have hq' : q = D.length := by omega
          have e1 : ES = flip false (UInt8.ofNat (128 + D.length)) :: ((D.reverse.take q).map (flip false)) := by
            rw [← HES.out]
            unfold enS
            rw [HDG.out, List.length_reverse, List.take_of_length_le (by rw [List.length_reverse]; omega)]
          have e2 : ES.length = 1 + q := by rw [e1]; simp; omega
          rw [e2, e1]
          exact h
        | succ g =>
          have hgD : g < D.length := by omega
          obtain ⟨b, o, e, hcell⟩ := rd_cells0 (HRD.out.below hbr2) g hgD
          subst e
          obtain ⟨dv, hdv⟩ : ∃ dv : UInt8, dv = D[g] := ⟨_, rfl⟩
          rw [← hdv] at hcell
          have hd255 : dv.toNat ≤ 255 := by have := dv.toNat_lt; omega
          have hrev : D.reverse[q]? = some dv := by rw [List.getElem?_reverse (by omega), hdv, show D.length - 1 - q = g from by omega]; simp [hgD]
          have HDV := Lib.hid hrev
          obtain ⟨RR, hRR⟩ : ∃ RR, RR = bs (flip false (UInt8.ofNat (128 + D.length)) :: ((D.reverse.take q).map (flip false))) := ⟨_, rfl⟩
          rw [← hRR] at HO3
          have HRR := Lib.hid hRR
          clear hRR
          obtain ⟨gi, hgi⟩ : ∃ gi : Int, ((g + 1 : Nat) : Int) - 1 = gi ∧ gi = (g : Int) := ⟨_, rfl, by omega⟩
          rw [hgi.1, hgi.2]
          clear hgi hdv hrev
          go_wp2_with (at_builtin; refine wpList_own_src rfl (.tmp 54) (.tmp 56) 58 58 rfl wd.heap.size 5 i0 _ 1 1 Tryd.underlying58 hi0 hz0 hz1 hz2 rfl _ _ _ rfl (HO3.out.alloc _) _ 1 [.int .u8 ((dv.toNat : Int))] rfl (src_one Tryd.underlying58 hz1 _ _ _ rfl) ?c1 ?c2 ?c3 ?_)
          case c1 => unfold maxLen; omega
          case c2 => omega
          case c3 => simp; exact Nat.le_succ_of_le hbr2.size
          intro v3 w3 hown3 hg3 hat3
          have hb3 : Below wd.heap.size wd w3 := (hbr2.alloc hbr2.size _).grown hg3 (by simp; exact Nat.le_succ_of_le hbr2.size) (fun g hg => (HO3.out.lt g hg).1)
          have hown4 : w3.ownsRow wd.heap.size 5 1 v3 (1 + (q + 1)) (bs (flip false (UInt8.ofNat (128 + D.length)) :: ((D.reverse.take (q + 1)).map (flip false)))) := by
            have e : bs (flip false (UInt8.ofNat (128 + D.length)) :: ((D.reverse.take (q + 1)).map (flip false))) = bs (flip false (UInt8.ofNat (128 + D.length)) :: ((D.reverse.take q).map (flip false))) ++ [.int .u8 ((dv.toNat : Int))] := by
              rw [List.take_add_one, HDV.out, Option.toList_some, List.map_append, ← List.cons_append, bs_append]
              congr 1
              all_goals simp only [bs, by8, List.map_cons, List.map_nil, flip_toNat]
              all_goals first | (congr 2; done) | (congr 2; simp; done) | (congr 2; simp; omega)
            rw [e, ← Nat.add_assoc, ← HRR.out]
            exact hown3
          have HO4 := Lib.hid hown4
          clear hown3 hown4 hg3 hat3
          go_wp2_with fail
          go_roundg g
          case measure => omega
          case rel => exact ⟨q + 1, by omega, by go_num, HO4.out, hb3⟩

set_option maxRecDepth 100000 in
set_option maxHeartbeats 1000000 in
theorem rint_neg (m : Nat) (hm : m ≤ 9223372036854775807) (w : World) :
    Calls Tryd.prog 36 #[.int .i64 (-1 - (m : Int))] w fun e w' => ∃ v', e = .returned v' ∧ w'.ownsRow w.heap.size 5 1 v' (enS true m).length (bs (enS true m)) ∧ Below w.heap.size w w' := by
  obtain ⟨i0, hi0, hz0, hz1, hz2⟩ := info_parts Tryd.info5
  have hlen8 := be_len 8 m
  obtain ⟨ES, hES⟩ : ∃ ES, enS true m = ES := ⟨_, rfl⟩
  have HES := Lib.hid hES
  rw [hES]
  clear hES
  have hsub : (-1 : Int) - (-1 - (m : Int)) = (m : Int) := by omega
  have hdec : decide ((-1 - (m : Int)) < 0) = true := by simp; omega
  have hdec2 : decide (0 ≤ (-1 - (m : Int))) = false := by simp; omega
  go_enter Tryd.func36, Tryd.ntmps36
  go_wp2_with fail
  go_loopg [3, 4] 8 (fun g s3 s4 wr => ∃ (M : Nat) (D : List UInt8), D.length + g = 8 ∧ M ≤ 9223372036854775807 ∧ s3 = .int .i64 M ∧ Hid (be 8 m = be g M ++ D.reverse ∧ M < 256 ^ g) ∧ wr.ownsRow w.heap.size 5 1 s4 D.length (bs D) ∧ Below w.heap.size w wr)
  case atStart => exact ⟨m, [], rfl, hm, rfl, ⟨by simp, by omega⟩, World.ownsRow_nil _ _ _ _, Below.refl _ _⟩
  case round =>
    obtain ⟨M, D, hD, hM, rfl, HH, hown, hbr⟩ := hrel
    obtain ⟨A, c, rfl, hrd, hc, hmc⟩ := Rd.of_own hown
    have HO := Lib.hid hown; clear hown
    have HRD := Lib.hid hrd; clear hrd
    by_cases h0 : 0 < M
    · cases gk with
      | zero => have h := HH.out.2; simp at h; omega
      | succ g =>
        go_wp2_with (at_builtin; refine wpList_own_src rfl (.tmp 16) (.tmp 20) 58 58 rfl w.heap.size 5 i0 _ 1 1 Tryd.underlying58 hi0 hz0 hz1 hz2 rfl _ _ _ rfl (HO.out.alloc _) _ 1 [.int .u8 ((M : Int) % 256)] rfl (src_one Tryd.underlying58 hz1 _ _ _ rfl) ?c1 ?c2 ?c3 ?_)
        case c1 => unfold maxLen; omega
        case c2 => omega
        case c3 => simp; exact Nat.le_succ_of_le hbr.size
        intro v1 w1 hown1 hg1 hat1
        have hb1 : Below w.heap.size w w1 := (hbr.alloc hbr.size _).grown hg1 (by simp; exact Nat.le_succ_of_le hbr.size) (fun g hg => (HO.out.lt g hg).1)
        have hown2 : w1.ownsRow w.heap.size 5 1 v1 (D ++ [UInt8.ofNat (M % 256)]).length (bs (D ++ [UInt8.ofNat (M % 256)])) := by
          rw [bs_append, List.length_append]
          have e : bs [UInt8.ofNat (M % 256)] = [.int .u8 ((M : Int) % 256)] := by
            simp [bs, by8]
          rw [e]
          exact hown1
        have HO2 := Lib.hid hown2
        clear hown1 hown2 hg1 hat1
        go_wp2_with fail
        go_roundg g
        case measure => omega
        case rel => exact ⟨M / 256, D ++ [UInt8.ofNat (M % 256)], by simp; omega, by omega, by go_num, ⟨by rw [HH.out.1, be_pos h0]; simp, by have := HH.out.2; rw [Nat.pow_succ] at this; omega⟩, HO2.out, hb1⟩
    · have hM0 : M = 0 := by omega
      have hDIG : be 8 m = D.reverse := by rw [HH.out.1, hM0, be_zero]; rfl
      have HM0 := Lib.hid hM0
      have HDG := Lib.hid hDIG
      have hlD : D.length ≤ 8 := by omega
      clear hM0 hDIG
      obtain ⟨wd, hwd⟩ : ∃ wd : World, wd = wr := ⟨_, rfl⟩
      rw [← hwd] at HO HRD hbr ⊢
      clear hwd
      go_wp2_with (at_builtin; refine wpList_own_src rfl (.tmp 34) (.tmp 38) 58 58 rfl wd.heap.size 5 i0 _ 1 1 Tryd.underlying58 hi0 hz0 hz1 hz2 rfl (.slice none 0 0) 0 [] rfl (World.ownsRow_nil _ _ _ _) _ 1 [.int .u8 (127 - (D.length : Int))] rfl (src_one Tryd.underlying58 hz1 _ _ _ rfl) ?c1 ?c2 ?c3 ?_)
      case c1 => unfold maxLen; omega
      case c2 => omega
      case c3 => simp
      intro v1 w1 hown1 hg1 hat1
      have hb1 : Below wd.heap.size wd w1 := ((below_a1 wd _)).grown hg1 (by simp) (by simp [Value.ownBlock])
      have hown2 : w1.ownsRow wd.heap.size 5 1 v1 (1 + 0) (bs (flip true (UInt8.ofNat (128 + D.length)) :: ((D.reverse.take 0).map (flip true)))) := by
        have e : bs (flip true (UInt8.ofNat (128 + D.length)) :: ((D.reverse.take 0).map (flip true))) = [] ++ [.int .u8 (127 - (D.length : Int))] := by
          have hof : (UInt8.ofNat (128 + D.length)).toNat = 128 + D.length := by simp; omega
          simp only [List.take_zero, List.map_nil, bs, by8, List.map_cons, flip_toNat, hof, List.nil_append]
          first | (congr 2; done) | (congr 2; simp; done) | (congr 2; simp; omega)
        rw [e]
        exact hown1
      have HO2 := Lib.hid hown2
      clear hown1 hown2 hg1 hat1
      go_wp2_with fail
      go_loopg [6, 7, 8] D.length (fun g s6 s7 s8 wr => ∃ q : Nat, q + g = D.length ∧ s7 = .int .i64 ((g : Int) - 1) ∧ wr.ownsRow wd.heap.size 5 1 s6 (1 + q) (bs (flip true (UInt8.ofNat (128 + D.length)) :: ((D.reverse.take q).map (flip true)))) ∧ Below wd.heap.size wd wr)
      case atStart => exact ⟨0, by omega, rfl, HO2.out, hb1⟩
      case round =>
        obtain ⟨q, hq, rfl, hown, hbr2⟩ := hrel
        obtain ⟨A2, c2, rfl, hrd2, hc2, hm2⟩ := Rd.of_own hown
        have HO3 := Lib.hid hown; clear hown hrd2
        cases gk with
        | zero =>
          go_wp2_with fail
          go_ret
          have hbf := below_next hbr hbr2
          refine ⟨_, rfl, ?_, hbf⟩
          have h := own_mono HO3.out hbr.size
          have hq' : q = D.length := by omega
          have e1 : ES = flip true (UInt8.ofNat (128 + D.length)) :: ((D.reverse.take q).map (flip true)) := by
            rw [← HES.out]
            unfold enS
            rw [HDG.out, List.length_reverse, List.take_of_length_le (by rw [List.length_reverse]; omega)]
          have e2 : ES.length = 1 + q := by rw [e1]; simp; omega
          rw [e2, e1]
          exact h
        | succ g =>
          have hgD : g < D.length := by omega
          obtain ⟨b, o, e, hcell⟩ := rd_cells0 (HRD.out.below hbr2) g hgD
          subst e
          obtain ⟨dv, hdv⟩ : ∃ dv : UInt8, dv = D[g] := ⟨_, rfl⟩
          rw [← hdv] at hcell
          have hd255 : dv.toNat ≤ 255 := by have := dv.toNat_lt; omega
          have hrev : D.reverse[q]? = some dv := by rw [List.getElem?_reverse (by omega), hdv, show D.length - 1 - q = g from by omega]; simp [hgD]
          have HDV := Lib.hid hrev
          obtain ⟨RR, hRR⟩ : ∃ RR, RR = bs (flip true (UInt8.ofNat (128 + D.length)) :: ((D.reverse.take q).map (flip true))) := ⟨_, rfl⟩
          rw [← hRR] at HO3
          have HRR := Lib.hid hRR
          clear hRR
          obtain ⟨gi, hgi⟩ : ∃ gi : Int, ((g + 1 : Nat) : Int) - 1 = gi ∧ gi = (g : Int) := ⟨_, rfl, by omega⟩
          rw [hgi.1, hgi.2]
          clear hgi hdv hrev
          go_wp2_with (at_builtin; refine wpList_own_src rfl (.tmp 54) (.tmp 56) 58 58 rfl wd.heap.size 5 i0 _ 1 1 Tryd.underlying58 hi0 hz0 hz1 hz2 rfl _ _ _ rfl (HO3.out.alloc _) _ 1 [.int .u8 (255 - (dv.toNat : Int))] rfl (src_one Tryd.underlying58 hz1 _ _ _ rfl) ?c1 ?c2 ?c3 ?_)
          case c1 => unfold maxLen; omega
          case c2 => omega
          case c3 => simp; exact Nat.le_succ_of_le hbr2.size
          intro v3 w3 hown3 hg3 hat3
          have hb3 : Below wd.heap.size wd w3 := (hbr2.alloc hbr2.size _).grown hg3 (by simp; exact Nat.le_succ_of_le hbr2.size) (fun g hg => (HO3.out.lt g hg).1)
          have hown4 : w3.ownsRow wd.heap.size 5 1 v3 (1 + (q + 1)) (bs (flip true (UInt8.ofNat (128 + D.length)) :: ((D.reverse.take (q + 1)).map (flip true)))) := by
            have e : bs (flip true (UInt8.ofNat (128 + D.length)) :: ((D.reverse.take (q + 1)).map (flip true))) = bs (flip true (UInt8.ofNat (128 + D.length)) :: ((D.reverse.take q).map (flip true))) ++ [.int .u8 (255 - (dv.toNat : Int))] := by
              rw [List.take_add_one, HDV.out, Option.toList_some, List.map_append, ← List.cons_append, bs_append]
              congr 1
              all_goals simp only [bs, by8, List.map_cons, List.map_nil, flip_toNat]
              all_goals first | (congr 2; done) | (congr 2; simp; done) | (congr 2; simp; omega)
            rw [e, ← Nat.add_assoc, ← HRR.out]
            exact hown3
          have HO4 := Lib.hid hown4
          clear hown3 hown4 hg3 hat3
          go_wp2_with fail
          go_roundg g
          case measure => omega
          case rel => exact ⟨q + 1, by omega, by go_num, HO4.out, hb3⟩

theorem rint_any (n : Int) (hn : inI n) (w : World) :
    Calls Tryd.prog 36 #[.int .i64 n] w fun e w' => ∃ v', e = .returned v' ∧ w'.ownsRow w.heap.size 5 1 v' (en n).length (bs (en n)) ∧ Below w.heap.size w w' := by
  unfold inI at hn
  by_cases h : n < 0
  · obtain ⟨m, hm⟩ : ∃ m : Nat, -1 - n = (m : Int) := ⟨(-1 - n).toNat, by omega⟩
    have e : en n = enS true m := by unfold en; rw [if_pos h, hm]; rfl
    have e2 : n = -1 - (m : Int) := by omega
    rw [e, e2]
    exact rint_neg m (by omega) w
  · obtain ⟨m, hm⟩ : ∃ m : Nat, n = (m : Int) := ⟨n.toNat, by omega⟩
    have e : en n = enS false m := by unfold en; rw [if_neg h, hm]; rfl
    rw [e, hm]
    exact rint_pos m (by omega) w




theorem conv_back {P : Program} {src dst e : TypeId} (hs : P.underlying src = some .string) (hd : P.underlying dst = some (.slice e)) (he : P.underlying e = some (.int .u8)) (w : World) (s : ByteArray) :
    ∃ c w', (convert src dst (.string s)).run P w = .ok (.slice (some ⟨w.heap.size, 0, none⟩) s.size c) w' ∧ Rd w' (some ⟨w.heap.size, 0, none⟩) (bs s.data.toList) ∧ Below w.heap.size w w' := by
  refine ⟨_, _, run_bytes_of_string w src dst e s hs hd he, ?_, ⟨rfl, rfl, rfl, by simp, fun k hk => Below.heap_alloc w.drew _ k hk⟩⟩
  refine .inr ⟨w.heap.size, 0, rfl, fun k v hv => ?_⟩
  have hk : k < s.data.size := by have := (List.getElem?_eq_some_iff.1 hv).1; rw [bs_length] at this; simpa using this
  have hcell : (w.drew.alloc (.cells (bytesRow s (grownCap w s.size 0 e)) e ((bytesRow s (grownCap w s.size 0 e)).size, (bytesRow s (grownCap w s.size 0 e)).size + 1))).cell? ⟨w.heap.size, 0 + k, none⟩ = (bytesRow s (grownCap w s.size 0 e))[0 + k]? :=
    cell_of_row _ w.heap.size (0 + k) _ e _ (heap_alloc_new w.drew _)
  rw [hcell]
  unfold bytesRow
  rw [Nat.zero_add, Array.getElem?_append_left (by simpa using hk)]
  simpa [bs, by8] using hv

set_option maxHeartbeats 400000 in
theorem rbytes_any (s : ByteArray) (w : World) (hs : s.size ≤ 1099511627776) :
    Calls Tryd.prog 73 #[.string s] w fun e w' => ∃ v', e = .returned v' ∧ w'.ownsRow w.heap.size 5 1 v' (eB s.data.toList).length (bs (eB s.data.toList)) ∧ Below w.heap.size w w' := by
  obtain ⟨i0, hi0, hz0, hz1, hz2⟩ := info_parts Tryd.info5
  have h9 := en_len9 s.size
  go_enter Tryd.func73, Tryd.ntmps73
  go_wp2_with fail
  refine (rint_any s.size (inI_nat _ (by omega)) w).mono ?_
  rintro e w1 ⟨v1, rfl, hown, hb⟩
  obtain ⟨c2, w2, hcv, hrd2, hb2⟩ := conv_back (P := Tryd.prog) (src := 9) (dst := 58) Tryd.underlying9 Tryd.underlying58 Tryd.underlying5 w1 s
  have HO := Lib.hid (own_keep hown hb2)
  have HR := Lib.hid hrd2
  have hb2' := below_next hb hb2
  have hsz : s.data.toList.length = s.size := rfl
  have HSZ := Lib.hid hsz
  clear hown hrd2 hb2 hsz
  go_wp2_with (at_builtin; refine wpList_own_src rfl (.tmp 5) (.tmp 7) 58 58 rfl w.heap.size 5 i0 _ 1 1 Tryd.underlying58 hi0 hz0 hz1 hz2 rfl _ _ _ rfl HO.out _ s.size (bs s.data.toList) rfl (src_rd (l := s.data.toList) Tryd.underlying58 hz1 HR.out (by simp) c2) ?c1 ?c2 ?c3 ?_)
  case c1 => unfold maxLen; omega
  case c2 => omega
  case c3 => exact hb2'.size
  intro v3 w3 hown3 hg3 hat3
  have HO3 := Lib.hid hown3
  have hb3 : Below w.heap.size w w3 := below_own hb2' hg3 (fun g hg => (HO.out.lt g hg).1)
  clear hown3 hg3 hat3
  go_wp2_with fail
  go_ret
  refine ⟨_, rfl, ?_, hb3⟩
  have h := HO3.out
  rw [← bs_append] at h
  have e : (eB s.data.toList).length = (en s.size).length + s.size := by simp [eB]
  rw [e]
  exact h
end Go.Proofs.YtbgcnfikcddcpaaDoor
