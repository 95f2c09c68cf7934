/-
  The walk of wire.appendInt: the encoding appended to a row of the call's own.
-/
import Derived.Test.YtalladdmedmfeaaKWPure
import Derived.Deep.LoopGhost
import Derived.ScopeJumps
namespace Go.Proofs.Ytalladdmedmfeaa
open Go.RowKit
set_option linter.unusedVariables false

theorem xor255 (c : Nat) (h : c < 256) : bits .xor .u8 255 (c : Int) = 255 - (c : Int) := by
  rw [show (255 : Int) = ((255 : Nat) : Int) from rfl, u8_xor_nat 255 c (by omega) h]
  have : 255 ^^^ c = 255 - c := by
    have H : ∀ c : Fin 256, 255 ^^^ c.val = 255 - c.val := by decide +kernel
    exact H ⟨c, h⟩
  rw [this]; omega
theorem xor255' (c : Nat) (h : c < 256) : bits .xor .u8 (c : Int) 255 = 255 - (c : Int) := by
  rw [show (255 : Int) = ((255 : Nat) : Int) from rfl, u8_xor_nat c 255 h (by omega)]
  have : c ^^^ 255 = 255 - c := by
    have H : ∀ c : Fin 256, c.val ^^^ 255 = 255 - c.val := by decide +kernel
    exact H ⟨c, h⟩
  rw [this]; omega
theorem xor0 (c : Nat) (h : c < 256) : bits .xor .u8 (c : Int) 0 = (c : Int) := by
  rw [show (0 : Int) = ((0 : Nat) : Int) from rfl, u8_xor_nat c 0 h (by omega)]
  simp
theorem Try.info5 : (Try.prog.info? 5).map (fun i => (i.zero, i.size, i.bytes)) = some (some (.int .u8 0), 1, 1) := by kernel_rfl

theorem notw (m : Nat) (hm : m ≤ 9223372036854775807) : bits .xor .u64 (if IntKind.u64.signed = true then -1 else IntKind.u64.max) (IntKind.u64.wrap (-1 - (m : Int))) = (m : Int) := by
  have e : IntKind.u64.wrap (-1 - (m : Int)) = ((18446744073709551615 - m : Nat) : Int) := by
    simp [IntKind.wrap, IntKind.bits, IntKind.signed]
    omega
  rw [e]
  show IntKind.u64.wrap ((BitVec.ofInt 64 18446744073709551615 ^^^ BitVec.ofInt 64 ((18446744073709551615 - m : Nat) : Int)).toNat : Int) = _
  have h1 : BitVec.ofInt 64 18446744073709551615 = BitVec.allOnes 64 := by decide
  rw [h1, BitVec.allOnes_xor, BitVec.toNat_not, ofInt_u64 _ (by omega)]
  simp [IntKind.wrap, IntKind.bits, IntKind.signed]
  omega

/-- What the loop keeps: g shifts are still to come. -/
def AppRel (neg : Bool) (w : World) (base k : Nat) (xs : List Value) (B : Option Nat) (L : Nat → List UInt8) (g : Nat) (s0 : Value) (wr : World) : Prop :=
  wr.ownsRow base 5 1 s0 (k + 1 + (L g).length) (xs ++ [.int .u8 0] ++ bs ((L g).map (flip neg))) ∧ Grew w wr B s0.ownBlock
theorem AppRel.next {neg : Bool} {w : World} {base k : Nat} {xs : List Value} {B : Option Nat} {L : Nat → List UInt8} {g q : Nat} {s0 v' : Value} {wr w1 : World} {o : Obj} (h : AppRel neg w base k xs B L (g + 1) s0 wr) (hL : L g = L (g + 1) ++ [UInt8.ofNat (q % 256)])
    (hown : w1.ownsRow base 5 1 v' (k + 1 + (L (g + 1)).length + 1) (xs ++ [.int .u8 0] ++ bs ((L (g + 1)).map (flip neg)) ++ [.int .u8 (if neg then 255 - (q : Int) % 256 else (q : Int) % 256)])) (hg : (wr.alloc o).grownBy w1 s0.ownBlock) (hb : v'.ownBlock = s0.ownBlock ∨ v'.ownBlock = some (wr.alloc o).heap.size) :
    AppRel neg w base k xs B L g v' w1 := by
  refine ⟨?_, (h.2.alloc o).append hg hb⟩
  have e : bs ((L g).map (flip neg)) = bs ((L (g + 1)).map (flip neg)) ++ [.int .u8 (if neg then 255 - (q : Int) % 256 else (q : Int) % 256)] := by
    rw [hL, List.map_append, bs_append]
    congr 1
    simp only [bs, by8, List.map_cons, List.map_nil, flip_toNat]
    have : (UInt8.ofNat (q % 256)).toNat = q % 256 := by simp
    rw [this]
    cases neg <;> simp <;> omega
  rw [e, hL, ← List.append_assoc, List.length_append]
  exact hown
theorem AppRel.same {neg : Bool} {w : World} {base k : Nat} {xs : List Value} {B : Option Nat} {L : Nat → List UInt8} {g : Nat} {s0 : Value} {wr : World} (h : AppRel neg w base k xs B L (g + 1) s0 wr) (hL : L (g + 1) = L g) : AppRel neg w base k xs B L g s0 wr := by
  unfold AppRel at h ⊢
  rw [hL] at h
  exact h
theorem AppRel.done {neg : Bool} {w : World} {base k g0 cap0 : Nat} {xs : List Value} {B : Option Nat} {L : Nat → List UInt8} {wr : World} {u : Value} (hx : xs.length = k) (h : AppRel neg w base k xs B L 0 (.slice (some ⟨g0, 0, none⟩) (k + 1 + (L 0).length) cap0) wr)
    (hu : u = by8 (flip neg (UInt8.ofNat (128 + (L 0).length)))) :
    (wr.setCell ⟨g0, k, none⟩ u).ownsRow base 5 1 (.slice (some ⟨g0, 0, none⟩) (k + 1 + (L 0).length) cap0) (k + (1 + (L 0).length)) (xs ++ bs (flip neg (UInt8.ofNat (128 + (L 0).length)) :: (L 0).map (flip neg))) ∧ Grew w (wr.setCell ⟨g0, k, none⟩ u) B (some g0) := by
  refine ⟨?_, h.2.setCell k u⟩
  have h1 := (h.1.stored k u).1
  have e : (xs ++ [Value.int .u8 0] ++ bs ((L 0).map (flip neg))).set k u = xs ++ bs (flip neg (UInt8.ofNat (128 + (L 0).length)) :: (L 0).map (flip neg)) := by
    rw [List.append_assoc, List.set_append_right _ _ (by omega), hu]
    simp [hx, bs]
  rw [e] at h1
  rw [← Nat.add_assoc]
  exact h1

set_option maxRecDepth 100000 in
set_option maxHeartbeats 1000000 in
theorem appendInt_pos (m base k c : Nat) (xs : List Value) (A : Option Addr) (w : World) (L : Nat → List UInt8) (hm : m ≤ 9223372036854775807) (hown : w.ownsRow base 5 1 (.slice A k c) k xs) (hk : k + 9 ≤ 70368744177664) (hbase : base ≤ w.heap.size)
    (hL8 : L 8 = []) (hLz : ∀ g, g < 8 → m / 2 ^ (8 * g) = 0 → L (g + 1) = L g) (hLp : ∀ g, g < 8 → m / 2 ^ (8 * g) ≠ 0 → L g = L (g + 1) ++ [UInt8.ofNat (m / 2 ^ (8 * g) % 256)]) (hLl : ∀ g, g ≤ 8 → (L g).length ≤ 8) :
    Calls Try.prog 55 #[.slice A k c, .int .i64 (m : Int)] w fun e w' => ∃ v', e = .returned v' ∧ w'.ownsRow base 5 1 v' (k + (1 + (L 0).length)) (xs ++ bs (flip false (UInt8.ofNat (128 + (L 0).length)) :: (L 0).map (flip false))) ∧ Grew w w' (Value.slice A k c).ownBlock v'.ownBlock := by
  obtain ⟨i0, hi0, hz0, hz1, hz2⟩ := info_parts Try.info5
  have H8 := Lib.hid hL8; clear hL8
  have HZ := Lib.hid hLz; clear hLz
  have HP := Lib.hid hLp; clear hLp
  have HLL := Lib.hid hLl; clear hLl
  go_enter Try.func55, Try.ntmps55
  go_wp2_with fail
  go_step3
  go_wp2_with (at_builtin; refine wpList_own_src rfl (.tmp 18) (.tmp 19) 50 50 rfl base 5 i0 _ 1 1 Try.underlying50 hi0 hz0 hz1 hz2 rfl _ k xs rfl (hown.alloc _) _ 1 [.int .u8 0] rfl (src_one Try.underlying50 hz1 _ _ _ rfl) ?c1 ?c2 ?c3 ?_)
  case c1 => unfold maxLen; omega
  case c2 => omega
  case c3 => simp; omega
  intro v1 w1 hown1 hg1 hb1
  have HG : Hid (Grew w w1 (Value.slice A k c).ownBlock v1.ownBlock) := ((Grew.refl w _).alloc _).append hg1 (by simpa using hb1)
  clear hg1 hb1
  have HO := Lib.hid hown1; clear hown1
  go_wp2_with fail
  go_step3
  go_wp2_with fail
  go_loopg [0, 8] 8 (fun g s0 s8 wr => s8 = .int .i64 (8 * (g : Int) - 8) ∧ g ≤ 8 ∧ AppRel false w base k xs (Value.slice A k c).ownBlock L g s0 wr)
  case atStart => exact ⟨rfl, Nat.le_refl _, ⟨by rw [H8.out]; simpa [bs] using HO.out, HG.out⟩⟩
  case round =>
    obtain ⟨rfl, hg8, hrel⟩ := hrel
    have hbw : base ≤ wr.heap.size := Nat.le_trans hbase hrel.2.size
    have hll := HLL.out _ hg8
    cases gk with
    | zero =>
      obtain ⟨g0, cap0, rfl, hb0, hlt0⟩ := hrel.1.form (by omega)
      have hcell := hrel.1.cellAt k (by omega)
      have hfr := hrel.1.frozenAt k
      have hx0 : (xs ++ [Value.int .u8 0] ++ bs ((L 0).map (flip false)))[k]? = some (.int .u8 0) := by
        have hl := hown.1
        rw [List.append_assoc, List.getElem?_append_right (by omega)]
        simp [hl]
      rw [hx0] at hcell
      have HR := Lib.hid hrel; clear hrel
      have hxx : bits .xor .u8 (128 + ((k : Int) + 1 + ((L 0).length : Int) - (k : Int) - 1)) 0 = 128 + ((L 0).length : Int) := by
        rw [show (128 + ((k : Int) + 1 + ((L 0).length : Int) - (k : Int) - 1)) = ((128 + (L 0).length : Nat) : Int) from by omega, xor0 _ (by omega)]; omega
      go_wp2_with fail
      rw [Exit.noGoto_ret]
      go_ret
      have hof : (UInt8.ofNat (128 + (L 0).length)).toNat = 128 + (L 0).length := by simp; omega
      have hd := HR.out.done (by simpa using hown.1) (u := .int .u8 (128 + ((L 0).length : Int))) (by simp only [by8, flip_toNat, hof]; first | (congr 1; done) | (congr 1; simp; omega))
      exact ⟨_, rfl, hd.1, hd.2⟩
    | succ g =>
      obtain ⟨A0, c0, rfl, hrd0, hc0, hm0⟩ := Rd.of_own hrel.1
      have HR := Lib.hid hrel; clear hrel
      obtain ⟨s, hs, hs56, hsg⟩ : ∃ s : Nat, 8 * ((g + 1 : Nat) : Int) - 8 = (s : Int) ∧ s ≤ 56 ∧ s = 8 * g := ⟨8 * g, by omega, by omega, rfl⟩
      rw [hs]
      have HS := Lib.hid hsg; clear hs hsg
      obtain ⟨q, hq⟩ : ∃ q : Nat, q = m / 2 ^ s := ⟨_, rfl⟩
      have hq' : (m : Int) / 2 ^ s = (q : Int) := by rw [hq]; simp
      have HQ : Hid (q = m / 2 ^ (8 * g)) := by rw [← HS.out]; exact hq
      clear hq hrd0
      by_cases hz : q = 0
      · have hz' : ((q : Int) == 0) = true := by rw [beq_iff_eq]; omega
        have HZ0 := Lib.hid hz; clear hz
        go_wp2_with fail
        go_roundg g
        case rel => exact ⟨by have := HS.out; congr 1; omega, by omega, HR.out.same (HZ.out g (by omega) (by rw [← HQ.out]; exact HZ0.out))⟩
        case measure => omega
      · have hz' : ((q : Int) == 0) = false := by rw [beq_eq_false_iff_ne]; omega
        have hL := HP.out g (by omega) (by rw [← HQ.out]; exact hz)
        rw [← HQ.out] at hL
        have HL := Lib.hid hL; clear hL
        have hx := xor0 (q % 256) (by omega)
        rw [show ((q % 256 : Nat) : Int) = (q : Int) % 256 from by omega] at hx
        go_wp2_with (at_builtin; refine wpList_own_src rfl (.tmp 23) (.tmp 30) 50 50 rfl base 5 i0 _ 1 1 Try.underlying50 hi0 hz0 hz1 hz2 rfl _ _ _ rfl (HR.out.1.alloc _) _ 1 [.int .u8 ((q : Int) % 256)] rfl (src_one Try.underlying50 hz1 _ _ _ rfl) ?c1 ?c2 ?c3 ?_)
        case c1 => unfold maxLen; omega
        case c2 => omega
        case c3 => simp; omega
        intro v2 w2 hown2 hg2 hb2
        have HN : Hid (AppRel false w base k xs (Value.slice A k c).ownBlock L g v2 w2) := HR.out.next HL.out (by simpa using hown2) hg2 (by simpa using hb2)
        clear hown2 hg2 hb2
        go_wp2_with fail
        go_roundg g
        case rel => exact ⟨by have := HS.out; congr 1; omega, by omega, HN.out⟩
        case measure => omega

set_option maxRecDepth 100000 in
set_option maxHeartbeats 1000000 in
theorem appendInt_neg (m base k c : Nat) (xs : List Value) (A : Option Addr) (w : World) (L : Nat → List UInt8) (hm : m ≤ 9223372036854775807) (hown : w.ownsRow base 5 1 (.slice A k c) k xs) (hk : k + 9 ≤ 70368744177664) (hbase : base ≤ w.heap.size)
    (hL8 : L 8 = []) (hLz : ∀ g, g < 8 → m / 2 ^ (8 * g) = 0 → L (g + 1) = L g) (hLp : ∀ g, g < 8 → m / 2 ^ (8 * g) ≠ 0 → L g = L (g + 1) ++ [UInt8.ofNat (m / 2 ^ (8 * g) % 256)]) (hLl : ∀ g, g ≤ 8 → (L g).length ≤ 8) :
    Calls Try.prog 55 #[.slice A k c, .int .i64 (-1 - (m : Int))] w fun e w' => ∃ v', e = .returned v' ∧ w'.ownsRow base 5 1 v' (k + (1 + (L 0).length)) (xs ++ bs (flip true (UInt8.ofNat (128 + (L 0).length)) :: (L 0).map (flip true))) ∧ Grew w w' (Value.slice A k c).ownBlock v'.ownBlock := by
  obtain ⟨i0, hi0, hz0, hz1, hz2⟩ := info_parts Try.info5
  have H8 := Lib.hid hL8; clear hL8
  have hnot := notw m hm
  have HZ := Lib.hid hLz; clear hLz
  have HP := Lib.hid hLp; clear hLp
  have HLL := Lib.hid hLl; clear hLl
  go_enter Try.func55, Try.ntmps55
  go_wp2_with fail
  go_step3
  go_wp2_with (at_builtin; refine wpList_own_src rfl (.tmp 18) (.tmp 19) 50 50 rfl base 5 i0 _ 1 1 Try.underlying50 hi0 hz0 hz1 hz2 rfl _ k xs rfl (hown.alloc _) _ 1 [.int .u8 0] rfl (src_one Try.underlying50 hz1 _ _ _ rfl) ?c1 ?c2 ?c3 ?_)
  case c1 => unfold maxLen; omega
  case c2 => omega
  case c3 => simp; omega
  intro v1 w1 hown1 hg1 hb1
  have HG : Hid (Grew w w1 (Value.slice A k c).ownBlock v1.ownBlock) := ((Grew.refl w _).alloc _).append hg1 (by simpa using hb1)
  clear hg1 hb1
  have HO := Lib.hid hown1; clear hown1
  go_wp2_with fail
  go_step3
  go_wp2_with fail
  go_loopg [0, 8] 8 (fun g s0 s8 wr => s8 = .int .i64 (8 * (g : Int) - 8) ∧ g ≤ 8 ∧ AppRel true w base k xs (Value.slice A k c).ownBlock L g s0 wr)
  case atStart => exact ⟨rfl, Nat.le_refl _, ⟨by rw [H8.out]; simpa [bs] using HO.out, HG.out⟩⟩
  case round =>
    obtain ⟨rfl, hg8, hrel⟩ := hrel
    have hbw : base ≤ wr.heap.size := Nat.le_trans hbase hrel.2.size
    have hll := HLL.out _ hg8
    cases gk with
    | zero =>
      obtain ⟨g0, cap0, rfl, hb0, hlt0⟩ := hrel.1.form (by omega)
      have hcell := hrel.1.cellAt k (by omega)
      have hfr := hrel.1.frozenAt k
      have hx0 : (xs ++ [Value.int .u8 0] ++ bs ((L 0).map (flip true)))[k]? = some (.int .u8 0) := by
        have hl := hown.1
        rw [List.append_assoc, List.getElem?_append_right (by omega)]
        simp [hl]
      rw [hx0] at hcell
      have HR := Lib.hid hrel; clear hrel
      have hxx : bits .xor .u8 (128 + ((k : Int) + 1 + ((L 0).length : Int) - (k : Int) - 1)) 255 = 255 - (128 + ((L 0).length : Int)) := by
        rw [show (128 + ((k : Int) + 1 + ((L 0).length : Int) - (k : Int) - 1)) = ((128 + (L 0).length : Nat) : Int) from by omega, xor255' _ (by omega)]; omega
      go_wp2_with fail
      rw [Exit.noGoto_ret]
      go_ret
      have hof : (UInt8.ofNat (128 + (L 0).length)).toNat = 128 + (L 0).length := by simp; omega
      have hd := HR.out.done (by simpa using hown.1) (u := .int .u8 (255 - (128 + ((L 0).length : Int)))) (by simp only [by8, flip_toNat, hof]; first | (congr 1; done) | (congr 1; simp; omega))
      exact ⟨_, rfl, hd.1, hd.2⟩
    | succ g =>
      obtain ⟨A0, c0, rfl, hrd0, hc0, hm0⟩ := Rd.of_own hrel.1
      have HR := Lib.hid hrel; clear hrel
      obtain ⟨s, hs, hs56, hsg⟩ : ∃ s : Nat, 8 * ((g + 1 : Nat) : Int) - 8 = (s : Int) ∧ s ≤ 56 ∧ s = 8 * g := ⟨8 * g, by omega, by omega, rfl⟩
      rw [hs]
      have HS := Lib.hid hsg; clear hs hsg
      obtain ⟨q, hq⟩ : ∃ q : Nat, q = m / 2 ^ s := ⟨_, rfl⟩
      have hq' : (m : Int) / 2 ^ s = (q : Int) := by rw [hq]; simp
      have HQ : Hid (q = m / 2 ^ (8 * g)) := by rw [← HS.out]; exact hq
      clear hq hrd0
      by_cases hz : q = 0
      · have hz' : ((q : Int) == 0) = true := by rw [beq_iff_eq]; omega
        have HZ0 := Lib.hid hz; clear hz
        go_wp2_with fail
        go_roundg g
        case rel => exact ⟨by have := HS.out; congr 1; omega, by omega, HR.out.same (HZ.out g (by omega) (by rw [← HQ.out]; exact HZ0.out))⟩
        case measure => omega
      · have hz' : ((q : Int) == 0) = false := by rw [beq_eq_false_iff_ne]; omega
        have hL := HP.out g (by omega) (by rw [← HQ.out]; exact hz)
        rw [← HQ.out] at hL
        have HL := Lib.hid hL; clear hL
        have hx := xor255' (q % 256) (by omega)
        rw [show ((q % 256 : Nat) : Int) = (q : Int) % 256 from by omega] at hx
        go_wp2_with (at_builtin; refine wpList_own_src rfl (.tmp 23) (.tmp 30) 50 50 rfl base 5 i0 _ 1 1 Try.underlying50 hi0 hz0 hz1 hz2 rfl _ _ _ rfl (HR.out.1.alloc _) _ 1 [.int .u8 (255 - (q : Int) % 256)] rfl (src_one Try.underlying50 hz1 _ _ _ rfl) ?c1 ?c2 ?c3 ?_)
        case c1 => unfold maxLen; omega
        case c2 => omega
        case c3 => simp; omega
        intro v2 w2 hown2 hg2 hb2
        have HN : Hid (AppRel true w base k xs (Value.slice A k c).ownBlock L g v2 w2) := HR.out.next HL.out (by simpa using hown2) hg2 (by simpa using hb2)
        clear hown2 hg2 hb2
        go_wp2_with fail
        go_roundg g
        case rel => exact ⟨by have := HS.out; congr 1; omega, by omega, HN.out⟩
        case measure => omega

/-! ## both signs together -/

def Lbe (m g : Nat) : List UInt8 := be (8 - g) (m / 2 ^ (8 * g))
theorem pow_succ8 (m g : Nat) : m / 2 ^ (8 * (g + 1)) = m / 2 ^ (8 * g) / 256 := by
  rw [Nat.div_div_eq_div_mul, show (256 : Nat) = 2 ^ 8 from rfl, ← Nat.pow_add, show 8 * (g + 1) = 8 * g + 8 from by omega]
theorem Lbe_z (m g : Nat) (hg : g < 8) (hz : m / 2 ^ (8 * g) = 0) : Lbe m (g + 1) = Lbe m g := by
  unfold Lbe
  rw [pow_succ8, hz]
  simp [be_zero]
theorem Lbe_p (m g : Nat) (hg : g < 8) (hz : m / 2 ^ (8 * g) ≠ 0) : Lbe m g = Lbe m (g + 1) ++ [UInt8.ofNat (m / 2 ^ (8 * g) % 256)] := by
  unfold Lbe
  rw [pow_succ8, show 8 - g = (8 - (g + 1)) + 1 from by omega, be_pos (Nat.pos_of_ne_zero hz)]
theorem Lbe_8 (m : Nat) : Lbe m 8 = [] := rfl
theorem Lbe_0 (m : Nat) : Lbe m 0 = be 8 m := by simp [Lbe]
theorem Lbe_len (m g : Nat) (hg : g ≤ 8) : (Lbe m g).length ≤ 8 := Nat.le_trans (be_len _ _) (by omega)

theorem appendInt_any (n : Int) (hn : inI n) (base k c : Nat) (xs : List Value) (A : Option Addr) (w : World) (hown : w.ownsRow base 5 1 (.slice A k c) k xs) (hk : k + 9 ≤ 70368744177664) (hbase : base ≤ w.heap.size) :
    Calls Try.prog 55 #[.slice A k c, .int .i64 n] w fun e w' => ∃ v', e = .returned v' ∧ w'.ownsRow base 5 1 v' (k + (en n).length) (xs ++ bs (en n)) ∧ Grew w w' (Value.slice A k c).ownBlock v'.ownBlock := by
  unfold inI at hn
  by_cases h : n < 0
  · obtain ⟨m, hm⟩ : ∃ m : Nat, -1 - n = (m : Int) := ⟨(-1 - n).toNat, by omega⟩
    have e : en n = enS true m := by unfold en; rw [if_pos h, hm]; rfl
    have e2 : n = -1 - (m : Int) := by omega
    have H := appendInt_neg m base k c xs A w (Lbe m) (by omega) hown hk hbase (Lbe_8 m) (Lbe_z m) (Lbe_p m) (Lbe_len m)
    rw [Lbe_0] at H
    rw [e, enS_length, e2]
    exact H
  · obtain ⟨m, hm⟩ : ∃ m : Nat, n = (m : Int) := ⟨n.toNat, by omega⟩
    have e : en n = enS false m := by unfold en; rw [if_neg h, hm]; rfl
    have H := appendInt_pos m base k c xs A w (Lbe m) (by omega) hown hk hbase (Lbe_8 m) (Lbe_z m) (Lbe_p m) (Lbe_len m)
    rw [Lbe_0] at H
    rw [e, enS_length, hm]
    exact H

set_option maxHeartbeats 400000 in
theorem int_any (n : Int) (hn : inI n) (w : World) :
    Calls Try.prog 36 #[.int .i64 n] w fun e w' => ∃ v', e = .returned v' ∧ w'.ownsRow w.heap.size 5 1 v' (en n).length (bs (en n)) ∧ Below w.heap.size w w' := by
  have HN := Lib.hid hn; clear hn
  go_enter Try.func36, Try.ntmps36
  go_wp2_with fail
  refine (appendInt_any n HN.out w.heap.size 0 0 [] none w (World.ownsRow_nil _ _ _ _) (by omega) (Nat.le_refl _)).mono ?_
  rintro e w1 ⟨v, rfl, hown, hg⟩
  have HO := Lib.hid hown; clear hown
  go_wp2
  go_ret
  exact ⟨_, rfl, by simpa using HO.out, Grew.below (Below.refl _ _) hg (by simp [Value.ownBlock])⟩

end Go.Proofs.Ytalladdmedmfeaa
