/-
  The walk of the law's hex.
-/
import Derived.Test.YtpidddafbehmpaaDoorHText
import Derived.Deep.RegionLaw
namespace Go.Proofs.YtpidddafbehmpaaDoor
open Go.RowKit
set_option linter.unusedVariables false
namespace Sha
def digits : List UInt8 := [48, 49, 50, 51, 52, 53, 54, 55, 56, 57, 97, 98, 99, 100, 101, 102]
def hd (n : Nat) : UInt8 := digits.getD n 0
def hexs (l : List UInt8) : List UInt8 := l.flatMap fun c => [hd (c.toNat / 16), hd (c.toNat % 16)]
theorem hexs_length (l : List UInt8) : (hexs l).length = 2 * l.length := by
  induction l with
  | nil => rfl
  | cons a l ih => simp only [hexs, List.flatMap_cons, List.length_append, List.length_cons, List.length_nil] at ih ⊢; omega
theorem hexs_snoc (l : List UInt8) (c : UInt8) : hexs (l ++ [c]) = hexs l ++ [hd (c.toNat / 16), hd (c.toNat % 16)] := by simp [hexs]
end Sha
open Sha
theorem index_dig (c : Nat) (hc : c < 16) (I : Int) (hI : I = (c : Int)) (w : World) :
    (Instr.index 9 (.string { data := #[48, 49, 50, 51, 52, 53, 54, 55, 56, 57, 97, 98, 99, 100, 101, 102] }) (.int .u8 I)).run Tryd.prog w = .ok (.int .u8 (hd c).toNat) w := by
  subst hI
  exact index_sb (P := Tryd.prog) (t := 9) Tryd.underlying9 digits .u8 c hc w
theorem step_own_src {P : Program} {w : World} {ops : Array Oper} {o : Oper} {a : Act} {K : Act → World → Prop} {Q : Exit → Act → World → Prop} {E : Prop} (hgd : o.guard = none) (s x : Operand) (t tx : TypeId)
    (ho : o.op = .call { callee := .builtin .append, args := #[s, x], argTypes := #[t, tx] })
    (base : Nat) (e : TypeId) (i : TypeInfo) (z : Value) (size bytes : Nat) (ht : P.underlying t = some (.slice e)) (hi : P.info? e = some i) (hz : i.zero = some z)
    (hsize : i.size = size) (hby : i.bytes = bytes) (hzs : z.cells.size = size) (v : Value) (n : Nat) (xs : List Value) (hs : a.eval s = v) (hown : w.ownsRow base e size v n xs)
    (y : Value) (m : Nat) (news : List Value) (hx : a.eval x = y) (hsrc : Src P i.size tx y m news w) (h63 : n + m ≤ maxLen) (hbytes : (n + m) * bytes ≤ 140737488355328) (hbase : base ≤ w.heap.size)
    (h : ∀ v' w', w'.ownsRow base e size v' (n + m) (xs ++ news) → w.grownBy w' v.ownBlock → (v'.ownBlock = v.ownBlock ∨ v'.ownBlock = some w.heap.size) → K (a.put o.dst v') w') :
    if Region.wanted o (yielded ops a.tmps) = true then Oper.wp P o a w K Q else E := by
  rw [if_pos (by simp [Region.wanted, hgd])]
  exact wp_own_src s x t tx ho base e i z size bytes ht hi hz hsize hby hzs v n xs hs hown y m news hx hsrc h63 hbytes hbase h
theorem src_two {P : Program} {size : Nat} {tx e' : TypeId} (hk : P.underlying tx = some (.slice e')) (hs : size = 1) (w : World) (x y : UInt8) (t : TypeId) :
    Src P size tx (.slice (some ⟨w.heap.size, 0, none⟩) 2 2) 2 (bs [x, y]) (w.alloc (.cells #[.int .u8 x.toNat, .int .u8 y.toNat] t)).drew := by
  refine Src.ofSlice _ hk _ _ _ _ (by simp [hs, bs]) (fun j u hu => ?_) (bs_one _)
  have := (Blk.new' w (bs [x, y]) _ t rfl).cell hu
  rw [Addr.add_mid, Nat.zero_add]
  exact this

set_option maxRecDepth 100000 in
set_option maxHeartbeats 1000000 in
theorem hex_any (l : List UInt8) (hl : l.length ≤ 1099511627776) (w : World) :
    Calls Tryd.prog 25 #[.string (sb l)] w fun e w' => e = .returned (.string (sb (hexs l))) ∧ Below w.heap.size w w' := by
  obtain ⟨i0, hi0, hz0, hz1, hz2⟩ := info_parts Tryd.info5
  have hsz := sb_size l
  go_enter Tryd.func25, Tryd.ntmps25
  go_wp2_with fail
  go_loopg [4, 5] l.length (fun g s4 s5 wr => ∃ i : Nat, i + g = l.length ∧ s5 = .int .i64 i ∧ wr.ownsRow w.heap.size 5 1 s4 (2 * i) (bs (hexs (l.take i))) ∧ Below w.heap.size w wr)
  case atStart => exact ⟨0, by omega, rfl, ⟨rfl, .inl ⟨rfl, rfl⟩⟩, Below.refl _ _⟩
  case round =>
    obtain ⟨i, hi, rfl, hO, hBl⟩ := hrel
    by_cases hlt : i < l.length
    · obtain ⟨g, rfl⟩ : ∃ g, gk = g + 1 := ⟨gk - 1, by omega⟩
      have hx := fun w' => index_sb (P := Tryd.prog) (t := 9) Tryd.underlying9 l .i64 i hlt w'
      obtain ⟨c, hc⟩ : ∃ c, c = l.getD i 0 := ⟨_, rfl⟩
      rw [← hc] at hx
      have hct := c.toNat_lt
      have hd1 := fun w' => index_dig (c.toNat / 16) (by omega) _ rfl w'
      have hd2 := fun w' => index_dig (c.toNat % 16) (by omega) _ rfl w'
      obtain ⟨x, hxe⟩ : ∃ x, x = hd (c.toNat / 16) := ⟨_, rfl⟩
      obtain ⟨y, hye⟩ : ∃ x, x = hd (c.toNat % 16) := ⟨_, rfl⟩
      rw [← hxe] at hd1
      rw [← hye] at hd2
      have hq1 : IntKind.u8.wrap ((c.toNat : Int) / 16) = ((c.toNat / 16 : Nat) : Int) := by rw [IntKind.wrap_u8]; omega
      have hq2 : IntKind.u8.wrap ((c.toNat : Int) % 16) = ((c.toNat % 16 : Nat) : Int) := by rw [IntKind.wrap_u8]; omega
      have hq3 : IntKind.u8.wrap ((c.toNat : Int).tmod 16) = ((c.toNat % 16 : Nat) : Int) := by rw [Int.tmod_eq_emod_of_nonneg (by omega), IntKind.wrap_u8]; omega
      have hq4 : IntKind.u8.wrap ((c.toNat : Int).tdiv 16) = ((c.toNat / 16 : Nat) : Int) := by rw [Int.tdiv_eq_ediv_of_nonneg (by omega), IntKind.wrap_u8]; omega
      have hq5 : (c.toNat : Int).tmod 16 = ((c.toNat % 16 : Nat) : Int) := by rw [Int.tmod_eq_emod_of_nonneg (by omega)]; omega
      obtain ⟨q1, hq1e⟩ : ∃ q, q = c.toNat / 16 := ⟨_, rfl⟩
      obtain ⟨q2, hq2e⟩ : ∃ q, q = c.toNat % 16 := ⟨_, rfl⟩
      rw [← hq1e] at hd1 hq1 hq4 hxe
      rw [← hq2e] at hd2 hq2 hq3 hq5 hye
      have HQ := Lib.hid (And.intro hq1e hq2e)
      clear hq1e hq2e
      have HE := Lib.hid (And.intro hc (And.intro hxe hye)); clear hc hxe hye
      have HO := Lib.hid hO; clear hO
      have HBL := Lib.hid hBl; clear hBl
      have hc1 : 2 * i + 2 ≤ maxLen := by unfold maxLen; omega
      have hc2 : (2 * i + 2) * 1 ≤ 140737488355328 := by omega
      have hc3 : ∀ o, w.heap.size ≤ (wr.alloc o).drew.heap.size := fun o => by have := HBL.out.size; show w.heap.size ≤ (wr.alloc o).heap.size; simp; omega
      go_wp2_with fail
      go_region_law (first | (refine step_own_src rfl (.tmp 12) (.tmp 25) 22 22 rfl w.heap.size 5 i0 _ 1 1 Tryd.underlying22 hi0 hz0 hz1 hz2 rfl _ _ _ rfl ((HO.out.alloc _).drew) _ 2 (bs [x, y]) rfl (src_two Tryd.underlying22 hz1 _ _ _ _) hc1 hc2 (hc3 _) ?_; intro v1 w1 hown1 hg1 hb1; have HN1 := Lib.hid hown1; have HG1 := Lib.hid hg1; clear hown1 hg1 hb1))
      all_goals go_wp2_with fail
      all_goals
        have HF : Hid (w1.ownsRow w.heap.size 5 1 v1 (2 * (i + 1)) (bs (hexs (l.take (i + 1)))) ∧ Below w.heap.size w w1) := Lib.hid (by
          have hne := fun g hg => (HO.out.lt g hg).1
          refine ⟨?_, ((HBL.out.alloc HBL.out.size _).drew).grown HG1.out (hc3 _) (fun g hg => hne g hg)⟩
          have e : bs (hexs (l.take (i + 1))) = bs (hexs (l.take i)) ++ bs [x, y] := by
            have hcl : l[i] = c := by rw [HE.out.1]; simp [List.getD, hlt]
            rw [List.take_succ_eq_append_getElem hlt, hcl, hexs_snoc, bs_append, HE.out.2.1, HE.out.2.2, HQ.out.1, HQ.out.2]
          rw [e]
          exact HN1.out)
        go_roundg g
        case rel => exact ⟨i + 1, by omega, by go_num, HF.out.1, HF.out.2⟩
        case measure => omega
    · obtain rfl : i = l.length := by omega
      obtain ⟨A, c, rfl, hrd, hc, hm⟩ := Rd.of_own hO
      rw [List.take_length] at hrd
      have hcv := conv_sb (A := A) (l := hexs l) (n := 2 * l.length) (w := wr) c (hexs_length l).symm hrd
      have HBL := Lib.hid hBl; clear hBl
      clear hrd hO hc hm
      go_wp2_with fail
      go_ret
      exact ⟨rfl, HBL.out⟩
end Go.Proofs.YtpidddafbehmpaaDoor
