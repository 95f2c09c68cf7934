/-
  The walk of the reference's Digits: two loops, the digits appended one by one.
-/
import Derived.Test.YtbgcnfikcddcpaaDoorSRef
namespace Go.Proofs.YtbgcnfikcddcpaaDoor
open Go.RowKit
set_option linter.unusedVariables false
set_option linter.unusedSimpArgs false
open Sha Sgn
theorem Tryd.infoInt : (Tryd.prog.info? 3).map (fun i => (i.zero, i.size, i.bytes)) = some (some (.int .i64 0), 1, 8) := by kernel_rfl
theorem src_is {P : Program} {size : Nat} {tx e' : TypeId} (hk : P.underlying tx = some (.slice e')) (hs : size = 1) (w : World) (l : List Nat) (n : Nat) (hn : n = l.length) (A : Array Value) (hA : A = (is l).toArray) (t : TypeId) :
    Src P size tx (.slice (some ⟨w.heap.size, 0, none⟩) n n) n (is l) (w.alloc (.cells A t)) := by
  subst hn hA
  exact Src.ofSlice _ hk ⟨w.heap.size, 0, none⟩ _ _ (is l) (by rw [is_length, hs, Nat.mul_one]) (World.news_of_block (heap_alloc_new w _)) (is_one l)
/-- The digits up to the k-th. -/
def upTo (X : List Nat) (k : Nat) : List Nat := X.take k
theorem upTo_zero (X : List Nat) : upTo X 0 = [] := by simp [upTo]
theorem upTo_all (X : List Nat) (k : Nat) (h : X.length ≤ k) : upTo X k = X := List.take_of_length_le h
theorem upTo_succ (X : List Nat) (k : Nat) (h : k < X.length) : upTo X (k + 1) = upTo X k ++ [X.getD k 0] := by
  unfold upTo
  rw [List.take_succ_eq_append_getElem h]
  simp [List.getD, h]
theorem upTo_length (X : List Nat) (k : Nat) (h : k ≤ X.length) : (upTo X k).length = k := by simp [upTo]; omega
attribute [irreducible] upTo
theorem is_append (a b : List Nat) : is (a ++ b) = is a ++ is b := by simp [is]
theorem is_upTo (X : List Nat) (k : Nat) (h : k < X.length) : is (upTo X (k + 1)) = is (upTo X k) ++ [.int .i64 ((X.getD k 0 : Nat) : Int)] := by rw [upTo_succ X k h, is_append]; rfl
theorem csum_upTo (X : List Nat) (k : Nat) (h : k < X.length) : csum (upTo X (k + 1)) = csum (upTo X k) + (3 - X.getD k 0) := by rw [upTo_succ X k h, csum_snoc]
theorem csum_upTo_le (X : List Nat) (k : Nat) (h : k ≤ X.length) : csum (upTo X k) ≤ 3 * k := by have := csum_le (upTo X k); rw [upTo_length X k h] at this; exact this
theorem body_dig44 (d : List UInt8) (i : Nat) (h : i < d.length) (k : Nat) (hk : k < 4) : (body d).getD (4 * i + k) 0 = (dig4 (d.getD i 0).toNat).getD k 0 := by
  rw [body_get d (4 * i + k) (by omega), show (4 * i + k) / 4 = i from by omega, show (4 * i + k) % 4 = k from by omega]
  have := (d.getD i 0).toNat_lt
  generalize (d.getD i 0).toNat = n at this
  have h4 : k = 0 ∨ k = 1 ∨ k = 2 ∨ k = 3 := by omega
  rcases h4 with rfl | rfl | rfl | rfl <;> simp [dig4] <;> omega
set_option maxRecDepth 100000 in
set_option maxHeartbeats 4000000 in
theorem rdigits_aux (d : List UInt8) (hd : d.length = 16) (X : List Nat) (hX : X = body d) (w : World) :
    Calls Tryd.prog 11 #[.agg (bs d).toArray] w fun e w' => ∃ A c, e = .returned (.slice A 68 c) ∧ Rd w' A (is (X ++ dig4 (csum X))) ∧ Below w.heap.size w w' := by
  obtain ⟨i0, hi0, hz0, hz1, hz2⟩ := info_parts Tryd.infoInt
  have hXl : X.length = 64 := by rw [hX, body_length, hd]
  have hX3 : ∀ k, X.getD k 0 ≤ 3 := fun k => by
    rw [hX]
    by_cases h : k < (body d).length
    · have hm : (body d)[k] ∈ body d := List.getElem_mem _
      have := body_le d _ hm
      simp [List.getD, h]
      exact this
    · simp [List.getD, h]
  have hXd : ∀ i k, i < 16 → k < 4 → X.getD (4 * i + k) 0 = (dig4 (d.getD i 0).toNat).getD k 0 := fun i k h hk => by rw [hX]; exact body_dig44 d i (by omega) k hk
  have HX := Lib.hid (And.intro hXl (And.intro hX3 hXd)); clear hX hXl hX3 hXd
  have HL := Lib.hid hd; clear hd
  have HB0 := Lib.hid (Blk.new w (bs d) 23)
  go_enter Tryd.func11, Tryd.ntmps11
  go_wp2_with fail
  go_loopg [3, 4, 5] 16 (fun g s3 s4 s5 wr => ∃ i : Nat, i + g = 16 ∧ s5 = .int .i64 i ∧ s4 = .int .i64 ((csum (upTo X (4 * i)) : Nat) : Int) ∧ Blk wr w.heap.size (bs d) 23 ∧ wr.ownsRow (w.heap.size + 1) 3 1 s3 (4 * i) (is (upTo X (4 * i))) ∧ Below w.heap.size w wr)
  case atStart => exact ⟨0, rfl, rfl, by rw [upTo_zero]; rfl, HB0.out, by rw [upTo_zero]; exact World.ownsRow_nil _ _ _ _, below_a1 _ _⟩
  case round =>
    clear HB0
    obtain ⟨i, hi, rfl, rfl, hB, hO, hBl⟩ := hrel
    by_cases hlt : i < 16
    · obtain ⟨g, rfl⟩ : ∃ g, gk = g + 1 := ⟨gk - 1, by omega⟩
      obtain ⟨x, hx⟩ : ∃ x, x = d.getD i 0 := ⟨_, rfl⟩
      have hc := hB.cell (bs_getD d i (by rw [HL.out]; exact hlt))
      rw [← hx] at hc
      have hxn := x.toNat_lt
      obtain ⟨n, hn⟩ : ∃ n, n = x.toNat := ⟨_, rfl⟩
      have HXD : Hid (∀ k, k < 4 → X.getD (4 * i + k) 0 = (dig4 n).getD k 0) := Lib.hid fun k hk => by rw [hn, hx]; exact HX.out.2.2 i k hlt hk
      rw [← hn] at hc hxn
      have HA := Lib.hid (And.intro hB (And.intro hO hBl)); clear hB hO hBl hx hn
      have hdi : decide ((i : Int) < 16) = true := by simp; omega
      go_wp2_with fail
      clear hdi
      have hcells : (#[Value.int IntKind.i64 ((n : Int) / 64), Value.int IntKind.i64 ((n : Int) / 16 % 4), Value.int IntKind.i64 ((n : Int) / 4 % 4), Value.int IntKind.i64 ((n : Int) % 4)] : Array Value) = (is (dig4 n)).toArray := by rfl
      rw [hcells]
      clear hcells
      obtain ⟨Y, hY⟩ : ∃ Y, Y = dig4 n := ⟨_, rfl⟩
      rw [← hY] at HXD ⊢
      have hYl : Y.length = 4 := by rw [hY]; rfl
      have hown0 := fun g hg => (HA.out.2.1.lt g hg).2
      have hHS := HA.out.1.lt
      obtain ⟨b, hb⟩ : ∃ b, b = wr.heap.size := ⟨_, rfl⟩
      have HS0 : Hid (Blk (wr.alloc (.cells (is Y).toArray 3)) w.heap.size (bs d) 23 ∧ (wr.alloc (.cells (is Y).toArray 3)).ownsRow (w.heap.size + 1) 3 1 u3 (4 * i) (is (upTo X (4 * i))) ∧ u3.ownBlock ≠ some b ∧ Blk (wr.alloc (.cells (is Y).toArray 3)) b (is Y) 3 ∧ Below w.heap.size w (wr.alloc (.cells (is Y).toArray 3))) := Lib.hid
        ⟨HA.out.1.alloc _, HA.out.2.1.alloc _, fun e => by have := hown0 _ e; omega, by rw [hb]; exact Blk.new _ _ _, al HA.out.2.2 _⟩
      have hbw : w.heap.size < b := by omega
      rw [← hb]
      generalize wr.alloc (.cells (is Y).toArray 3) = w0 at HS0 ⊢
      have HY := Lib.hid (And.intro hYl hbw)
      clear hown0 hHS hb hY HA hYl hbw hc
      go_loopg [3, 4, 8] 4 (fun g s3 s4 s8 wk => ∃ k : Nat, k + g = 4 ∧ s8 = .int .i64 k ∧ s4 = .int .i64 ((csum (upTo X (4 * i + k)) : Nat) : Int) ∧ Blk wk w.heap.size (bs d) 23 ∧ wk.ownsRow (w.heap.size + 1) 3 1 s3 (4 * i + k) (is (upTo X (4 * i + k))) ∧ s3.ownBlock ≠ some b ∧ Blk wk b (is Y) 3 ∧ Below w.heap.size w wk)
      case atStart => exact ⟨0, rfl, rfl, rfl, HS0.out⟩
      case round =>
        clear HS0
        obtain ⟨k, hk, rfl, rfl, hB, hO, hne, hY, hBl⟩ := hrel
        by_cases hlk : k < 4
        · obtain ⟨g', rfl⟩ : ∃ g', gk = g' + 1 := ⟨gk - 1, by omega⟩
          have hki : 4 * i + k < X.length := by rw [HX.out.1]; omega
          obtain ⟨y, hy⟩ : ∃ y, y = Y.getD k 0 := ⟨_, rfl⟩
          have hyX : X.getD (4 * i + k) 0 = y := by rw [hy]; exact HXD.out k hlk
          have hy3 : y ≤ 3 := by rw [← hyX]; exact HX.out.2.1 _
          have hcy := hY.cell (is_get Y k (by rw [HY.out.1]; exact hlk))
          rw [← hy] at hcy
          have hsum := csum_upTo X (4 * i + k) hki
          have hle := csum_upTo_le X (4 * i + k) (by omega)
          have his := is_upTo X (4 * i + k) hki
          rw [hyX] at hsum his
          generalize csum (upTo X (4 * i + k)) = S at hsum hle ⊢
          have HS := Lib.hid (And.intro hB (And.intro hO (And.intro hne (And.intro hY hBl))))
          have HP := Lib.hid (And.intro hsum his)
          have HV := Lib.hid hy
          clear hB hO hne hY hBl hsum his hy hyX hki
          have hSle : S ≤ 192 := by omega
          clear hle
          go_wp2_with (at_builtin; refine wpList_own_src rfl (.tmp 32) (.tmp 37) 25 25 rfl (w.heap.size + 1) 3 i0 _ 1 8 Tryd.underlying25 hi0 hz0 hz1 hz2 rfl _ _ _ rfl (HS.out.2.1.alloc _) _ 1 [.int .i64 (y : Int)] rfl (src_one Tryd.underlying25 hz1 _ _ _ rfl) ?c1 ?c2 ?c3 ?_)
          case c1 => unfold maxLen; omega
          case c2 => omega
          case c3 => have := HS.out.1.lt; simp; omega
          intro v1 w1 hown1 hg1 hat1
          have HN : Hid (Blk w1 w.heap.size (bs d) 23 ∧ w1.ownsRow (w.heap.size + 1) 3 1 v1 (4 * i + (k + 1)) (is (upTo X (4 * i + (k + 1)))) ∧ v1.ownBlock ≠ some b ∧ Blk w1 b (is Y) 3 ∧ Below w.heap.size w w1) := Lib.hid (by
            have hgt := fun g hg => (HS.out.2.1.lt g hg).1
            have hbl := HS.out.2.2.2.1.lt
            refine ⟨(HS.out.1.alloc _).grown hg1 (fun e => by have := hgt _ e.symm; omega), ?_, ?_, (HS.out.2.2.2.1.alloc _).grown hg1 (fun e => HS.out.2.2.1 e.symm), (HS.out.2.2.2.2.alloc HS.out.2.2.2.2.size _).grown hg1 (by have := HS.out.2.2.2.2.size; simp; omega) (fun g hg => by have := hgt g hg; omega)⟩
            · rw [← Nat.add_assoc, HP.out.2]; exact hown1
            · intro e
              rcases hat1 with h | h
              · exact HS.out.2.2.1 (h.symm.trans e)
              · rw [h] at e
                have e2 := Option.some.inj e
                omega)
          have hcy1 := HN.out.2.2.2.1.cell (is_get Y k (by rw [HY.out.1]; exact hlk))
          rw [← HV.out] at hcy1
          clear hown1 hg1 hat1 hcy
          go_wp2_with fail
          go_roundg g'
          case rel => exact ⟨k + 1, by omega, by go_num, by rw [← Nat.add_assoc, HP.out.1]; go_num, HN.out⟩
          case measure => omega
        · obtain rfl : k = 4 := by omega
          rw [show 4 * i + 4 = 4 * (i + 1) from by omega] at hO ⊢
          have HS := Lib.hid (And.intro hB (And.intro hO hBl))
          clear hB hO hne hY hBl
          obtain ⟨S, hSe⟩ : ∃ S, S = csum (upTo X (4 * (i + 1))) := ⟨_, rfl⟩
          rw [← hSe]
          have HE := Lib.hid hSe; clear hSe
          go_wp2_with fail
          go_roundg g
          case rel => exact ⟨i + 1, by omega, by go_num, HE.out ▸ rfl, HS.out⟩
          case measure => omega
    · obtain rfl : i = 16 := by omega
      have hall : upTo X (4 * 16) = X := upTo_all X _ (by rw [HX.out.1]; omega)
      rw [hall] at hO ⊢
      have hle := csum_le X
      rw [HX.out.1] at hle
      have his : is (X ++ dig4 (csum X)) = is X ++ is (dig4 (csum X)) := is_append _ _
      obtain ⟨S, hSe⟩ : ∃ S, S = csum X := ⟨_, rfl⟩
      rw [← hSe] at hle his ⊢
      have HE := Lib.hid hSe; clear hSe
      have HI := Lib.hid his
      have HS := Lib.hid (And.intro hO hBl)
      clear hB hO hBl hall his
      have hsrc := fun W => src_is (P := Tryd.prog) (size := i0.size) Tryd.underlying25 hz1 W (dig4 S) 4 rfl #[Value.int IntKind.i64 ((S : Int) / 64), Value.int IntKind.i64 ((S : Int) / 16 % 4), Value.int IntKind.i64 ((S : Int) / 4 % 4), Value.int IntKind.i64 ((S : Int) % 4)] rfl 3
      have HSRC := Lib.hid hsrc; clear hsrc
      have hS192 : S ≤ 192 := by omega
      clear hle
      go_wp2_with (at_builtin; refine wpList_own_src rfl (.tmp 46) (.tmp 57) 25 25 rfl (w.heap.size + 1) 3 i0 _ 1 8 Tryd.underlying25 hi0 hz0 hz1 hz2 rfl _ _ _ rfl (HS.out.1.alloc _) _ 4 (is (dig4 S)) rfl (HSRC.out _) ?c1 ?c2 ?c3 ?_)
      case c1 => unfold maxLen; omega
      case c2 => omega
      case c3 => have := HS.out.2.size; simp; omega
      intro v1 w1 hown1 hg1 hat1
      rw [← HI.out] at hown1
      have hgt := fun g hg => (HS.out.1.lt g hg).1
      have HB1 : Hid (Below w.heap.size w w1) := Lib.hid ((HS.out.2.alloc HS.out.2.size _).grown hg1 (by have := HS.out.2.size; simp; omega) (fun g hg => by have := hgt g hg; omega))
      obtain ⟨A, c, rfl, hrd, _, _⟩ := Rd.of_own hown1
      have HRD := Lib.hid hrd
      clear hown1 hg1 hat1 hrd hgt
      go_wp2_with fail
      go_ret
      exact ⟨A, c, rfl, by rw [← HE.out]; exact HRD.out, HB1.out⟩
theorem rdigits_any (d : List UInt8) (hd : d.length = 16) (w : World) :
    Calls Tryd.prog 11 #[.agg (bs d).toArray] w fun e w' => ∃ A c, e = .returned (.slice A 68 c) ∧ Rd w' A (is (digs d)) ∧ Below w.heap.size w w' := rdigits_aux d hd _ rfl w
end Go.Proofs.YtbgcnfikcddcpaaDoor
