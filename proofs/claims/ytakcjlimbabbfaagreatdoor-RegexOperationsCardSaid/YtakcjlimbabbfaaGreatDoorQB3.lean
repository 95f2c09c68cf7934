/- Part of the proof. -/
import Derived.Test.YtakcjlimbabbfaaGreatDoorQB2
set_option linter.unusedVariables false
set_option linter.unusedSimpArgs false
set_option maxRecDepth 1000000
set_option maxHeartbeats 8000000
namespace Go.Proofs.YtakcjlimbabbfaaGreatDoor
open Go.RowKit
open Alp
open Rgx
theorem wV {X : Lx} {w w1 : World} {base : Nat} {E : TypeId} {size n : Nat} {v : Value} {xs : List Value} (h : w.ownsRow base E size v n xs) (hk : Kq X w w1) (h1 : X.pb < base) (h2 : X.ab < base) : w1.ownsRow base E size v n xs := by
 obtain ⟨a, hb | ⟨g, cap, cells, e1, e2, e3, e4⟩⟩ := h
 ·exact ⟨a, .inl hb⟩
 ·have hg : g < w.heap.size := Array.getElem?_eq_some_iff.1 e3 |>.1;exact ⟨a, .inr ⟨g, cap, cells, e1, e2, (hk.block g hg (by omega) (by omega)).trans e3, e4⟩⟩
theorem aR.grownO {X : Lx} {q : Nat -> Prop} {Q : PS} {w w1 : World} (h : aR X q Q w) {G : Option Nat} (hg : w.grownBy w1 G) (hG : ∀ g, G = some g -> X.w0.heap.size <= g /\ g ≠ X.pb /\ g ≠ X.ab /\ g ≠ X.sb /\ g ≠ X.lb /\ g ≠ X.eb) (hq : ∀ b, q b -> some b ≠ G) : aR X q Q w1 := by
 cases G with
 |none => exact h.below ⟨hg.os, hg.tape, hg.output, hg.size, fun k hk => hg.block k hk (by simp)⟩
 |some g =>
  obtain ⟨a1, a2, a3, a4, a5, a6⟩ := hG g rfl;exact h.grown hg a1 a2 a3 a4 a5 a6 fun b hb e => hq b hb (by rw [e])
theorem Bv (X : Lx) (hx : jD X) (N : Nat) (HA : lw X N) (q : Nat -> Prop) (Q : PS) (w : World) (hq0 : ∀ b, b < X.w0.heap.size -> q b) (hqw : ∀ b, q b -> b < w.heap.size) (h : aR X q Q w) (hok : dQ Q) (hN : X.s.length - Q.st < N + 1) : Calls Tryz.prog 99 #[.pointer (some ⟨X.pb, 0, none⟩)] w (dM lg X q Q w) := by
 obtain ⟨i0, hi0, hz0, hz1, hz2⟩ := info_parts iq;have hlt := h.lts;have hs1 : (w.alloc zR).heap.size = w.heap.size + 1 := by simp
 have hbb1 : Below w.heap.size w (w.alloc zR) := ag _ _;have hb1 : aa (w.alloc zR) w.heap.size zL 25 := aa.at w zL _ 25 _ rfl rfl;have HREP : Hid (∀ q Q w, (∀ b, b < X.w0.heap.size -> q b) -> (∀ b, q b -> b < w.heap.size) -> aR X q Q w -> (Q.k = 2 \/ Q.k = 40) -> dQ Q -> X.s.length - Q.st < N + 1 -> Calls Tryz.prog 130 #[.pointer (some ⟨X.pb, 0, none⟩)] w (dM nT X q Q w)) := Lh fun q Q w a b c d e f => FY X hx N HA q Q w a b c d e f
 have HX := Lh (And.intro hlt (And.intro hq0 (And.intro hqw hok)));have HN : Hid (X.s.length - Q.st < N + 1 /\ X.s.length <= 1000000) := Lh ⟨hN, hx.hs⟩;have HB1 := Lh hb1;have H1 : Hid ((∀ x Q9, PR X 1 (([] : List Rx)) Q x Q9 -> PR X 1 [] Q x Q9) /\ az (fun b => (q b \/ w.heap.size + 1 <= b) /\ b ≠ X.pb /\ b ≠ X.ab) (w.heap.size + 1) (.slice none 0 0) (([] : List Rx)) (w.alloc zR) /\ aR X (fun b => (q b \/ w.heap.size + 1 <= b) /\ some b ≠ Value.ownBlock (.slice none 0 0)) Q (w.alloc zR) /\ Kq X (w.alloc zR) (w.alloc zR) /\ dQ Q /\ (([] : List Rx)).length + Q.st <= Q.st) := Lh ⟨fun x Q2 hh => hh, az.nil _ _ _, (h.below hbb1).mono fun b hb _ => ⟨.inl hb, fun e => by cases e⟩, Kq.refl _ _, hok, by simp⟩;clear hx HA hq0 hqw h hok hN hlt hs1 hbb1 hb1;go_enter Tryz.func99, Tryz.ntmps99;go_wp2_with fail
 go_loopg [3] (X.s.length + 1) (fun gq s3 wr => ∃ (rs : List Rx) (Q1 : PS), X.s.length - Q1.st + 1 <= gq /\ Hid ((∀ x Q9, PR X 1 (rs) Q1 x Q9 -> PR X 1 [] Q x Q9) /\ az (fun b => (q b \/ w.heap.size + 1 <= b) /\ b ≠ X.pb /\ b ≠ X.ab) (w.heap.size + 1) s3 (rs) wr /\ aR X (fun b => (q b \/ w.heap.size + 1 <= b) /\ some b ≠ Value.ownBlock s3) Q1 wr /\ Kq X (w.alloc zR) wr /\ dQ Q1 /\ (rs).length + Q.st <= Q1.st))
 case atStart => exact ⟨[], Q, by omega, H1⟩
 case round =>
  obtain ⟨rs, Q1, hgk, HI⟩ := hrel;obtain ⟨gg, rfl⟩ : ∃ g, gk = g + 1 := ⟨gk - 1, by omega⟩;obtain ⟨B5, d5, hv, hmd5, hdm5, hke5, _⟩ := HI.out.2.1.e;obtain ⟨N5, hN5⟩ : ∃ N, N = rs.length := ⟨_, rfl⟩;rw [<- hN5] at hv hmd5;subst hv;have HN5 := Lh hN5;obtain ⟨k1, hk1⟩ : ∃ k, k = Q1.k := ⟨_, rfl⟩;obtain ⟨A, n, c, B, m, d, e1, e2⟩ := HI.out.2.2.1.c5;have hck := e1.cell (j := 1) rfl;rw [<- hk1] at hck;have HK1 := Lh hk1;have hle := HI.out.2.2.1.hle;have hrl : N5 <= 1000000 := by have := HI.out.2.2.2.2.2; have := HI.out.2.2.2.2.1.1; have := HN.out.2; omega
  clear e1 e2 hk1 hke5 hN5
  by_cases hkk : k1 = 2 \/ k1 = 40
  ·have hst : Q1.st < Q1.p := HI.out.2.2.2.2.1.2 (by rw [<- HK1.out]; omega) (by rw [<- HK1.out]; omega);have HSZ0 : Hid (w.heap.size + 1 <= wr.heap.size) := Lh (by have h1 := HI.out.2.2.2.1.size; simp at h1; exact h1);have HQ7 : Hid (Calls Tryz.prog 130 #[.pointer (some ⟨X.pb, 0, none⟩)] wr (dM nT X (fun b => (fun b => (q b \/ w.heap.size + 1 <= b) /\ some b ≠ Value.ownBlock (.slice B5 N5 d5)) b /\ b < wr.heap.size) Q1 wr)) := Lh (by
    obtain ⟨xs, hC, hO⟩ := HI.out.2.1;refine HREP.out _ Q1 wr (fun b hb => ⟨⟨.inl (HX.out.2.1 b hb), fun e => ?_⟩, ?_⟩) (fun b hb => hb.2) (HI.out.2.2.1.mono fun b hb hl => ⟨hb, hl⟩) (by rw [<- HK1.out]; exact hkk) HI.out.2.2.2.2.1 (by have := HI.out.2.2.2.2.2; have := HN.out.1; omega)
    ·have h1 := (hO.lt b e.symm).1;have := HX.out.1.1;omega
    ·have := HX.out.1.1; have := HSZ0.out; omega)
   have HGOT : Hid (∀ e w4, dM nT X (fun b => (fun b => (q b \/ w.heap.size + 1 <= b) /\ some b ≠ Value.ownBlock (.slice B5 N5 d5)) b /\ b < wr.heap.size) Q1 wr e w4 -> ∃ r Q2 A4 n4 c4 B4 m4 d4 xs, e = .returned (.agg #[.int .i64 r.kind, .slice A4 n4 c4, .slice B4 m4 d4]) /\ (PR X 1 (rs ++ [r]) Q2 = PR X 1 (rs ++ [r]) Q2) /\ (∀ x Q3, PR X 1 (rs ++ [r]) Q2 x Q3 -> PR X 1 [] Q x Q3) /\ Q1.st < Q2.st /\ dQ Q2 /\ w4.ownsRow (w.heap.size + 1) 25 3 (.slice B5 N5 d5) N5 xs /\ aG (fun b => (fun b => (q b \/ w.heap.size + 1 <= b) /\ b ≠ X.pb /\ b ≠ X.ab) b /\ some b ≠ Value.ownBlock (.slice B5 N5 d5)) w4 xs rs /\ ai (fun b => (fun b => (q b \/ w.heap.size + 1 <= b) /\ b ≠ X.pb /\ b ≠ X.ab) b /\ some b ≠ Value.ownBlock (.slice B5 N5 d5)) w4 r A4 n4 c4 B4 m4 d4 /\ aR X (fun b => (q b \/ w.heap.size + 1 <= b) /\ some b ≠ Value.ownBlock (.slice B5 N5 d5)) Q2 w4 /\ Kq X (w.alloc zR) w4) := Lh fun e w4 hh => by
    obtain ⟨r, Q2, A4, n4, c4, B4, m4, d4, rfl, ⟨a, Q0, p3, p2⟩, g2, g3, g4⟩ := kX hh;obtain ⟨xs, hC, hO⟩ := HI.out.2.1;have hlt := HX.out.1;have hkq : Q1.k = 2 \/ Q1.k = 40 := by rw [<- HK1.out]; exact hkk
    have hok := HI.out.2.2.2.2.1;have m3 := p3.mono hok;have m2 := p2.mono m3.1;have ml := p3.atom_lt hkq hok;have hnown : ∀ b, wr.heap.size <= b -> some b ≠ Value.ownBlock (.slice B5 N5 d5) := fun b hb e => by
     have := (hO.lt b e.symm).2;omega
    rw [<- HN5.out] at hO;refine ⟨r, Q2, A4, n4, c4, B4, m4, d4, xs, rfl, rfl, fun x Q3 hx3 => HI.out.1 x Q3 (.seqGo hkq p3 p2 hx3), by omega, m2.1, wV hO g4 (by omega) (by omega), (hC.lt.keep fun b o hb => g4.cell hb.2 hb.1.1.2.1 hb.1.1.2.2).mono fun b hb => hb.1, g2.mono fun b hb => ?_, g3.mono fun b hb _ => ?_, HI.out.2.2.2.1.tr g4⟩
    ·rcases hb.1 with hb1 | hb1
     ·exact ⟨⟨hb1.1.1, hb.2⟩, hb1.1.2⟩
     ·exact ⟨⟨.inr (by have := HSZ0.out; omega), hb.2⟩, hnown b hb1⟩
    ·rcases hb with hb1 | hb1
     ·exact hb1.1
     ·exact ⟨.inr (by have := HSZ0.out; omega), hnown b hb1⟩
   have HAPP : Hid (∀ w4 r Q2 A4 n4 c4 B4 m4 d4 xs, (PR X 1 (rs ++ [r]) Q2 = PR X 1 (rs ++ [r]) Q2) /\ (∀ x Q3, PR X 1 (rs ++ [r]) Q2 x Q3 -> PR X 1 [] Q x Q3) /\ Q1.st < Q2.st /\ dQ Q2 /\ w4.ownsRow (w.heap.size + 1) 25 3 (.slice B5 N5 d5) N5 xs /\ aG (fun b => (fun b => (q b \/ w.heap.size + 1 <= b) /\ b ≠ X.pb /\ b ≠ X.ab) b /\ some b ≠ Value.ownBlock (.slice B5 N5 d5)) w4 xs rs /\ ai (fun b => (fun b => (q b \/ w.heap.size + 1 <= b) /\ b ≠ X.pb /\ b ≠ X.ab) b /\ some b ≠ Value.ownBlock (.slice B5 N5 d5)) w4 r A4 n4 c4 B4 m4 d4 /\ aR X (fun b => (q b \/ w.heap.size + 1 <= b) /\ some b ≠ Value.ownBlock (.slice B5 N5 d5)) Q2 w4 /\ Kq X (w.alloc zR) w4 -> (w.heap.size + 1) <= (w4.alloc (zC r.kind A4 n4 c4 B4 m4 d4)).heap.size /\ ∀ v9 w9, w9.ownsRow (w.heap.size + 1) 25 3 v9 (N5 + 1) (xs ++ (zV r.kind A4 n4 c4 B4 m4 d4)) -> (w4.alloc (zC r.kind A4 n4 c4 B4 m4 d4)).grownBy w9 (Value.ownBlock (.slice B5 N5 d5)) -> (v9.ownBlock = Value.ownBlock (.slice B5 N5 d5) \/ v9.ownBlock = some (w4.alloc (zC r.kind A4 n4 c4 B4 m4 d4)).heap.size) -> (∀ x Q9, PR X 1 (rs ++ [r]) Q2 x Q9 -> PR X 1 [] Q x Q9) /\ az (fun b => (q b \/ w.heap.size + 1 <= b) /\ b ≠ X.pb /\ b ≠ X.ab) (w.heap.size + 1) v9 (rs ++ [r]) w9 /\ aR X (fun b => (q b \/ w.heap.size + 1 <= b) /\ some b ≠ Value.ownBlock v9) Q2 w9 /\ Kq X (w.alloc zR) w9 /\ dQ Q2 /\ (rs ++ [r]).length + Q.st <= Q2.st) := Lh fun w4 r Q2 A4 n4 c4 B4 m4 d4 xs hg => by
    obtain ⟨_, g1, g2, g3, g4, g5, g6, g7, g8⟩ := hg;have hlt := HX.out.1;have hs4 := g8.size;simp at hs4;refine ⟨by simp; omega, fun v9 w9 hown hgr hat => ⟨g1, ?_, ?_, ?_, g3, ?_⟩⟩
    ·rw [HN5.out] at hown;exact az.app g5 (ag w4 _) (aG.one (g6.below (ag w4 _)).q) rfl hgr hat hown
    ·have hp5 := (g7.below (ag w4 (zC r.kind A4 n4 c4 B4 m4 d4))).mono (q2 := fun b => (fun b => (q b \/ w.heap.size + 1 <= b) /\ some b ≠ Value.ownBlock (.slice B5 N5 d5)) b /\ b < (w4.alloc (zC r.kind A4 n4 c4 B4 m4 d4)).heap.size) fun b hb hl => ⟨hb, hl⟩
     have hp9 := hp5.grownO hgr (fun g e => by have h9 := (g4.lt g e).1; omega) (fun b hb => hb.1.2);exact hp9.mono fun b hb _ => ⟨hb.1.1, fun e => by
      rcases hat with h | h
      · rw [h] at e; exact hb.1.2 e
      · rw [h] at e; have := Option.some.inj e; omega⟩
    ·have k5 := g8.tr (Kq.of_below (ag w4 (zC r.kind A4 n4 c4 B4 m4 d4)));exact ⟨hgr.os.trans k5.os, hgr.tape.trans k5.tape, hgr.output.trans k5.output, Nat.le_trans k5.size hgr.size, fun k hk a b => (hgr.block k (Nat.lt_of_lt_of_le hk k5.size) (fun e => by have h9 := (g4.lt k e.symm).1; simp at hk; omega)).trans (k5.block k hk a b)⟩
    ·have := HI.out.2.2.2.2.2;simp;omega
   have hs1 : N5 + 1 <= maxLen := by unfold maxLen; omega
   have hs2 : (N5 + 1) * 56 <= 140737488355328 := by omega
   have HMS : Hid (Q1.st < X.s.length /\ X.s.length - Q1.st + 1 <= gg + 1) := Lh ⟨by omega, hgk⟩
   rcases hkk with h2 | h40
   ·subst h2
    go_wp2_with (first
     |((with_reducible refine HQ7.out.mono ?_); rintro e w4 hp; obtain ⟨r, Q2, A4, n4, c4, B4, m4, d4, xs, rfl, hg⟩ := HGOT.out e w4 hp; have H4 := Lh hg; have HAP0 := Lh (HAPP.out w4 r Q2 A4 n4 c4 B4 m4 d4 xs hg); have HSZ := Lh HAP0.out.1; have HAP := Lh HAP0.out.2; clear hp hg)
     |(at_builtin; refine eu rfl (.tmp 18) (.tmp 21) 23 23 rfl (w.heap.size + 1) 25 i0 _ 3 56 Tryz.underlying23 hi0 hz0 hz1 hz2 rfl _ _ _ rfl (dW H4.out.2.2.2.2.1 (ag _ _)) _ 1 (zV r.kind A4 n4 c4 B4 m4 d4) rfl (gP hz1 _ _ _ _ _ _ _ _) hs1 hs2 HSZ.out ?_; intro v9 w9 hown9 hg9 hat9; have HX9 := Lh (HAP.out v9 w9 hown9 hg9 hat9); clear hown9 hg9 hat9))
    go_roundg gg
    case rel => exact ⟨rs ++ [r], Q2, by have := HMS.out; have := H4.out.2.2.1; omega, HX9⟩
    case measure => omega
   ·subst h40
    go_wp2_with (first
     |((with_reducible refine HQ7.out.mono ?_); rintro e w4 hp; obtain ⟨r, Q2, A4, n4, c4, B4, m4, d4, xs, rfl, hg⟩ := HGOT.out e w4 hp; have H4 := Lh hg; have HAP0 := Lh (HAPP.out w4 r Q2 A4 n4 c4 B4 m4 d4 xs hg); have HSZ := Lh HAP0.out.1; have HAP := Lh HAP0.out.2; clear hp hg)
     |(at_builtin; refine eu rfl (.tmp 18) (.tmp 21) 23 23 rfl (w.heap.size + 1) 25 i0 _ 3 56 Tryz.underlying23 hi0 hz0 hz1 hz2 rfl _ _ _ rfl (dW H4.out.2.2.2.2.1 (ag _ _)) _ 1 (zV r.kind A4 n4 c4 B4 m4 d4) rfl (gP hz1 _ _ _ _ _ _ _ _) hs1 hs2 HSZ.out ?_; intro v9 w9 hown9 hg9 hat9; have HX9 := Lh (HAP.out v9 w9 hown9 hg9 hat9); clear hown9 hg9 hat9))
    go_roundg gg
    case rel => exact ⟨rs ++ [r], Q2, by have := HMS.out; have := H4.out.2.2.1; omega, HX9⟩
    case measure => omega
  ·have a1 : ((k1 : Int) == 2) = false := bF (by omega);have b1 : ((k1 : Int) == 40) = false := bF (by omega);have HFIN : Hid (aa wr w.heap.size zL 25 /\ ∀ W, aK wr W w.heap.size (zV 3 none 0 0 B5 N5 d5) 25 -> dM lg X q Q w (.returned (.agg #[.int .i64 3, .slice none 0 0, .slice B5 N5 d5])) W /\ aa W w.heap.size (zV 3 none 0 0 B5 N5 d5) 25) := Lh (by
    have hlt := HX.out.1;have hi := HI.out;obtain ⟨B9, d9, hv9, z1, z2, z3, z4⟩ := hi.2.1.e;simp only [Value.slice.injEq] at hv9;obtain ⟨rfl, hn9, rfl⟩ := hv9;refine ⟨hi.2.2.2.1.blk HB1.out (by omega) (by omega), fun W hst => ⟨⟨.mk 3 [] rs, Q1, none, 0, 0, B5, N5, d5, rfl, hi.1 _ _ (.seqEnd (by rw [<- HK1.out]; exact hkk)), ?_, ?_, ?_⟩, hst.1⟩⟩
    ·have hrp : ai (fun b => (fun b => (q b \/ w.heap.size + 1 <= b) /\ b ≠ X.pb /\ b ≠ X.ab) b) wr (.mk 3 [] rs) none 0 0 B5 N5 d5 := ai.make (by constructor <;> decide) (fun x hx => (by cases hx)) rfl (Nat.le_refl _) (Nat.zero_le _) (.inl rfl) (fun h => absurd rfl h) hn9 (by rw [hn9]; exact z1) z2 (z3.mono fun b hb => hb.1) (fun hne b o e => by
      obtain ⟨g, e2, h1, h2⟩ := z4 hne;rw [e] at e2;obtain ⟨rfl, _⟩ : b = g /\ o = 0 := by simpa using e2
      exact ⟨.inr h1, by omega, by omega⟩)
     exact (hrp.grown (bv hst) (fun b hb e => by have h2 := Option.some.inj e; have h1 := HX.out.2.2.1 b; rcases hb.1 with h | h; (have := h1 h; omega); omega)).mono fun b hb => ⟨hb.1.imp id fun h => by omega, hb.2⟩
    ·exact (aR.stored hlt hi.2.2.1 (Nat.le_refl _) hst (fun b hb => by have h1 := HX.out.2.2.1 b; rcases hb.1 with h | h; (have := h1 h; omega); omega)).mono fun b hb _ => hb.1.imp id fun h => by omega
    ·exact ((Kq.of_below (ag w _)).tr hi.2.2.2.1).stored (Nat.le_refl _) hst)
   clear hkk
   go_wp2_with (refine wB rfl 25 (.tmp 2) (.tmp 24) rfl w.heap.size 0 rfl (zV 3 none 0 0 B5 N5 d5) rfl HFIN.out.1 3 au ?_; intro x5 hst5; have HX5 := Lh (HFIN.out.2 x5 hst5); clear hst5)
   exact bM rfl w.heap.size rfl (C := (zV 3 none 0 0 B5 N5 d5)) (T := 25) HX5.out.2 _ Tryz.underlying25 rfl au rfl HX5.out.1
theorem Eb (X : Lx) (hx : jD X) (N : Nat) (HA : lw X N) (q : Nat -> Prop) (Q : PS) (w : World) (hq0 : ∀ b, b < X.w0.heap.size -> q b) (hqw : ∀ b, q b -> b < w.heap.size) (h : aR X q Q w) (hok : dQ Q) (hN : X.s.length - Q.st < N + 1) : Calls Tryz.prog 67 #[.pointer (some ⟨X.pb, 0, none⟩)] w (dM eH X q Q w) := by
 obtain ⟨i0, hi0, hz0, hz1, hz2⟩ := info_parts iq;have hlt := h.lts;have hs1 : (w.alloc zR).heap.size = w.heap.size + 1 := by simp
 have hbb1 : Below w.heap.size w (w.alloc zR) := ag _ _;have hb1 : aa (w.alloc zR) w.heap.size zL 25 := aa.at w zL _ 25 _ rfl rfl;have HSEQ : Hid (∀ q Q w, (∀ b, b < X.w0.heap.size -> q b) -> (∀ b, q b -> b < w.heap.size) -> aR X q Q w -> dQ Q -> X.s.length - Q.st < N + 1 -> Calls Tryz.prog 99 #[.pointer (some ⟨X.pb, 0, none⟩)] w (dM lg X q Q w)) := Lh fun q Q w a b c d e => Bv X hx N HA q Q w a b c d e
 have HADV : Hid (∀ q Q W, aR X q Q W -> Calls Tryz.prog 66 #[.pointer (some ⟨X.pb, 0, none⟩)] W (kw X q Q W)) := Lh fun q Q W hp => nN X hx q Q W hp
 have HX := Lh (And.intro hlt (And.intro hq0 (And.intro hqw hok)));have HN : Hid (X.s.length - Q.st < N + 1 /\ X.s.length <= 1000000) := Lh ⟨hN, hx.hs⟩;have HB1 := Lh hb1;have HS1 : Hid (Calls Tryz.prog 99 #[.pointer (some ⟨X.pb, 0, none⟩)] (w.alloc zR) (dM lg X q Q (w.alloc zR))) := Lh (HSEQ.out q Q (w.alloc zR) hq0 (fun b hb => by have := hqw b hb; omega) (h.below hbb1) hok hN);have HBEG : Hid (∀ w2 r Q1 A4 n4 c4 B4 m4 d4, lg X Q r Q1 -> ai (fun b => (q b \/ (w.alloc zR).heap.size <= b) /\ b ≠ X.pb /\ b ≠ X.ab) w2 r A4 n4 c4 B4 m4 d4 -> aR X (fun b => q b \/ (w.alloc zR).heap.size <= b) Q1 w2 -> Kq X (w.alloc zR) w2 -> (∀ x Q9, PR X 0 ([r]) Q1 x Q9 -> eH X Q x Q9) /\ az (fun b => (q b \/ w.heap.size + 1 <= b) /\ b ≠ X.pb /\ b ≠ X.ab) (w.heap.size + 1) (.slice (some ⟨w2.heap.size, 0, none⟩) 1 1) ([r]) (w2.alloc (zC r.kind A4 n4 c4 B4 m4 d4)) /\ aR X (fun b => (q b \/ w.heap.size + 1 <= b) /\ some b ≠ Value.ownBlock (.slice (some ⟨w2.heap.size, 0, none⟩) 1 1)) Q1 (w2.alloc (zC r.kind A4 n4 c4 B4 m4 d4)) /\ Kq X (w.alloc zR) (w2.alloc (zC r.kind A4 n4 c4 B4 m4 d4)) /\ dQ Q1 /\ ([r]).length + Q.st <= PS.st Q1 + 1 /\ Q.st <= PS.st Q1) := Lh fun w2 r Q1 A4 n4 c4 B4 m4 d4 g1 g2 g3 g4 => by
  rw [hs1] at g2 g3;have hs2 := g4.size;rw [hs1] at hs2;have hm := PR.mono g1 hok;have hown : (w2.alloc (zC r.kind A4 n4 c4 B4 m4 d4)).ownsRow (w.heap.size + 1) 25 3 (.slice (some ⟨w2.heap.size, 0, none⟩) 1 1) [r].length (zV r.kind A4 n4 c4 B4 m4 d4) := ⟨rfl, .inr ⟨w2.heap.size, 1, _, rfl, hs2, heap_alloc_new w2 _, Nat.le_refl _, by unfold maxLen; omega, rfl, rfl⟩⟩;exact ⟨fun x Q9 hh => ⟨r, Q1, g1, hh⟩, ⟨_, aG.one ((g2.lt7.mono (q := fun b => (fun b => (q b \/ w.heap.size + 1 <= b) /\ b ≠ X.pb /\ b ≠ X.ab) b /\ some b ≠ Value.ownBlock (.slice (some ⟨w2.heap.size, 0, none⟩) 1 1)) fun b hb => ⟨hb.1, fun e => by have h1 : b = w2.heap.size := Option.some.inj e; omega⟩).below (ag w2 _)).q, hown⟩, (g3.mono (q2 := (fun b => (q b \/ w.heap.size + 1 <= b) /\ some b ≠ Value.ownBlock (.slice (some ⟨w2.heap.size, 0, none⟩) 1 1))) fun b hb hl => ⟨hb, fun e => by have h1 : b = w2.heap.size := Option.some.inj e; omega⟩).below (ag w2 _), g4.tr (Kq.of_below (ag w2 _)), hm.1, by have := hm.2; simp; omega, hm.2⟩
 clear hx HA hq0 hqw h hok hN hlt hs1 hbb1 hb1;go_enter Tryz.func67, Tryz.ntmps67
 go_wp2_with ((with_reducible refine HS1.out.mono ?_); rintro e w2 hp; obtain ⟨r, Q1, A4, n4, c4, B4, m4, d4, rfl, g1, g2, g3, g4⟩ := kX hp; have H1 := Lh (HBEG.out w2 r Q1 A4 n4 c4 B4 m4 d4 g1 g2 g3 g4); clear hp g1 g2 g3 g4)
 go_loopg [3] (X.s.length + 1) (fun gq s3 wr => ∃ (rs : List Rx) (Q1 : PS), X.s.length - Q1.st + 1 <= gq /\ Hid ((∀ x Q9, PR X 0 (rs) Q1 x Q9 -> eH X Q x Q9) /\ az (fun b => (q b \/ w.heap.size + 1 <= b) /\ b ≠ X.pb /\ b ≠ X.ab) (w.heap.size + 1) s3 (rs) wr /\ aR X (fun b => (q b \/ w.heap.size + 1 <= b) /\ some b ≠ Value.ownBlock s3) Q1 wr /\ Kq X (w.alloc zR) wr /\ dQ Q1 /\ (rs).length + Q.st <= PS.st Q1 + 1 /\ Q.st <= PS.st Q1))
 case atStart => exact ⟨[r], Q1, by omega, H1⟩
 case round =>
  obtain ⟨rs, Q1, hgk, HI⟩ := hrel;obtain ⟨gg, rfl⟩ : ∃ g, gk = g + 1 := ⟨gk - 1, by omega⟩;obtain ⟨B5, d5, hv, hmd5, hdm5, hke5, _⟩ := HI.out.2.1.e;obtain ⟨N5, hN5⟩ : ∃ N, N = rs.length := ⟨_, rfl⟩;rw [<- hN5] at hv hmd5;subst hv;have HN5 := Lh hN5;obtain ⟨k1, hk1⟩ : ∃ k, k = Q1.k := ⟨_, rfl⟩;obtain ⟨A, n, c, B, m, d, e1, e2⟩ := HI.out.2.2.1.c5;have hck := e1.cell (j := 1) rfl;rw [<- hk1] at hck;have HK1 := Lh hk1;have hle := HI.out.2.2.1.hle;have hrl : N5 <= 1000002 := by have := HI.out.2.2.2.2.2.1; have := HI.out.2.2.2.2.1.1; have := HN.out.2; omega
  clear e1 e2 hk1 hke5 hN5
  by_cases hkk : k1 = 124
  ·have hst : Q1.st < Q1.p := HI.out.2.2.2.2.1.2 (by rw [<- HK1.out]; omega) (by rw [<- HK1.out]; omega);have HSZ0 : Hid (w.heap.size + 1 <= wr.heap.size) := Lh (by have h1 := HI.out.2.2.2.1.size; simp at h1; exact h1);have HAD := Lh (HADV.out _ Q1 wr HI.out.2.2.1);have HQ7 : Hid (∀ w3, aR X (fun b => b < X.w0.heap.size \/ wr.heap.size <= b) (bg X Q1) w3 -> Kq X wr w3 -> Calls Tryz.prog 99 #[.pointer (some ⟨X.pb, 0, none⟩)] w3 (dM lg X (fun b => (b < X.w0.heap.size \/ wr.heap.size <= b) /\ b < w3.heap.size) (bg X Q1) w3)) := Lh fun w3 hp hkq => by
    refine HSEQ.out _ (bg X Q1) w3 (fun b hb => ⟨.inl hb, ?_⟩) (fun b hb => hb.2) (hp.mono fun b hb hl => ⟨hb, hl⟩) (dZ X Q1) (by show X.s.length - Q1.p < N + 1; have := HI.out.2.2.2.2.2.2; have := HN.out.1; omega);have := HX.out.1.1; have := HSZ0.out; have := hkq.size; omega
   have HGOT : Hid (∀ w3 e w4, Kq X wr w3 -> dM lg X (fun b => (b < X.w0.heap.size \/ wr.heap.size <= b) /\ b < w3.heap.size) (bg X Q1) w3 e w4 -> ∃ r Q2 A4 n4 c4 B4 m4 d4 xs, e = .returned (.agg #[.int .i64 r.kind, .slice A4 n4 c4, .slice B4 m4 d4]) /\ (∀ x Q9, PR X 0 (rs ++ [r]) Q2 x Q9 -> eH X Q x Q9) /\ Q1.st < Q2.st /\ dQ Q2 /\ w4.ownsRow (w.heap.size + 1) 25 3 (.slice B5 N5 d5) N5 xs /\ aG (fun b => (fun b => (q b \/ w.heap.size + 1 <= b) /\ b ≠ X.pb /\ b ≠ X.ab) b /\ some b ≠ Value.ownBlock (.slice B5 N5 d5)) w4 xs rs /\ ai (fun b => (fun b => (q b \/ w.heap.size + 1 <= b) /\ b ≠ X.pb /\ b ≠ X.ab) b /\ some b ≠ Value.ownBlock (.slice B5 N5 d5)) w4 r A4 n4 c4 B4 m4 d4 /\ aR X (fun b => (q b \/ w.heap.size + 1 <= b) /\ some b ≠ Value.ownBlock (.slice B5 N5 d5)) Q2 w4 /\ Kq X (w.alloc zR) w4) := Lh fun w3 e w4 hk3 hh => by
    obtain ⟨r, Q2, A4, n4, c4, B4, m4, d4, rfl, p3, g2, g3, g4⟩ := kX hh;obtain ⟨xs, hC, hO⟩ := HI.out.2.1;have hlt := HX.out.1;have hkq : Q1.k = 124 := by rw [<- HK1.out]; exact hkk
    have m3 := PR.mono p3 (dZ X Q1);have hpp : (bg X Q1).st = Q1.p := rfl;have hs3 := hk3.size;have hnown : ∀ b, (b < X.w0.heap.size \/ wr.heap.size <= b) -> some b ≠ Value.ownBlock (.slice B5 N5 d5) := fun b hb e => by
     have := hO.lt b e.symm;omega
    have k34 := hk3.tr g4;rw [<- HN5.out] at hO;have hin : ∀ b, ((fun b => (b < X.w0.heap.size \/ wr.heap.size <= b) /\ b < w3.heap.size) b \/ w3.heap.size <= b) -> (q b \/ w.heap.size + 1 <= b) /\ some b ≠ Value.ownBlock (.slice B5 N5 d5) := fun b hb => by
     have hz := HSZ0.out
     rcases hb with hb1 | hb1
     · rcases hb1.1 with hb2 | hb2
       ·exact ⟨.inl (HX.out.2.1 b hb2), hnown b (.inl hb2)⟩
       ·exact ⟨.inr (by omega), hnown b (.inr hb2)⟩
     · exact ⟨.inr (by omega), hnown b (.inr (by omega))⟩
    exact ⟨r, Q2, A4, n4, c4, B4, m4, d4, xs, rfl, fun x Q9 hx9 => HI.out.1 x Q9 (.altGo hkq p3 hx9), by have := m3.2; omega, m3.1, wV hO k34 (by omega) (by omega), (hC.lt.keep fun b o hb => k34.cell hb.2 hb.1.1.2.1 hb.1.1.2.2).mono fun b hb => hb.1, g2.mono fun b hb => ⟨⟨(hin b hb.1).1, hb.2⟩, (hin b hb.1).2⟩, g3.mono fun b hb _ => hin b hb, HI.out.2.2.2.1.tr k34⟩
   have HAPP : Hid (∀ w4 r Q2 A4 n4 c4 B4 m4 d4 xs, (∀ x Q9, PR X 0 (rs ++ [r]) Q2 x Q9 -> eH X Q x Q9) /\ Q1.st < Q2.st /\ dQ Q2 /\ w4.ownsRow (w.heap.size + 1) 25 3 (.slice B5 N5 d5) N5 xs /\ aG (fun b => (fun b => (q b \/ w.heap.size + 1 <= b) /\ b ≠ X.pb /\ b ≠ X.ab) b /\ some b ≠ Value.ownBlock (.slice B5 N5 d5)) w4 xs rs /\ ai (fun b => (fun b => (q b \/ w.heap.size + 1 <= b) /\ b ≠ X.pb /\ b ≠ X.ab) b /\ some b ≠ Value.ownBlock (.slice B5 N5 d5)) w4 r A4 n4 c4 B4 m4 d4 /\ aR X (fun b => (q b \/ w.heap.size + 1 <= b) /\ some b ≠ Value.ownBlock (.slice B5 N5 d5)) Q2 w4 /\ Kq X (w.alloc zR) w4 -> (w.heap.size + 1) <= (w4.alloc (zC r.kind A4 n4 c4 B4 m4 d4)).heap.size /\ ∀ v9 w9, w9.ownsRow (w.heap.size + 1) 25 3 v9 (N5 + 1) (xs ++ (zV r.kind A4 n4 c4 B4 m4 d4)) -> (w4.alloc (zC r.kind A4 n4 c4 B4 m4 d4)).grownBy w9 (Value.ownBlock (.slice B5 N5 d5)) -> (v9.ownBlock = Value.ownBlock (.slice B5 N5 d5) \/ v9.ownBlock = some (w4.alloc (zC r.kind A4 n4 c4 B4 m4 d4)).heap.size) -> (∀ x Q9, PR X 0 (rs ++ [r]) Q2 x Q9 -> eH X Q x Q9) /\ az (fun b => (q b \/ w.heap.size + 1 <= b) /\ b ≠ X.pb /\ b ≠ X.ab) (w.heap.size + 1) v9 (rs ++ [r]) w9 /\ aR X (fun b => (q b \/ w.heap.size + 1 <= b) /\ some b ≠ Value.ownBlock v9) Q2 w9 /\ Kq X (w.alloc zR) w9 /\ dQ Q2 /\ (rs ++ [r]).length + Q.st <= PS.st Q2 + 1 /\ Q.st <= PS.st Q2) := Lh fun w4 r Q2 A4 n4 c4 B4 m4 d4 xs hg => by
    obtain ⟨g1, g2, g3, g4, g5, g6, g7, g8⟩ := hg;have hlt := HX.out.1;have hs4 := g8.size;simp at hs4;refine ⟨by simp; omega, fun v9 w9 hown hgr hat => ⟨g1, ?_, ?_, ?_, g3, ?_, ?_⟩⟩
    ·rw [HN5.out] at hown;exact az.app g5 (ag w4 _) (aG.one (g6.below (ag w4 _)).q) rfl hgr hat hown
    ·have hp5 := (g7.below (ag w4 (zC r.kind A4 n4 c4 B4 m4 d4))).mono (q2 := fun b => (fun b => (q b \/ w.heap.size + 1 <= b) /\ some b ≠ Value.ownBlock (.slice B5 N5 d5)) b /\ b < (w4.alloc (zC r.kind A4 n4 c4 B4 m4 d4)).heap.size) fun b hb hl => ⟨hb, hl⟩
     have hp9 := hp5.grownO hgr (fun g e => by have h9 := (g4.lt g e).1; omega) (fun b hb => hb.1.2);exact hp9.mono fun b hb _ => ⟨hb.1.1, fun e => by
       rcases hat with h | h
       ·rw [h] at e; exact hb.1.2 e
       ·rw [h] at e; have := Option.some.inj e; omega⟩
    ·have k5 := g8.tr (Kq.of_below (ag w4 (zC r.kind A4 n4 c4 B4 m4 d4)));exact ⟨hgr.os.trans k5.os, hgr.tape.trans k5.tape, hgr.output.trans k5.output, Nat.le_trans k5.size hgr.size, fun k hk a b => (hgr.block k (Nat.lt_of_lt_of_le hk k5.size) (fun e => by have h9 := (g4.lt k e.symm).1; simp at hk; omega)).trans (k5.block k hk a b)⟩
    ·have := HI.out.2.2.2.2.2.1;simp;omega
    ·have := HI.out.2.2.2.2.2.2;omega
   have hs1 : N5 + 1 <= maxLen := by unfold maxLen; omega
   have hs2 : (N5 + 1) * 56 <= 140737488355328 := by omega
   have HMS : Hid (Q1.st < X.s.length /\ X.s.length - Q1.st + 1 <= gg + 1) := Lh ⟨by omega, hgk⟩;subst hkk
   go_wp2_with (first
    |((with_reducible refine HAD.out.mono ?_); rintro e w3 hp; obtain ⟨rfl, g1, g2⟩ := kQ hp; have HS3 := Lh (HQ7.out w3 g1 g2); have HK3 := Lh g2; clear hp g1 g2)
    |((with_reducible refine HS3.out.mono ?_); rintro e w4 hp; obtain ⟨r, Q2, A4, n4, c4, B4, m4, d4, xs, rfl, hg⟩ := HGOT.out w3 e w4 HK3.out hp; have H4 := Lh hg; have HAP0 := Lh (HAPP.out w4 r Q2 A4 n4 c4 B4 m4 d4 xs hg); have HSZ := Lh HAP0.out.1; have HAP := Lh HAP0.out.2; clear hp hg)
    |(at_builtin; refine eu rfl (.tmp 15) (.tmp 18) 23 23 rfl (w.heap.size + 1) 25 i0 _ 3 56 Tryz.underlying23 hi0 hz0 hz1 hz2 rfl _ _ _ rfl (dW H4.out.2.2.2.1 (ag _ _)) _ 1 (zV r.kind A4 n4 c4 B4 m4 d4) rfl (gP hz1 _ _ _ _ _ _ _ _) hs1 hs2 HSZ.out ?_; intro v9 w9 hown9 hg9 hat9; have HX9 := Lh (HAP.out v9 w9 hown9 hg9 hat9); clear hown9 hg9 hat9))
   go_roundg gg
   case rel => exact ⟨rs ++ [r], Q2, by have := HMS.out; have := H4.out.2.1; omega, HX9⟩
   case measure => omega
  ·have b1 : ((k1 : Int) == 124) = false := bF (by omega);have HFIN : Hid (aa wr w.heap.size zL 25 /\ ∀ W, aK wr W w.heap.size (zV 4 none 0 0 B5 N5 d5) 25 -> dM eH X q Q w (.returned (.agg #[.int .i64 4, .slice none 0 0, .slice B5 N5 d5])) W /\ aa W w.heap.size (zV 4 none 0 0 B5 N5 d5) 25) := Lh (by
    have hlt := HX.out.1;have hi := HI.out;obtain ⟨B9, d9, hv9, z1, z2, z3, z4⟩ := hi.2.1.e;simp only [Value.slice.injEq] at hv9;obtain ⟨rfl, hn9, rfl⟩ := hv9;refine ⟨hi.2.2.2.1.blk HB1.out (by omega) (by omega), fun W hst => ⟨⟨.mk 4 [] rs, Q1, none, 0, 0, B5, N5, d5, rfl, hi.1 _ _ (.altEnd (by rw [<- HK1.out]; exact hkk)), ?_, ?_, ?_⟩, hst.1⟩⟩
    ·have hrp : ai (fun b => (fun b => (q b \/ w.heap.size + 1 <= b) /\ b ≠ X.pb /\ b ≠ X.ab) b) wr (.mk 4 [] rs) none 0 0 B5 N5 d5 := ai.make (by constructor <;> decide) (fun x hx => (by cases hx)) rfl (Nat.le_refl _) (Nat.zero_le _) (.inl rfl) (fun h => absurd rfl h) hn9 (by rw [hn9]; exact z1) z2 (z3.mono fun b hb => hb.1) (fun hne b o e => by
       obtain ⟨g, e2, h1, h2⟩ := z4 hne;rw [e] at e2;obtain ⟨rfl, _⟩ : b = g /\ o = 0 := by simpa using e2
       exact ⟨.inr h1, by omega, by omega⟩)
     exact (hrp.grown (bv hst) (fun b hb e => by have h2 := Option.some.inj e; have h1 := HX.out.2.2.1 b; rcases hb.1 with h | h; (have := h1 h; omega); omega)).mono fun b hb => ⟨hb.1.imp id fun h => by omega, hb.2⟩
    ·exact (aR.stored hlt hi.2.2.1 (Nat.le_refl _) hst (fun b hb => by have h1 := HX.out.2.2.1 b; rcases hb.1 with h | h; (have := h1 h; omega); omega)).mono fun b hb _ => hb.1.imp id fun h => by omega
    ·exact ((Kq.of_below (ag w _)).tr hi.2.2.2.1).stored (Nat.le_refl _) hst)
   clear hkk
   go_wp2_with (refine wB rfl 25 (.tmp 2) (.tmp 21) rfl w.heap.size 0 rfl (zV 4 none 0 0 B5 N5 d5) rfl HFIN.out.1 3 au ?_; intro x5 hst5; have HX5 := Lh (HFIN.out.2 x5 hst5); clear hst5)
   exact bM rfl w.heap.size rfl (C := (zV 4 none 0 0 B5 N5 d5)) (T := 25) HX5.out.2 _ Tryz.underlying25 rfl au rfl HX5.out.1
theorem zH {R : Lx -> PS -> Rx -> PS -> Prop} {X : Lx} {q q2 : Nat -> Prop} {Q : PS} {w : World} {e : Ending} {w' : World} (h : dM R X q Q w e w') (hq : ∀ b, q b -> q2 b) : dM R X q2 Q w e w' := by
 obtain ⟨r, Q1, A, n, c, B, m, d, rfl, g1, g2, g3, g4⟩ := kX h;exact ⟨r, Q1, A, n, c, B, m, d, rfl, g1, g2.mono fun b hb => ⟨hb.1.imp (hq b) id, hb.2⟩, g3.mono fun b hb _ => hb.imp (hq b) id, g4⟩
theorem uy (X : Lx) (hx : jD X) : ∀ N, lw X N
 |0 => fun q Q w _ _ _ h => absurd h (Nat.not_lt_zero _)
 |N + 1 => fun q Q w h1 h2 h3 h4 => (Eb X hx N (uy X hx N) (fun b => q b /\ b < w.heap.size) Q w (fun b hb => ⟨h1 b hb, by have := h2.hb.size; omega⟩) (fun b hb => hb.2) (h2.mono fun b hb hl => ⟨hb, hl⟩) h3 h4).mono fun e w' h => zH h fun b hb => hb.1
def qI (s : Alp.B) (A : Option Addr) (n c : Nat) (B : Option Addr) (m d : Nat) (w : World) (e : Ending) (w' : World) : Prop := e = .returned (.func (.func 97) #[] #[.pointer (some ⟨w.heap.size, 0, none⟩), .pointer (some ⟨w.heap.size + 1 + 1 + 1, 0, none⟩), .pointer (some ⟨w.heap.size + 1, 0, none⟩), .pointer (some ⟨w.heap.size + 1 + 1, 0, none⟩)]) /\ w' = ((((w.alloc (.cells #[.string (tb s)] 9)).alloc (.cells #[.slice A n c] 39)).alloc (.cells #[.slice B m d] 40)).alloc (.cells #[.int .i64 0] 3))
theorem BR {s : Alp.B} {A : Option Addr} {n c : Nat} {B : Option Addr} {m d : Nat} {w : World} {e : Ending} {w' : World} (h : qI s A n c B m d w e w') : e = .returned (.func (.func 97) #[] #[.pointer (some ⟨w.heap.size, 0, none⟩), .pointer (some ⟨w.heap.size + 1 + 1 + 1, 0, none⟩), .pointer (some ⟨w.heap.size + 1, 0, none⟩), .pointer (some ⟨w.heap.size + 1 + 1, 0, none⟩)]) /\ w' = ((((w.alloc (.cells #[.string (tb s)] 9)).alloc (.cells #[.slice A n c] 39)).alloc (.cells #[.slice B m d] 40)).alloc (.cells #[.int .i64 0] 3)) := h
theorem DI (s : Alp.B) (A : Option Addr) (n c : Nat) (B : Option Addr) (m d : Nat) (w : World) : Calls Tryz.prog 65 #[.string (tb s), .slice A n c, .slice B m d] w (qI s A n c B m d w) := by
 go_enter Tryz.func65, Tryz.ntmps65;go_wp2_with fail;go_ret;exact ⟨rfl, rfl⟩
namespace Rgx
theorem yL (L : List Lt) (S : List cB) (s : Alp.B) : av (bP L S s).2.1 = 1 := by
 have h0 : ∀ (k : Int) (l : List Int), av (.mk k l []) = 1 := fun k l => by rw [av, ah]; rfl
 match s with
 |[] => exact h0 _ _
 |c :: t =>
  rw [pu]
  split
  ·exact h0 _ _
  ·split
   ·exact h0 _ _
   ·split
    ·exact h0 _ _
    ·split
     ·exact h0 _ _
     ·split
      ·unfold fE
       split
       ·exact h0 _ _
       ·split
        ·exact h0 _ _
        ·split
         ·exact h0 _ _
         ·split
          ·exact h0 _ _
          ·exact h0 _ _
      ·unfold jW
       split
       ·exact h0 _ _
       ·exact h0 _ _
theorem PR.cnt {X : Lx} {t : Nat} {ks : List Rx} {Q : PS} {x : Rx} {Q1 : PS} (h : PR X t ks Q x Q1) : dQ Q -> av Q.x = 1 -> av x + 2 * (Q.st : Int) <= ah ks + (if t <= 1 then 1 else 0) + 2 * (Q1.st : Int) /\ av Q1.x = 1 := by
 have ha : ∀ Q, (bg X Q).st = Q.p := fun _ => rfl
 have hax : ∀ Q, av (bg X Q).x = 1 := fun Q => yL X.L X.S (X.s.drop Q.p)
 have hbd : ∀ Q, (kC Q).st = Q.st := fun _ => rfl
 have hc : ∀ (k : Int) (l : List Int) (ks : List Rx), av (.mk k l ks) = 1 + ah ks := fun k l ks => by rw [av]
 have h1 : ∀ r : Rx, ah [r] = av r := fun r => by rw [ah, ah]; omega
 have happ : ∀ (ks : List Rx) (r : Rx), ah (ks ++ [r]) = ah ks + av r := fun ks r => by
  induction ks with
  |nil => rw [List.nil_append, h1, ah]; omega
  |cons y ys ih => rw [List.cons_append, ah, ih, ah]; omega
 have hnil : ah [] = 0 := by rw [ah]
 induction h with
 |altGo k1 p2 p3 ih2 ih3 =>
  intro hq hx;have g2 := ih2 (dZ X _) (hax _);have m2 := p2.mono (dZ X _);have g3 := ih3 m2.1 g2.2;have hp := hq.2 (by omega) (by omega);rw [ha, hnil] at g2;rw [happ] at g3;refine ⟨?_, g3.2⟩;have a := g2.1;have b := g3.1;simp only [Nat.le_refl, Nat.zero_le, if_true] at a b ⊢;omega
 |altEnd k1 => exact fun hq hx => ⟨by rw [hc]; simp; omega, hx⟩
 |seqGo k1 p2 p3 p4 ih2 ih3 ih4 =>
  intro hq hx;have g2 := ih2 hq hx;have m2 := p2.mono hq;have g3 := ih3 m2.1 g2.2;have m3 := p3.mono m2.1;have g4 := ih4 m3.1 g3.2;rw [hnil] at g2;rw [h1] at g3;rw [happ] at g4;refine ⟨?_, g4.2⟩;have a := g2.1;have b := g3.1;have c := g4.1;simp at a b c ⊢;omega
 |seqEnd k1 => exact fun hq hx => ⟨by rw [hc]; simp; omega, hx⟩
 |star k1 p2 ih2 =>
  intro hq hx;have g2 := ih2 (dZ X _) (hax _);have hp := hq.2 (by omega) (by omega);rw [ha, h1, hc, h1] at g2;refine ⟨?_, g2.2⟩;have a := g2.1;rw [h1];simp at a ⊢;omega
 |opt k1 p2 ih2 =>
  intro hq hx;have g2 := ih2 (dZ X _) (hax _);have hp := hq.2 (by omega) (by omega);rw [ha, h1, hc, ah, h1, hc, hnil] at g2;refine ⟨?_, g2.2⟩;have a := g2.1;rw [h1];simp at a ⊢;omega
 |none k1 k2 => exact fun hq hx => ⟨by rw [h1]; simp, hx⟩
 |atom k1 =>
  intro hq hx;have hp := hq.2 (by omega) (by omega);refine ⟨?_, hax _⟩;rw [hx, hnil, ha];simp;omega
 |paren k1 p2 p3 k4 ih2 ih3 =>
  intro hq hx;have g2 := ih2 (dZ X _) (hax _);have m2 := p2.mono (dZ X _);have g3 := ih3 m2.1 g2.2;have m3 := p3.mono m2.1;have hp := hq.2 (by omega) (by omega);rw [ha, hnil] at g2;rw [h1] at g3;refine ⟨?_, hax _⟩;have a := g2.1;have b := g3.1;rw [hnil];have hm3 := m3.1.1;rw [ha];simp at a b ⊢;omega
 |bad k1 p2 p3 k4 ih2 ih3 =>
  intro hq hx;have g2 := ih2 (dZ X _) (hax _);have m2 := p2.mono (dZ X _);have g3 := ih3 m2.1 g2.2;have m3 := p3.mono m2.1;have hp := hq.2 (by omega) (by omega);rw [ha, hnil] at g2;rw [h1] at g3;refine ⟨?_, g3.2⟩;have a := g2.1;have b := g3.1;rw [hnil];rw [hbd];simp at a b ⊢;omega
end Rgx
namespace Rgx
def jv (X : Lx) (x : Rx) (v : Int) : Prop := ∃ r Q1, eH X (bg X (⟨0, .mk 0 [] [], 0, 0⟩ : PS)) r Q1 /\ (Q1.k = 1 -> x = bJ r /\ v = -1) /\ (Q1.k ≠ 1 -> x = .mk 0 [] [] /\ v = Q1.st)
end Rgx
def j6 (V : Bool) (L : List Lt) (S : List cB) (s : Alp.B) (w : World) (e : Ending) (w' : World) : Prop := ∃ x v A n c B m d, e = .returned (.tuple #[.agg #[.int .i64 x.kind, .slice A n c, .slice B m d], .int .i64 v]) /\ ai (fun b => w.heap.size <= b) w' x A n c B m d /\ Below w.heap.size w w' /\ (V = false -> x = .mk 0 [] [] /\ v = 0) /\ (V = true -> 1024 < s.length -> x = .mk 0 [] [] /\ v = 1024) /\ (V = true -> s.length <= 1024 -> ∃ X : Lx, X.L = L /\ X.S = S /\ X.s = s /\ jv X x v)
theorem AB (L : List Lt) (S : List cB) (A B : Option Addr) (n c m d : Nat) (s : Alp.B) (hs9 : s.length <= 9223372036854775807) (V : Bool) (w : World) (hn : n = L.length) (hc : n <= c) (hm : c <= 9223372036854775807) (hS : dV w S B m d) (hL : Rd w A (lv L)) (hV6 : V = true -> n <= 60 /\ ∀ l ∈ L, l.text.length <= 1000000) (hT : DB w) (hVA : ∀ W, Below w.heap.size w W -> Calls Tryz.prog 43 #[.slice A n c] W (aI W V)) (hV : V = false) : Calls Tryz.prog 32 #[.string (tb s), .slice A n c, .slice B m d] w (j6 V L S s w) := by
 subst hV;have HVA : Hid (Calls Tryz.prog 43 #[.slice A n c] (w.alloc zR) (aI (w.alloc zR) false)) := Lh (hVA _ (ag _ _));have hb1 : aa (w.alloc zR) w.heap.size zL 25 := aa.at w zL _ 25 _ rfl rfl;have HEND : Hid (∀ w2, Below (w.alloc zR).heap.size (w.alloc zR) w2 -> aa w2 w.heap.size zL 25 /\ ∀ W, aK w2 W w.heap.size zL 25 -> j6 false L S s w (.returned (.tuple #[.agg #[.int .i64 0, .slice none 0 0, .slice none 0 0], .int .i64 0])) W /\ aa W w.heap.size zL 25) := Lh fun w2 hb => ⟨hb1.below hb hb1.lt, fun W hst => ⟨⟨.mk 0 [] [], 0, none, 0, 0, none, 0, 0, rfl, ai.flat _ W (by constructor <;> decide), hst.below (ae (ag w _) hb) (Nat.le_refl _), fun _ => ⟨rfl, rfl⟩, fun h => (by cases h), fun h => (by cases h)⟩, hst.1⟩⟩
 clear hn hc hm hS hL hV6 hT hVA hb1;go_enter Tryz.func32, Tryz.ntmps32
 go_wp2_with (first
  |((with_reducible refine HVA.out.mono ?_); rintro e w2 hp; obtain ⟨rfl, hb⟩ := aN hp; have H2 := Lh (HEND.out w2 hb); clear hp hb)
  |(refine wB rfl 25 (.tmp 6) (.tmp 13) rfl w.heap.size 0 rfl zL rfl H2.out.1 3 au ?_; intro x5 hst5; have HX5 := Lh (H2.out.2 x5 hst5); clear hst5))
 exact dw rfl w.heap.size rfl (C := zL) (T := 25) HX5.out.2 _ Tryz.underlying25 rfl au rfl (.int .i64 0) rfl HX5.out.1
theorem FC (L : List Lt) (S : List cB) (A B : Option Addr) (n c m d : Nat) (s : Alp.B) (hs9 : s.length <= 9223372036854775807) (V : Bool) (w : World) (hn : n = L.length) (hc : n <= c) (hm : c <= 9223372036854775807) (hS : dV w S B m d) (hL : Rd w A (lv L)) (hV6 : V = true -> n <= 60 /\ ∀ l ∈ L, l.text.length <= 1000000) (hT : DB w) (hVA : ∀ W, Below w.heap.size w W -> Calls Tryz.prog 43 #[.slice A n c] W (aI W V)) (hV : V = true) (hl : 1024 < s.length) : Calls Tryz.prog 32 #[.string (tb s), .slice A n c, .slice B m d] w (j6 V L S s w) := by
 subst hV;have HVA : Hid (Calls Tryz.prog 43 #[.slice A n c] (w.alloc zR) (aI (w.alloc zR) true)) := Lh (hVA _ (ag _ _));have hb1 : aa (w.alloc zR) w.heap.size zL 25 := aa.at w zL _ 25 _ rfl rfl;have HEND : Hid (∀ w2, Below (w.alloc zR).heap.size (w.alloc zR) w2 -> aa w2 w.heap.size zL 25 /\ ∀ W, aK w2 W w.heap.size zL 25 -> j6 true L S s w (.returned (.tuple #[.agg #[.int .i64 0, .slice none 0 0, .slice none 0 0], .int .i64 1024])) W /\ aa W w.heap.size zL 25) := Lh fun w2 hb => ⟨hb1.below hb hb1.lt, fun W hst => ⟨⟨.mk 0 [] [], 1024, none, 0, 0, none, 0, 0, rfl, ai.flat _ W (by constructor <;> decide), hst.below (ae (ag w _) hb) (Nat.le_refl _), fun h => (by cases h), fun _ _ => ⟨rfl, rfl⟩, fun _ h => absurd hl (by omega)⟩, hst.1⟩⟩
 have hsz : (tb s).size = s.length := fP s;clear hn hc hm hS hL hV6 hT hVA hb1;have a2 : decide ((1024 : Int) < (s.length : Int)) = true := dT (by omega);go_enter Tryz.func32, Tryz.ntmps32
 go_wp2_with (first
  |((with_reducible refine HVA.out.mono ?_); rintro e w2 hp; obtain ⟨rfl, hb⟩ := aN hp; have H2 := Lh (HEND.out w2 hb); clear hp hb)
  |(refine wB rfl 25 (.tmp 6) (.tmp 17) rfl w.heap.size 0 rfl zL rfl H2.out.1 3 au ?_; intro x5 hst5; have HX5 := Lh (H2.out.2 x5 hst5); clear hst5))
 exact dw rfl w.heap.size rfl (C := zL) (T := 25) HX5.out.2 _ Tryz.underlying25 rfl au rfl (.int .i64 1024) rfl HX5.out.1
theorem Ff (L : List Lt) (S : List cB) (A B : Option Addr) (n c m d : Nat) (s : Alp.B) (hs9 : s.length <= 9223372036854775807) (V : Bool) (w : World) (hn : n = L.length) (hc : n <= c) (hm : c <= 9223372036854775807) (hS : dV w S B m d) (hL : Rd w A (lv L)) (hV6 : V = true -> n <= 60 /\ ∀ l ∈ L, l.text.length <= 1000000) (hT : DB w) (hVA : ∀ W, Below w.heap.size w W -> Calls Tryz.prog 43 #[.slice A n c] W (aI W V)) (hV : V = true) (hl : s.length <= 1024) : Calls Tryz.prog 32 #[.string (tb s), .slice A n c, .slice B m d] w (j6 V L S s w) := by
 subst hV;have HVA : Hid (Calls Tryz.prog 43 #[.slice A n c] (w.alloc zR) (aI (w.alloc zR) true)) := Lh (hVA _ (ag _ _));have HTK : Hid (∀ w2, Calls Tryz.prog 65 #[.string (tb s), .slice A n c, .slice B m d] w2 (qI s A n c B m d w2)) := Lh (DI s A n c B m d);have hb1 : aa (w.alloc zR) w.heap.size zL 25 := aa.at w zL _ 25 _ rfl rfl;have HB1 := Lh hb1;have HLX : Hid (∀ w2, Below (w.alloc zR).heap.size (w.alloc zR) w2 -> jD (⟨L, S, s, A, n, c, B, m, d, w2, w2.heap.size, w2.heap.size + 1 + 1 + 1, w2.heap.size + 1, w2.heap.size + 1 + 1, w2.heap.size + 1 + 1 + 1 + 1⟩ : Lx)) := Lh fun w2 hb => by
  have hbw : Below w.heap.size w w2 := ae (ag w _) hb;exact ⟨by show s.length <= _; omega, hn, hc, hm, hS.below hbw, hL.below hbw, (hV6 rfl).2, (hV6 rfl).1, hT.below hbw, by show w2.heap.size <= w2.heap.size + 1 + 1 + 1; omega, by show w2.heap.size <= (w2.heap.size + 1 + 1 + 1 + 1); omega, by refine ⟨?_, ?_, ?_, ?_, ?_, ?_, ?_⟩ <;> (dsimp only; omega)⟩
 have HST4 : Hid (∀ w2, Below (w.alloc zR).heap.size (w.alloc zR) w2 -> aa (((((w2.alloc (.cells #[.string (tb s)] 9)).alloc (.cells #[.slice A n c] 39)).alloc (.cells #[.slice B m d] 40)).alloc (.cells #[.int .i64 0] 3)).alloc (.cells #[.nilFunc, .int .u8 0, .int .i64 0, .int .i64 0, .slice none 0 0, .slice none 0 0] 82)) (w2.heap.size + 1 + 1 + 1 + 1) [.nilFunc, .int .u8 0, .int .i64 0, .int .i64 0, .slice none 0 0, .slice none 0 0] 82 /\ ∀ x4, aK (((((w2.alloc (.cells #[.string (tb s)] 9)).alloc (.cells #[.slice A n c] 39)).alloc (.cells #[.slice B m d] 40)).alloc (.cells #[.int .i64 0] 3)).alloc (.cells #[.nilFunc, .int .u8 0, .int .i64 0, .int .i64 0, .slice none 0 0, .slice none 0 0] 82)) x4 (w2.heap.size + 1 + 1 + 1 + 1) [.func (.func 97) #[] #[.pointer (some ⟨w2.heap.size, 0, none⟩), .pointer (some ⟨w2.heap.size + 1 + 1 + 1, 0, none⟩), .pointer (some ⟨w2.heap.size + 1, 0, none⟩), .pointer (some ⟨w2.heap.size + 1 + 1, 0, none⟩)], .int .u8 0, .int .i64 0, .int .i64 0, .slice none 0 0, .slice none 0 0] 82 -> aR (⟨L, S, s, A, n, c, B, m, d, w2, w2.heap.size, w2.heap.size + 1 + 1 + 1, w2.heap.size + 1, w2.heap.size + 1 + 1, w2.heap.size + 1 + 1 + 1 + 1⟩ : Lx) (fun b => b < w2.heap.size) (⟨0, .mk 0 [] [], 0, 0⟩ : PS) x4 /\ Below w2.heap.size w2 x4) := Lh fun w2 hb => by
  refine ⟨aa.at ((((w2.alloc (.cells #[.string (tb s)] 9)).alloc (.cells #[.slice A n c] 39)).alloc (.cells #[.slice B m d] 40)).alloc (.cells #[.int .i64 0] 3)) [.nilFunc, .int .u8 0, .int .i64 0, .int .i64 0, .slice none 0 0, .slice none 0 0] _ 82 _ rfl (by simp), fun x4 hst => ?_⟩;have hbb : Below w2.heap.size w2 (((((w2.alloc (.cells #[.string (tb s)] 9)).alloc (.cells #[.slice A n c] 39)).alloc (.cells #[.slice B m d] 40)).alloc (.cells #[.int .i64 0] 3)).alloc (.cells #[.nilFunc, .int .u8 0, .int .i64 0, .int .i64 0, .slice none 0 0, .slice none 0 0] 82)) := aB (aB (aB (aB (ag w2 _) _) _) _) _;have hb4 := hst.below hbb (by omega);have k1 : aa x4 w2.heap.size [.string (tb s)] 9 := hst.other (((((aa.at w2 [.string (tb s)] _ 9 _ rfl rfl).alloc _).alloc _).alloc _).alloc _) (by omega);have k2 : aa x4 (w2.heap.size + 1) [.slice A n c] 39 := hst.other ((((aa.at (w2.alloc (.cells #[.string (tb s)] 9)) [.slice A n c] _ 39 _ rfl (by simp)).alloc _).alloc _).alloc _) (by omega);have k3 : aa x4 (w2.heap.size + 1 + 1) [.slice B m d] 40 := hst.other (((aa.at ((w2.alloc (.cells #[.string (tb s)] 9)).alloc (.cells #[.slice A n c] 39)) [.slice B m d] _ 40 _ rfl (by simp)).alloc _).alloc _) (by omega);have k4 : aa x4 (w2.heap.size + 1 + 1 + 1) [.int .i64 0] 3 := hst.other ((aa.at (((w2.alloc (.cells #[.string (tb s)] 9)).alloc (.cells #[.slice A n c] 39)).alloc (.cells #[.slice B m d] 40)) [.int .i64 0] _ 3 _ rfl (by simp)).alloc _) (by omega);exact ⟨⟨hb4, Nat.zero_le _, k1.cell (j := 0) rfl, k4, k2.cell (j := 0) rfl, k3.cell (j := 0) rfl, none, 0, 0, none, 0, 0, hst.1, ai.flat _ x4 (by constructor <;> decide)⟩, hb4⟩
 have HADV : Hid (∀ w2 W, Below (w.alloc zR).heap.size (w.alloc zR) w2 -> aR (⟨L, S, s, A, n, c, B, m, d, w2, w2.heap.size, w2.heap.size + 1 + 1 + 1, w2.heap.size + 1, w2.heap.size + 1 + 1, w2.heap.size + 1 + 1 + 1 + 1⟩ : Lx) (fun b => b < w2.heap.size) (⟨0, .mk 0 [] [], 0, 0⟩ : PS) W -> Calls Tryz.prog 66 #[.pointer (some ⟨(w2.heap.size + 1 + 1 + 1 + 1), 0, none⟩)] W (kw (⟨L, S, s, A, n, c, B, m, d, w2, w2.heap.size, w2.heap.size + 1 + 1 + 1, w2.heap.size + 1, w2.heap.size + 1 + 1, w2.heap.size + 1 + 1 + 1 + 1⟩ : Lx) (fun b => b < w2.heap.size) (⟨0, .mk 0 [] [], 0, 0⟩ : PS) W)) := Lh fun w2 W hb hp => nN (⟨L, S, s, A, n, c, B, m, d, w2, w2.heap.size, w2.heap.size + 1 + 1 + 1, w2.heap.size + 1, w2.heap.size + 1 + 1, w2.heap.size + 1 + 1 + 1 + 1⟩ : Lx) (HLX.out w2 hb) _ (⟨0, .mk 0 [] [], 0, 0⟩ : PS) W hp
 have HALT : Hid (∀ (w2 x4 W : World), Below (w.alloc zR).heap.size (w.alloc zR) w2 -> aR (⟨L, S, s, A, n, c, B, m, d, w2, w2.heap.size, w2.heap.size + 1 + 1 + 1, w2.heap.size + 1, w2.heap.size + 1 + 1, w2.heap.size + 1 + 1 + 1 + 1⟩ : Lx) (fun b => b < w2.heap.size \/ x4.heap.size <= b) (bg (⟨L, S, s, A, n, c, B, m, d, w2, w2.heap.size, w2.heap.size + 1 + 1 + 1, w2.heap.size + 1, w2.heap.size + 1 + 1, w2.heap.size + 1 + 1 + 1 + 1⟩ : Lx) (⟨0, .mk 0 [] [], 0, 0⟩ : PS)) W -> Calls Tryz.prog 67 #[.pointer (some ⟨(w2.heap.size + 1 + 1 + 1 + 1), 0, none⟩)] W (dM eH (⟨L, S, s, A, n, c, B, m, d, w2, w2.heap.size, w2.heap.size + 1 + 1 + 1, w2.heap.size + 1, w2.heap.size + 1 + 1, w2.heap.size + 1 + 1 + 1 + 1⟩ : Lx) (fun b => b < w2.heap.size \/ x4.heap.size <= b) (bg (⟨L, S, s, A, n, c, B, m, d, w2, w2.heap.size, w2.heap.size + 1 + 1 + 1, w2.heap.size + 1, w2.heap.size + 1 + 1, w2.heap.size + 1 + 1 + 1 + 1⟩ : Lx) (⟨0, .mk 0 [] [], 0, 0⟩ : PS)) W)) := Lh fun w2 x4 W hb hp => wK (uy (⟨L, S, s, A, n, c, B, m, d, w2, w2.heap.size, w2.heap.size + 1 + 1 + 1, w2.heap.size + 1, w2.heap.size + 1 + 1, w2.heap.size + 1 + 1 + 1 + 1⟩ : Lx) (HLX.out w2 hb) (s.length + 1)) (fun b hb => .inl hb) hp (dZ _ _) (by show s.length - 0 < s.length + 1; omega)
 have HAF : Hid (∀ (w2 x4 x5 x6 : World) (r : Rx) (Q1 : PS) (A4 : Option Addr) (n4 c4 : Nat) (B4 : Option Addr) (m4 d4 : Nat), Below (w.alloc zR).heap.size (w.alloc zR) w2 -> Below w2.heap.size w2 x4 -> Kq (⟨L, S, s, A, n, c, B, m, d, w2, w2.heap.size, w2.heap.size + 1 + 1 + 1, w2.heap.size + 1, w2.heap.size + 1 + 1, w2.heap.size + 1 + 1 + 1 + 1⟩ : Lx) x4 x5 -> eH (⟨L, S, s, A, n, c, B, m, d, w2, w2.heap.size, w2.heap.size + 1 + 1 + 1, w2.heap.size + 1, w2.heap.size + 1 + 1, w2.heap.size + 1 + 1 + 1 + 1⟩ : Lx) (bg (⟨L, S, s, A, n, c, B, m, d, w2, w2.heap.size, w2.heap.size + 1 + 1 + 1, w2.heap.size + 1, w2.heap.size + 1 + 1, w2.heap.size + 1 + 1 + 1 + 1⟩ : Lx) (⟨0, .mk 0 [] [], 0, 0⟩ : PS)) r Q1 -> ai (fun b => ((b < w2.heap.size \/ x4.heap.size <= b) \/ x5.heap.size <= b) /\ b ≠ (w2.heap.size + 1 + 1 + 1 + 1) /\ b ≠ w2.heap.size + 1 + 1 + 1) x6 r A4 n4 c4 B4 m4 d4 -> aR (⟨L, S, s, A, n, c, B, m, d, w2, w2.heap.size, w2.heap.size + 1 + 1 + 1, w2.heap.size + 1, w2.heap.size + 1 + 1, w2.heap.size + 1 + 1 + 1 + 1⟩ : Lx) (fun b => (b < w2.heap.size \/ x4.heap.size <= b) \/ x5.heap.size <= b) Q1 x6 -> Kq (⟨L, S, s, A, n, c, B, m, d, w2, w2.heap.size, w2.heap.size + 1 + 1 + 1, w2.heap.size + 1, w2.heap.size + 1 + 1, w2.heap.size + 1 + 1 + 1 + 1⟩ : Lx) x5 x6 -> aa (x6.alloc zR) x6.heap.size zL 25 /\ ∀ x7, aK (x6.alloc zR) x7 x6.heap.size (zV r.kind A4 n4 c4 B4 m4 d4) 25 -> (∃ v u2 u3 u4, aa x7 (w2.heap.size + 1 + 1 + 1 + 1) [v, .int .u8 (Q1.k : Int), .int .i64 (Q1.st : Int), u2, u3, u4] 82) /\ aC x7 r A4 n4 c4 B4 m4 d4 /\ aa x7 x6.heap.size (zV r.kind A4 n4 c4 B4 m4 d4) 25 /\ aa x7 w.heap.size zL 25 /\ Below w.heap.size w x7 /\ av r <= 1000000000000 /\ w.heap.size < x6.heap.size /\ Q1.st <= s.length) := Lh fun w2 x4 x5 x6 r Q1 A4 n4 c4 B4 m4 d4 hb h4 h5 g1 g2 g3 g4 => by
  refine ⟨aa.at x6 zL _ 25 _ rfl rfl, fun x7 hst => ?_⟩;have hx := HLX.out w2 hb;have hb7 : Below x6.heap.size x6 x7 := hst.below (ag x6 _) (Nat.le_refl _);have hb6 : Below w2.heap.size w2 x6 := Kq.below hx g4 (Kq.below hx h5 h4);have hbw : Below w.heap.size w w2 := ae (ag w _) hb;have hbx : Below w2.heap.size w2 x7 := hb6.trans (hb7.mono hb6.size);obtain ⟨Ax, nx, cx, Bx, mx, dx, e1, e2⟩ := (g3.below hb7).c5;have hlw : w.heap.size < w2.heap.size := by have := hb.size; simp at this; omega
  obtain ⟨r0, Q0, p1, p2⟩ := g1;have m1 := p1.mono (dZ _ _);have m2 := p2.mono m1.1;have k1 := p1.cnt (dZ _ _) (yL _ _ _);have k2 := p2.cnt m1.1 k1.2;have hle := g3.hle;refine ⟨⟨_, _, _, _, e1⟩, g2.o.below hb7, hst.1, ((HB1.out.below hb HB1.out.lt).below (hbx.mono (Nat.le_refl _)) (HB1.out.below hb HB1.out.lt).lt), hbw.trans (hbx.mono hbw.size), ?_, by have := hb6.size; omega, Nat.le_trans m2.1.1 hle⟩;have a := k1.1;have b := k2.1;have hst0 : (bg (⟨L, S, s, A, n, c, B, m, d, w2, w2.heap.size, w2.heap.size + 1 + 1 + 1, w2.heap.size + 1, w2.heap.size + 1 + 1, w2.heap.size + 1 + 1 + 1 + 1⟩ : Lx) (⟨0, .mk 0 [] [], 0, 0⟩ : PS)).st = 0 := rfl;have hcl : ∀ y : Rx, ah [y] = av y := fun y => by rw [ah, ah]; omega
  have hcn : ah [] = 0 := by rw [ah]
  rw [hst0, hcn] at a;rw [hcl] at b;have h9 : Q1.st <= s.length := Nat.le_trans m2.1.1 hle;simp at a b;omega
 have hsz : (tb s).size = s.length := fP s;have a2 : decide ((1024 : Int) < (s.length : Int)) = false := dF (by omega);have HC : Hid (n <= c /\ c <= 9223372036854775807 /\ DB w) := Lh ⟨hc, hm, hT⟩;clear hn hS hL hV6 hT hVA hb1;go_enter Tryz.func32, Tryz.ntmps32
 go_upto_region 8 with (first
  |((with_reducible refine HVA.out.mono ?_); rintro e w2 hp; obtain ⟨rfl, hb⟩ := aN hp; have H2 := Lh hb; clear hp hb)
  |((with_reducible refine (HTK.out w2).mono ?_); rintro e w3 hp; obtain ⟨rfl, rfl⟩ := BR hp; clear hp; have HS4 := Lh (HST4.out w2 H2.out))
  |(refine wB rfl 82 (.tmp 8) (.tmp 22) rfl (w2.heap.size + 1 + 1 + 1 + 1) 0 rfl [.func (.func 97) #[] #[.pointer (some ⟨w2.heap.size, 0, none⟩), .pointer (some ⟨w2.heap.size + 1 + 1 + 1, 0, none⟩), .pointer (some ⟨w2.heap.size + 1, 0, none⟩), .pointer (some ⟨w2.heap.size + 1 + 1, 0, none⟩)], .int .u8 0, .int .i64 0, .int .i64 0, .slice none 0 0, .slice none 0 0] rfl HS4.out.1 6 Hq ?_; intro x4 hst4; have H4 := Lh (HS4.out.2 x4 hst4); clear hst4)
  |((with_reducible refine (HADV.out w2 x4 H2.out H4.out.1).mono ?_); rintro e x5 hp; obtain ⟨rfl, g1, g2⟩ := kQ hp; have H5 := Lh (And.intro g1 g2); clear hp g1 g2)
  |((with_reducible refine (HALT.out w2 x4 x5 H2.out H5.out.1).mono ?_); rintro e x6 hp; obtain ⟨r, Q1, A4, n4, c4, B4, m4, d4, rfl, g1, g2, g3, g4⟩ := kX hp; have H6 := Lh (HAF.out w2 x4 x5 x6 r Q1 A4 n4 c4 B4 m4 d4 H2.out H4.out.2 H5.out.2 g1 g2 g3 g4); have HR := Lh g1; clear hp g1 g2 g3 g4)
  |(refine wB rfl 25 (.tmp 9) (.tmp 24) rfl x6.heap.size 0 rfl (zV r.kind A4 n4 c4 B4 m4 d4) rfl H6.out.1 3 au ?_; intro x7 hst7; have H7 := Lh (H6.out.2 x7 hst7); clear hst7))
 (try simp only [Act.put]);obtain ⟨fv, u2, u3, u4, hpb⟩ := H7.out.1;have hck := hpb.cell (j := 1) rfl;have hca := hpb.cell (j := 2) rfl;clear hpb;obtain ⟨k1, hk1⟩ : ∃ k, k = Q1.k := ⟨_, rfl⟩;obtain ⟨s1, hs1⟩ : ∃ k, k = Q1.st := ⟨_, rfl⟩;rw [<- hk1] at hck;rw [<- hs1] at hca;have HK1 : Hid (k1 = Q1.k /\ s1 = Q1.st) := Lh ⟨hk1, hs1⟩;have hr7 : x7.rangeAt x6.heap.size 0 (zV r.kind A4 n4 c4 B4 m4 d4) := fun j u hu => by rw [Nat.zero_add]; exact H7.out.2.2.1.cell hu
 by_cases hk : k1 = 1
 ·have HSI : Hid (Calls Tryz.prog 19 #[.agg #[.int .i64 r.kind, .slice A4 n4 c4, .slice B4 m4 d4]] x7 (dn (fun _ => False) x7 (bJ r))) := Lh (qi (HC.out.2.2.below H7.out.2.2.2.2.1) r H7.out.2.2.2.2.2.1 H7.out.2.1);obtain ⟨K8, hK8⟩ : ∃ K, K = (bJ r).kind := ⟨_, rfl⟩;have HEND : Hid (∀ e x8, dn (fun _ => False) x7 (bJ r) e x8 -> ∃ A8 n8 c8 B8 m8 d8, e = .returned (.agg #[.int .i64 K8, .slice A8 n8 c8, .slice B8 m8 d8]) /\ aa x8 w.heap.size zL 25 /\ ∀ x9, aK x8 x9 w.heap.size (zV K8 A8 n8 c8 B8 m8 d8) 25 -> j6 true L S s w (.returned (.tuple #[.agg #[.int .i64 K8, .slice A8 n8 c8, .slice B8 m8 d8], .int .i64 (-1)])) x9 /\ aa x9 w.heap.size (zV K8 A8 n8 c8 B8 m8 d8) 25) := Lh fun e x8 hh => by
   obtain ⟨A8, n8, c8, B8, m8, d8, rfl, q1, q2⟩ := hh;have h7 := H7.out;have hs7 : w.heap.size < x7.heap.size := h7.2.2.2.1.lt;have hb8 := h7.2.2.2.2.1.trans (q2.mono h7.2.2.2.2.1.size);refine ⟨A8, n8, c8, B8, m8, d8, by rw [hK8], h7.2.2.2.1.below q2 hs7, fun x9 hst => ⟨⟨bJ r, -1, A8, n8, c8, B8, m8, d8, by rw [hK8], ?_, hst.below hb8 (Nat.le_refl _), fun h => (by cases h), fun _ h => absurd h (by omega), fun _ _ => ⟨(⟨L, S, s, A, n, c, B, m, d, w2, w2.heap.size, w2.heap.size + 1 + 1 + 1, w2.heap.size + 1, w2.heap.size + 1 + 1, w2.heap.size + 1 + 1 + 1 + 1⟩ : Lx), rfl, rfl, rfl, r, Q1, HR.out, fun _ => ⟨rfl, rfl⟩, fun h => absurd (by rw [<- HK1.out.1]; exact hk) h⟩⟩, hst.1⟩⟩;exact (q1.grown (bv hst) (fun b hb e => by have := Option.some.inj e; rcases hb with hb | hb; (cases hb); omega)).mono fun b hb => by rcases hb with hb | hb; (cases hb); omega
  subst hk;clear hk1 hs1 hK8
  go_wp2_with (first
   | (refine aA rfl (.tmp 9) rfl x6.heap.size (0) rfl r.kind A4 B4 n4 c4 m4 d4 hr7 ?_)
   | ((with_reducible refine HSI.out.mono ?_); rintro e x8 hp; obtain ⟨A8, n8, c8, B8, m8, d8, rfl, q1⟩ := HEND.out e x8 hp; have H8 := Lh q1; clear hp q1)
   | (refine wB rfl 25 (.tmp 6) (.tmp 34) rfl w.heap.size 0 rfl (zV K8 A8 n8 c8 B8 m8 d8) rfl H8.out.1 3 au ?_; intro x9 hst9; have HX9 := Lh (H8.out.2 x9 hst9); clear hst9))
  exact dw rfl w.heap.size rfl (C := (zV K8 A8 n8 c8 B8 m8 d8)) (T := 25) HX9.out.2 _ Tryz.underlying25 rfl au rfl (.int .i64 (-1)) rfl HX9.out.1
 ·have b1 : ((k1 : Int) != 1) = true := by simp; omega
  have HSB : Hid (∀ W : World, W.heap = x7.heap -> W.cell? ⟨(w2.heap.size + 1 + 1 + 1 + 1), 2, none⟩ = some (.int .i64 (s1 : Int))) := Lh fun W h => (Dx h _).trans hca
  have HZ7 := Lh H7.out.2.2.2.1;have HEND : Hid (∀ x9, aK x7.drew x9 w.heap.size zL 25 -> j6 true L S s w (.returned (.tuple #[.agg #[.int .i64 0, .slice none 0 0, .slice none 0 0], .int .i64 (s1 : Int)])) x9 /\ aa x9 w.heap.size zL 25 /\ x9.cell? ⟨(w2.heap.size + 1 + 1 + 1 + 1), 2, none⟩ = some (.int .i64 (s1 : Int))) := Lh fun x9 hst => by
   have h7 := H7.out;refine ⟨⟨.mk 0 [] [], s1, none, 0, 0, none, 0, 0, rfl, ai.flat _ x9 (by constructor <;> decide), hst.below (ae h7.2.2.2.2.1 (below_drewN (Below.refl _ _) 1)) (Nat.le_refl _), fun h => (by cases h), fun _ h => absurd h (by omega), fun _ _ => ⟨(⟨L, S, s, A, n, c, B, m, d, w2, w2.heap.size, w2.heap.size + 1 + 1 + 1, w2.heap.size + 1, w2.heap.size + 1 + 1, w2.heap.size + 1 + 1 + 1 + 1⟩ : Lx), rfl, rfl, rfl, r, Q1, HR.out, fun h => absurd (by rw [HK1.out.1]; exact h) hk, fun _ => ⟨rfl, by rw [HK1.out.2]⟩⟩⟩, hst.1, ?_⟩;exact hst.cell (by have := H2.out.size; simp at this; omega) hca
  clear hk1 hs1 hk;go_wp2_with fail;refine wp_region_held_drew (S := fun w' => w'.cell? ⟨(w2.heap.size + 1 + 1 + 1 + 1), 2, none⟩ = some (.int .i64 (s1 : Int))) (by kernel_rfl) (HSB.out _ rfl) (fun hS0 => ?_);refine bW 0 ?_;refine bW 1 ?_;refine bW 2 ?_;refine wpAnyH_take (i := 3) (oi := { dst := some 32, op := Op.load 3 (Operand.tmp 31), type := 3, pos := "pattern.go:37", after := #[{ on := 2, ground := Ground.data }, { on := 4, ground := Ground.gcOnly Departure.lateStores }], guard := none }) (v := ?_) rfl (by kernel_rfl) (by kernel_rfl) (by kernel_rfl) (fun _ _ _ h => h) (Or.inl ⟨by rfl, ?_⟩) (by assumption) ?_
  rotate_left
  ·(intro w' hSw; (try dsimp only at hSw); go_simp; try with_reducible rfl)
  (try simp only [Act.put, pP]);refine wpAnyH_ready (rs := [4]) (by kernel_rfl) (by simp) ?_;refine AllReadyH.cons (o := ⟨none, .store 25 (.tmp 6) (.tmp 29), 0, _, _, none⟩) rfl (fun K0 hK => ?_) AllReadyH.nil
  refine oH rfl 25 (.tmp 6) (.tmp 29) rfl w.heap.size rfl zL rfl HZ7.out au rfl (by simp [Value.oneCell']) ?_;intro x9 hst9;have HX9 := Lh (HEND.out x9 hst9);clear hst9;refine hK.out _ _ HX9.out.2.2 (fun hS1 => ?_);clear hK K0 hS0;(try simp only [Act.put, pP]);refine bW 5 ?_;refine wpAnyH_done (by kernel_rfl) ?_ _;go_wp2_with fail;exact dw rfl w.heap.size rfl (C := zL) (T := 25) HX9.out.2.1 _ Tryz.underlying25 rfl au rfl (.int .i64 (s1 : Int)) rfl HX9.out.1
theorem EU (L : List Lt) (S : List cB) (A B : Option Addr) (n c m d : Nat) (s : Alp.B) (hs9 : s.length <= 9223372036854775807) (V : Bool) (w : World) (hn : n = L.length) (hc : n <= c) (hm : c <= 9223372036854775807) (hS : dV w S B m d) (hL : Rd w A (lv L)) (hV6 : V = true -> n <= 60 /\ ∀ l ∈ L, l.text.length <= 1000000) (hT : DB w) (hVA : ∀ W, Below w.heap.size w W -> Calls Tryz.prog 43 #[.slice A n c] W (aI W V)) : Calls Tryz.prog 32 #[.string (tb s), .slice A n c, .slice B m d] w (j6 V L S s w) := by
 cases V with
 |false => exact AB L S A B n c m d s hs9 false w hn hc hm hS hL hV6 hT hVA rfl
 |true =>
  by_cases hl : 1024 < s.length
  ·exact FC L S A B n c m d s hs9 true w hn hc hm hS hL hV6 hT hVA rfl hl
  ·exact Ff L S A B n c m d s hs9 true w hn hc hm hS hL hV6 hT hVA rfl (by omega)
namespace Rgx
theorem uF {X Y : Lx} (hL : X.L = Y.L) (hS : X.S = Y.S) (hs : X.s = Y.s) (Q : PS) : bg X Q = bg Y Q := by unfold bg; rw [hL, hS, hs]
theorem PR.same {X Y : Lx} (hL : X.L = Y.L) (hS : X.S = Y.S) (hs : X.s = Y.s) {t : Nat} {ks : List Rx} {Q : PS} {x : Rx} {Q1 : PS} (h : PR X t ks Q x Q1) : PR Y t ks Q x Q1 := by
 have ha := uF hL hS hs
 induction h with
 |altGo k1 p2 p3 ih2 ih3 => rw [ha] at ih2; exact .altGo k1 ih2 ih3
 |altEnd k1 => exact .altEnd k1
 |seqGo k1 p2 p3 p4 ih2 ih3 ih4 => exact .seqGo k1 ih2 ih3 ih4
 |seqEnd k1 => exact .seqEnd k1
 |star k1 p2 ih2 => rw [ha] at ih2; exact .star k1 ih2
 |opt k1 p2 ih2 => rw [ha] at ih2; exact .opt k1 ih2
 |none k1 k2 => exact .none k1 k2
 |atom k1 => rw [ha]; exact .atom k1
 |paren k1 p2 p3 k4 ih2 ih3 => rw [ha] at ih2 ⊢; exact .paren k1 ih2 ih3 k4
 |bad k1 p2 p3 k4 ih2 ih3 => rw [ha] at ih2; exact .bad k1 ih2 ih3 k4
theorem eH.same {X Y : Lx} (hL : X.L = Y.L) (hS : X.S = Y.S) (hs : X.s = Y.s) {Q Q1 : PS} {x : Rx} (h : eH X Q x Q1) : eH Y Q x Q1 := by
 obtain ⟨r, Q0, p1, p2⟩ := h;exact ⟨r, Q0, p1.same hL hS hs, p2.same hL hS hs⟩
theorem eH.one {X : Lx} {Q Q1 Q2 : PS} {x y : Rx} (h : eH X Q x Q1) (k : eH X Q y Q2) : x = y /\ Q1 = Q2 := by
 obtain ⟨r, Q0, p1, p2⟩ := h;obtain ⟨r', Q0', p1', p2'⟩ := k;obtain ⟨rfl, rfl⟩ := p1.one p1';exact p2.one p2'
theorem jv.same {X Y : Lx} (hL : X.L = Y.L) (hS : X.S = Y.S) (hs : X.s = Y.s) {x : Rx} {v : Int} (h : jv X x v) : jv Y x v := by
 obtain ⟨r, Q1, h1, h2, h3⟩ := h;rw [uF hL hS hs] at h1;exact ⟨r, Q1, h1.same hL hS hs, h2, h3⟩
end Rgx
structure dh (pb : Nat) (v : Value) (A : Option Addr) (n c : Nat) (fl : Bool) (t : Alp.B) (w : World) : Prop where
 box : aa w pb [.slice A n c, v, .bool fl] 92
 row : w.ownsRow (pb + 1) 5 1 v t.length (bs t)
theorem dh.lt {pb : Nat} {v : Value} {A : Option Addr} {n c : Nat} {fl : Bool} {t : Alp.B} {w : World} (h : dh pb v A n c fl t w) : pb < w.heap.size /\ ∀ g, v.ownBlock = some g -> pb < g /\ g < w.heap.size := ⟨h.box.lt, fun g hg => by have := h.row.lt g hg; omega⟩
theorem dh.below {pb : Nat} {v : Value} {A : Option Addr} {n c : Nat} {fl : Bool} {t : Alp.B} {w w1 : World} (h : dh pb v A n c fl t w) (hb : Below w.heap.size w w1) : dh pb v A n c fl t w1 := ⟨h.box.below hb h.box.lt, dW h.row hb⟩
theorem dh.app {pb : Nat} {v v5 : Value} {A : Option Addr} {n c : Nat} {fl : Bool} {t ys : Alp.B} {w x w5 : World} (h : dh pb v A n c fl t w) (hb : Below w.heap.size w x) (hown : w5.ownsRow (pb + 1) 5 1 v5 (t.length + ys.length) (bs t ++ bs ys)) (hg : x.grownBy w5 v.ownBlock) (hat : v5.ownBlock = v.ownBlock \/ v5.ownBlock = some x.heap.size) : aa w5 pb [.slice A n c, v, .bool fl] 92 /\ ∀ w9, aK w5 w9 pb [.slice A n c, v5, .bool fl] 92 -> dh pb v5 A n c fl (t ++ ys) w9 /\ Kp pb v w w9 /\ Nw w v v5 := by
 have hlt := h.lt;have hx := hb.size;have hbox : aa w5 pb [.slice A n c, v, .bool fl] 92 := (hg.block pb (by omega) (fun e => by have := hlt.2 pb e.symm; omega)).trans (h.box.below hb h.box.lt);refine ⟨hbox, fun w9 hst => ⟨⟨hst.1, ?_⟩, ?_, ?_⟩⟩
 ·have ho5 : v5.ownBlock ≠ some pb := fun e => by have := (hown.lt pb e).1; omega
  have h1 := hown.kept (row := some pb) (bv hst) (.inr ho5);rw [List.length_append, show bs (t ++ ys) = bs t ++ bs ys by simp [bs]];exact h1
 ·exact ⟨hst.2.2.2.1.trans (hg.os.trans hb.os), hst.2.2.2.2.1.trans (hg.tape.trans hb.tape), hst.2.2.2.2.2.trans (hg.output.trans hb.output), by rw [hst.2.2.1]; have := hg.size; omega, fun k hk h1 h2 => (hst.2.1 k h1).trans ((hg.block k (by omega) h2).trans (hb.block k hk))⟩
 ·exact hat.imp id fun h => ⟨_, h, hx⟩
def aH (pb : Nat) (v : Value) (A : Option Addr) (n c : Nat) (fl : Bool) (t : Alp.B) (w : World) (e : Ending) (w' : World) : Prop := e = .returned (.tuple #[]) /\ ∃ v', dh pb v' A n c fl t w' /\ Kp pb v w w' /\ Nw w v v'
theorem iw {pb : Nat} {v : Value} {A : Option Addr} {n c : Nat} {fl : Bool} {t : Alp.B} {w w' : World} {e : Ending} (h : aH pb v A n c fl t w e w') : e = .returned (.tuple #[]) /\ ∃ v', dh pb v' A n c fl t w' /\ Kp pb v w w' /\ Nw w v v' := h
theorem tV : (Tryz.prog.info? 45).map (·.size) = some 1 := by kernel_rfl
theorem gK {pb : Nat} {v : Value} {A : Option Addr} {n c : Nat} {fl : Bool} {t : Alp.B} (w : World) (h : dh pb v A n c fl t w) (b : UInt8) (ht : t.length <= 1000000000) : Calls Tryz.prog 107 #[.pointer (some ⟨pb, 0, none⟩), .int .u8 (b.toNat : Int)] w (aH pb v A n c fl (t ++ [b]) w) := by
 obtain ⟨i0, hi0, hz0, hz1, hz2⟩ := info_parts tT;obtain ⟨B5, d5, hv, _⟩ := Rd.of_own h.row;obtain ⟨N5, hN5⟩ : ∃ N, N = t.length := ⟨_, rfl⟩;rw [<- hN5] at hv;subst hv;obtain ⟨x, hx⟩ : ∃ x, x = (b.toNat : Int) := ⟨_, rfl⟩;have hb0 : w.cell? ⟨pb, 1, none⟩ = some (.slice B5 N5 d5) := h.box.cell (j := 1) rfl;have HO : Hid (w.ownsRow (pb + 1) 5 1 (.slice B5 N5 d5) N5 (bs t) /\ pb < w.heap.size) := Lh ⟨by have h1 := h.row; rwa [<- hN5] at h1, h.lt.1⟩;have HAP : Hid (∀ v5 w5, w5.ownsRow (pb + 1) 5 1 v5 (N5 + 1) (bs t ++ [.int .u8 x]) -> (w.alloc (.cells #[.int .u8 x] 5)).grownBy w5 (Value.slice B5 N5 d5).ownBlock -> (v5.ownBlock = (Value.slice B5 N5 d5).ownBlock \/ v5.ownBlock = some (w.alloc (.cells #[.int .u8 x] 5)).heap.size) -> aa w5 pb [.slice A n c, .slice B5 N5 d5, .bool fl] 92 /\ ∀ w9, aK w5 w9 pb [.slice A n c, v5, .bool fl] 92 -> aH pb (.slice B5 N5 d5) A n c fl (t ++ [b]) w (.returned (.tuple #[])) w9) := Lh fun v5 w5 hown hg hat => by
  rw [hN5, hx] at hown;have h1 := h.app (ys := [b]) (ag w _) hown hg hat;exact ⟨h1.1, fun w9 hst => ⟨rfl, v5, h1.2 w9 hst⟩⟩
 have hs1 : N5 + 1 <= maxLen := by unfold maxLen; omega
 have hs2 : (N5 + 1) * 1 <= 140737488355328 := by omega
 rw [<- hx];clear h hN5 hx;go_enter Tryz.func107, Tryz.ntmps107
 go_wp2_with (first
  |(at_builtin; refine eu rfl (.tmp 8) (.tmp 10) 45 45 rfl (pb + 1) 5 i0 _ 1 1 Tryz.underlying45 hi0 hz0 hz1 hz2 rfl _ _ _ rfl (dW HO.out.1 (ag _ _)) _ 1 [.int .u8 x] rfl (qj Tryz.underlying45 hz1 w (.int .u8 x) 5 rfl) hs1 hs2 (by have := HO.out.2; simp; omega) ?_; intro v9 w9 hown9 hg9 hat9; obtain ⟨A6, c6, hv6, _⟩ := Rd.of_own hown9; subst hv6; have HX9 := Lh (HAP.out _ _ hown9 hg9 hat9); clear hown9 hg9 hat9)
  |(refine lC rfl 45 (.tmp 13) (.tmp 11) rfl pb 1 rfl A6 (N5 + 1) c6 rfl HX9.out.1 (by simp) tV ?_; intro w8 hst8; have HX8 := Lh (HX9.out.2 w8 hst8); clear hst8))
 go_end0;exact HX8.out
def iT (r : Rx) (N : Nat) : Bool := decide (r.syms.length = 1 /\ r.syms.getD 0 0 < (N : Int))
theorem rF (r : Rx) (A B : Option Addr) (n c m d : Nat) (w : World) (h : aC w r A n c B m d) (pb : Nat) (AL : Option Addr) (N cN : Nat) (hp : w.cell? ⟨pb, 0, none⟩ = some (.slice AL N cN)) : Calls Tryz.prog 136 #[.pointer (some ⟨pb, 0, none⟩), .agg #[.int .i64 r.kind, .slice A n c, .slice B m d]] w (aI w (iT r N)) := by
 obtain ⟨K, hK⟩ : ∃ K, K = r.kind := ⟨_, rfl⟩;obtain ⟨V, hV⟩ : ∃ V, V = iT r N := ⟨_, rfl⟩;have hnl := h.nlen;rw [<- hK, <- hV]
 by_cases n1 : n = 1
 ·subst n1;obtain ⟨x, hx⟩ : ∃ x, r.syms = [x] := by
   match hq : r.syms, hnl with
   |[x], _ => exact ⟨x, rfl⟩
  obtain ⟨b, o, rfl, hcs⟩ := h.syms.open (by rw [hx]; simp [iv]);have h3 := hcs 0 (.int .i64 x) (by rw [hx]; rfl);rw [Nat.add_zero] at h3;have hbk : aa (w.alloc (zC K (some ⟨b, o, none⟩) 1 c B m d)) w.heap.size (zV K (some ⟨b, o, none⟩) 1 c B m d) 25 := aa.at w _ _ 25 _ rfl rfl;have hw1 : Below w.heap.size w (w.alloc (zC K (some ⟨b, o, none⟩) 1 c B m d)) := ag _ _;have HS0 : Hid ((fun w' => w'.cell? ⟨w.heap.size, 1, none⟩ = some (.slice (some ⟨b, o, none⟩) 1 c) /\ w'.cell? ⟨b, o, none⟩ = some (.int .i64 x) /\ w'.cell? ⟨pb, 0, none⟩ = some (.slice AL N cN)) (w.alloc (zC K (some ⟨b, o, none⟩) 1 c B m d)).drew) := Lh ⟨hbk.cell (j := 1) rfl, (hw1.cell (p := ⟨b, o, none⟩) (World.block_lt_of_cell? w _ h3)).trans h3, (hw1.cell (p := ⟨pb, 0, none⟩) (World.block_lt_of_cell? w _ hp)).trans hp⟩;have HVD : Hid (V = decide (x < (N : Int))) := Lh (by rw [hV]; unfold iT; rw [hx]; simp);have HW1 := Lh hw1;clear h hK hV hnl hx hcs h3 hp hbk hw1;go_enter Tryz.func136, Tryz.ntmps136;go_wp2_with fail;refine wp_region_held_drew (S := fun w' => w'.cell? ⟨w.heap.size, 1, none⟩ = some (.slice (some ⟨b, o, none⟩) 1 c) /\ w'.cell? ⟨b, o, none⟩ = some (.int .i64 x) /\ w'.cell? ⟨pb, 0, none⟩ = some (.slice AL N cN)) (by kernel_rfl) (HS0.out) (fun hS0 => ?_);refine ax 0 ?_;refine ax 1 ?_;refine ax 2 ?_;refine ax 3 ?_;refine ax 4 ?_;refine ax 5 ?_;refine ax 6 ?_;refine ax 7 ?_;refine ax 8 ?_;refine ax 9 ?_;refine ax 10 ?_;refine ax 11 ?_;refine ax 12 ?_;refine ax 13 ?_;refine ax 14 ?_;refine ax 15 ?_;refine ax 16 ?_;refine wpAnyH_done (by kernel_rfl) ?_ _;go_wp2_with fail;go_ret;exact ⟨by rw [HVD.out]; rfl, ae HW1.out (below_drewN (Below.refl _ _) 1)⟩
 ·have HVF : Hid (V = false) := Lh (by rw [hV]; unfold iT; rw [<- hnl]; simp [n1]);have e2 : ((n : Int) == 1) = false := bF (by omega);have hbk : aa (w.alloc (zC K A n c B m d)) w.heap.size (zV K A n c B m d) 25 := aa.at w _ _ 25 _ rfl rfl;have hw1 : Below w.heap.size w (w.alloc (zC K A n c B m d)) := ag _ _;have HS0 : Hid ((fun w' => w'.cell? ⟨w.heap.size, 1, none⟩ = some (.slice A n c)) (w.alloc (zC K A n c B m d)).drew) := Lh (hbk.cell (j := 1) rfl);have HW1 := Lh hw1;clear h hK hV hnl hp hbk hw1 n1;go_enter Tryz.func136, Tryz.ntmps136;go_wp2_with fail;refine wp_region_held_drew (S := fun w' => w'.cell? ⟨w.heap.size, 1, none⟩ = some (.slice A n c)) (by kernel_rfl) (HS0.out) (fun hS0 => ?_);refine bW 0 ?_;refine bW 1 ?_;refine bW 2 ?_;refine bW 3 ?_;refine bW 4 ?_;refine wS 5 ?_;refine wS 6 ?_;refine wS 7 ?_;refine wS 8 ?_;refine wS 9 ?_;refine wS 10 ?_;refine wS 11 ?_;refine wS 12 ?_;refine wS 13 ?_;refine wS 14 ?_;refine bW 15 ?_;refine bW 16 ?_;refine wpAnyH_done (by kernel_rfl) ?_ _;go_wp2_with fail;go_ret;exact ⟨by rw [HVF.out]; rfl, ae HW1.out (below_drewN (Below.refl _ _) 1)⟩
namespace Rgx
theorem Kp.grown {mb G : Nat} {v : Value} {w w1 w2 : World} (h : Kp mb v w w1) (hg : w1.grownBy w2 (some G)) (hG : w.heap.size <= G \/ G = mb \/ v.ownBlock = some G) : Kp mb v w w2 := ⟨hg.os.trans h.os, hg.tape.trans h.tape, hg.output.trans h.output, Nat.le_trans h.size hg.size, fun k hk hm ho => (hg.block k (Nat.lt_of_lt_of_le hk h.size) (fun e => by
 obtain rfl := Option.some.inj e
 rcases hG with hG | hG | hG
 ·omega
 ·exact hm hG
 ·exact ho hG.symm)).trans (h.block k hk hm ho)⟩
theorem Nw.of {w w1 : World} {v v1 : Value} (h : Nw w1 v v1) (hs : w.heap.size <= w1.heap.size) : Nw w v v1 := h.imp id fun ⟨g, e, hg⟩ => ⟨g, e, Nat.le_trans hs hg⟩
theorem Nw.ne {w : World} {v v1 : Value} (h : Nw w v v1) {b : Nat} (hb : b < w.heap.size) (hv : v.ownBlock ≠ some b) : v1.ownBlock ≠ some b := fun e => by
 rcases h with h | ⟨g, h, hg⟩
 ·exact hv (h.symm.trans e)
 ·rw [h] at e; obtain rfl := Option.some.inj e; omega
theorem aY.len {q : Nat -> Prop} {mb : Nat} {v : Value} {M : List St} {w : World} (h : aY q mb v M w) : ∃ B d, v = .slice B M.length d /\ M.length <= d /\ d <= maxLen := by
 obtain ⟨xs, _, hO⟩ := h.row;obtain ⟨B, d, e, _, h2, h3⟩ := Rd.of_own hO;exact ⟨B, d, e, h2, h3⟩
theorem aY.at {q : Nat -> Prop} {mb g k dd : Nat} {M : List St} {w : World} {nn : Nat} (h : aY q mb (.slice (some ⟨g, 0, none⟩) nn dd) M w) (hk : k < M.length) : ∃ A n c, w.cell? ⟨g, k * 2, none⟩ = some (.int .u64 ((M[k].1 : Nat) : Int)) /\ w.cell? ⟨g, k * 2 + 1, none⟩ = some (.slice A n c) /\ bY (fun b => q b /\ b ≠ mb /\ some b ≠ some g) w M[k].2 A n c := by
 obtain ⟨xs, hC, hO⟩ := h.row;obtain ⟨A, n, c, e1, e2, e3⟩ := hC.2 k hk;obtain ⟨B, d, e, _⟩ := Rd.of_own hO;rw [Value.slice.injEq] at e;obtain ⟨_, rfl, _⟩ := e;exact ⟨A, n, c, (hO.cellAt (k * 2) (by omega)).trans e1, (hO.cellAt (k * 2 + 1) (by omega)).trans e2, e3⟩
theorem aY.place {q : Nat -> Prop} {mb : Nat} {v : Value} {M : List St} {w : World} (h : aY q mb v M w) (hM : M ≠ []) : ∃ g d, v = .slice (some ⟨g, 0, none⟩) M.length d /\ mb < g /\ g < w.heap.size /\ M.length <= d /\ d <= maxLen := by
 obtain ⟨xs, hC, hO⟩ := h.row
 rcases hO.2 with ⟨e, e2⟩ | ⟨g, cap, cur, e, hbg, hg, hn, hm, _⟩
 ·exact absurd (List.eq_nil_of_length_eq_zero e2) hM
 ·exact ⟨g, cap, e, by omega, (Array.getElem?_eq_some_iff.1 hg).1, hn, hm⟩
theorem aY.store {q : Nat -> Prop} {mb g k dd nn b : Nat} {M : List St} {w : World} (h : aY q mb (.slice (some ⟨g, 0, none⟩) nn dd) M w) (hk : k < M.length) (hb : M[k].1 = b) {l : List Nat} {A : Option Addr} {n c : Nat} (hn : bY (fun b => q b /\ b ≠ mb /\ some b ≠ some g) w l A n c) : aY q mb (.slice (some ⟨g, 0, none⟩) nn dd) (M.set k (b, l)) (w.setCell ⟨g, k * 2 + 1, none⟩ (.slice A n c)) /\ w.grownBy (w.setCell ⟨g, k * 2 + 1, none⟩ (.slice A n c)) (some g) := by
 obtain ⟨xs, hC, hO⟩ := h.row;obtain ⟨B, d, e, _⟩ := Rd.of_own hO;rw [Value.slice.injEq] at e;obtain ⟨_, rfl, _⟩ := e;have hst := hO.stored (k * 2 + 1) (.slice A n c);have hmb := h.lt;have hk2 : ∀ bb o, (q bb /\ bb ≠ mb /\ some bb ≠ some g) /\ bb < w.heap.size -> (w.setCell ⟨g, k * 2 + 1, none⟩ (.slice A n c)).cell? ⟨bb, o, none⟩ = w.cell? ⟨bb, o, none⟩ := fun bb o hp => World.cell?_of_block (hst.2.block bb hp.2 hp.1.2.2)
 refine ⟨⟨h.box.set_other ⟨g, k * 2 + 1, none⟩ _ (by have := (hmb.2 g rfl).1; show mb ≠ g; omega), xs.set (k * 2 + 1) (.slice A n c), ((hC.lt.keep hk2).mono fun b hp => hp.1).set hk hb ((hn.lt.keep hk2).mono fun b hp => hp.1), ?_⟩, hst.2⟩;rw [List.length_set];exact hst.1
end Rgx
theorem nP {q : Nat -> Prop} {mb : Nat} {v : Value} {M' : List St} {t : Nat} {w w0 w' : World} {e : Ending} (hb : Below w0.heap.size w0 w) (h : fB q mb v M' t w e w') : fB q mb v M' t w0 e w' := by
 obtain ⟨v', he, h1, h2, h3⟩ := h;exact ⟨v', he, h1, (Kp.of_below hb).tr (Nw.refl _ _) h2, h3.of hb.size⟩
def gF (r : Rx) : Int := av r * av r
theorem qa (r : Rx) : av r <= gF r /\ 1 <= gF r := by
 have h1 := cO r;have h2 : av r * 1 <= av r * av r := Int.mul_le_mul_of_nonneg_left h1 (by omega);unfold gF;omega
theorem xk {r : Rx} (h : gF r <= 1000000000) : av r <= 31623 := by
 refine Classical.byContradiction fun h1 => ?_
 have h2 : (31624 : Int) * 31624 <= av r * av r := Int.mul_le_mul (by omega) (by omega) (by omega) (by have := cO r; omega);unfold gF at h;omega
theorem uL {r y : Rx} {a : Int} (ha : 0 <= a) (h : av y + a + 1 <= av r) : gF y + a + 1 <= gF r := by
 have hy := cO y;have h1 : (av y + a + 1) * (av y + a + 1) <= av r * av r := Int.mul_le_mul h h (by omega) (by omega);have h2 : (av y + a + 1) * (av y + a + 1) = av y * av y + (av y * (a + 1) + (a + 1) * (av y + a + 1)) := by rw [Int.add_assoc, Int.add_mul, Int.mul_add, Int.add_assoc]
 have h3 : 0 <= av y * (a + 1) := Int.mul_nonneg (by omega) (by omega);have h4 : (a + 1) * 1 <= (a + 1) * (av y + a + 1) := Int.mul_le_mul_of_nonneg_left (by omega) (by omega);unfold gF;omega
def jr (r : Rx) : Prop := ∀ (q : Nat -> Prop) (mb : Nat) (v : Value) (M : List St) (w : World) (K : Int) (A B : Option Addr) (n c m d t2 : Nat), K = r.kind -> (∀ b, w.heap.size <= b -> q b) -> aY q mb v M w -> t2 < M.length -> (M.length : Int) + gF r <= 1000000000 -> ai (fun b => b ≠ mb /\ some b ≠ v.ownBlock) w r A n c B m d -> Calls Tryz.prog 60 #[.pointer (some ⟨mb, 0, none⟩), .agg #[.int .i64 K, .slice A n c, .slice B m d], .int .i64 (t2 : Int)] w (fB q mb v (aD M t2 r).1 (aD M t2 r).2 w)
theorem qh {r : Rx} (h : jr r) {q : Nat -> Prop} {mb : Nat} {v : Value} {M : List St} {w : World} {K : Int} {A B : Option Addr} {n c m d t2 : Nat} (hK : K = r.kind) (hq : ∀ b, w.heap.size <= b -> q b) (hM : aY q mb v M w) (ht : t2 < M.length) (hc : (M.length : Int) + gF r <= 1000000000) (hr : ai (fun b => b ≠ mb /\ some b ≠ v.ownBlock) w r A n c B m d) : Calls Tryz.prog 60 #[.pointer (some ⟨mb, 0, none⟩), .agg #[.int .i64 K, .slice A n c, .slice B m d], .int .i64 (t2 : Int)] w (fB q mb v (aD M t2 r).1 (aD M t2 r).2 w) := h q mb v M w K A B n c m d t2 hK hq hM ht hc hr
theorem wN {P : Program} {w : World} {ops : Array Oper} {o : Oper} {a : Act} {KK : Act -> World -> Prop} {Q : Exit -> Act -> World -> Prop} {E : Prop} (hgd : o.guard = none) (s x : Operand) (t tx : TypeId)
  (ho : o.op = .call { callee := .builtin .append, args := #[s, x], argTypes := #[t, tx] })
  (e : TypeId) (i : TypeInfo) (z : Value) (size bytes : Nat) (ht : P.underlying t = some (.slice e)) (hi : P.info? e = some i) (hz : i.zero = some z) (hsize : i.size = size) (hby : i.bytes = bytes) (hzs : z.cells.size = size)
  (b : Addr) (n cc : Nat) (olds : List Value) (hs : a.eval s = .slice (some b) n cc) (hlo : olds.length = n * size) (holds : ∀ j u, olds[j]? = some u -> w.cell? (b.add j) = some u)
  (y : Value) (m : Nat) (news : List Value) (hx : a.eval x = y) (hsrc : Src P i.size tx y m news w) (hm : 0 < m) (hfull : cc < n + m) (h63 : n + m <= maxLen) (hbytes : (n + m) * bytes <= 140737488355328)
  (h : ∀ cap w', w'.ownsRow w.heap.size e size (.slice (some ⟨w.heap.size, 0, none⟩) (n + m) cap) (n + m) (olds ++ news) -> Below w.heap.size w w' -> w.heap.size < w'.heap.size -> KK (a.put o.dst (.slice (some ⟨w.heap.size, 0, none⟩) (n + m) cap)) w') :
  if Region.wanted o (yielded ops a.tmps) = true then Oper.wp P o a w KK Q else E := by
 subst hsize; subst hby
 rw [if_pos (by simp [Region.wanted, hgd])];have hr := run_append_grow_src (P := P) (ty := o.type) w t tx e i z ht hi hz (some b) n cc olds (run_firstCells_some w.drew i.size n b n cc olds hlo (by simpa using holds)) y m news hsrc hfull (by unfold maxLen at h63; omega) (growslice_fits (by omega) hbytes);unfold Oper.wp execOp;simp only [ho, resolve, invoke, builtin, Sem.run_bind, Sem.run_pure, Result.andThen_ok, List.map_toArray, List.map_cons, List.map_nil, hs, hx, hr];have hlen : (olds ++ news).length = (n + m) * i.size := by rw [List.length_append, hlo, hsrc.newsLen, <- Nat.add_mul]
 have hge := grownCap_ge w (n + m) cc e;refine h _ _ ⟨hlen, .inr ⟨w.heap.size, _, _, rfl, Nat.le_refl _, heap_alloc_new w.drew _, hge, grownCap_le_maxLen w (n + m) cc e h63, ?_, ?_⟩⟩ ⟨rfl, rfl, rfl, by simp, fun k hk => Below.heap_alloc w.drew _ k hk⟩ (by simp)
 ·simp only [Array.size_append, List.size_toArray, size_zeroCells, hzs, hlen, <- Nat.add_mul]
  congr 1
  omega
 ·simp only [Array.toList_append];rw [<- hlen];exact List.take_left
theorem lu {w W : World} {mb t2 : Nat} {v : Value} {K : Int} {A B : Option Addr} {n c m d : Nat} (hl : mb < w.heap.size /\ ∀ g, v.ownBlock = some g -> mb < g /\ g < w.heap.size) (h : Kp mb v (((w.alloc (.cells #[.pointer (some ⟨mb, 0, none⟩)] 107)).alloc (zC K A n c B m d)).alloc (.cells #[.int .i64 (t2 : Int)] 3)) W) : aa W w.heap.size [.pointer (some ⟨mb, 0, none⟩)] 107 /\ aa W (w.heap.size + 1) (zV K A n c B m d) 25 /\ aa W (w.heap.size + 1 + 1) [.int .i64 (t2 : Int)] 3 := by
 have h1 : aa (((w.alloc (.cells #[.pointer (some ⟨mb, 0, none⟩)] 107)).alloc (zC K A n c B m d)).alloc (.cells #[.int .i64 (t2 : Int)] 3)) w.heap.size [.pointer (some ⟨mb, 0, none⟩)] 107 := ((aa.at w [.pointer (some ⟨mb, 0, none⟩)] _ 107 _ rfl rfl).alloc _).alloc _;have h2 : aa (((w.alloc (.cells #[.pointer (some ⟨mb, 0, none⟩)] 107)).alloc (zC K A n c B m d)).alloc (.cells #[.int .i64 (t2 : Int)] 3)) (w.heap.size + 1) (zV K A n c B m d) 25 := (aa.at (w.alloc (.cells #[.pointer (some ⟨mb, 0, none⟩)] 107)) (zV K A n c B m d) _ 25 _ rfl (by simp)).alloc _;have h3 : aa (((w.alloc (.cells #[.pointer (some ⟨mb, 0, none⟩)] 107)).alloc (zC K A n c B m d)).alloc (.cells #[.int .i64 (t2 : Int)] 3)) (w.heap.size + 1 + 1) [.int .i64 (t2 : Int)] 3 := aa.at ((w.alloc (.cells #[.pointer (some ⟨mb, 0, none⟩)] 107)).alloc (zC K A n c B m d)) [.int .i64 (t2 : Int)] _ 3 _ rfl (by simp);have hne : ∀ b, w.heap.size <= b -> b ≠ mb /\ some b ≠ v.ownBlock := fun b hb => ⟨by omega, fun e => by have := (hl.2 b e.symm).2; omega⟩
 exact ⟨h.blk h1 (hne _ (by omega)).1 (hne _ (by omega)).2, h.blk h2 (hne _ (by omega)).1 (hne _ (by omega)).2, h.blk h3 (hne _ (by omega)).1 (hne _ (by omega)).2⟩
theorem gG {w W0 W : World} {mb : Nat} {v v1 : Value} {x : Rx} {A B : Option Addr} {n c m d : Nat} (h : ai (fun b => b ≠ mb /\ some b ≠ v.ownBlock) w x A n c B m d) (hb : Below w.heap.size w W0) (hk : Kp mb v W0 W) (hn : Nw W0 v v1) : ai (fun b => b ≠ mb /\ some b ≠ v1.ownBlock) W x A n c B m d := by
 have h1 := h.lt7.keep (W := W) fun b o hp => (World.cell?_of_block ((hk.block b (Nat.lt_of_lt_of_le hp.2 hb.size) hp.1.1 hp.1.2).trans (hb.block b hp.2)))
 refine h1.mono fun b hp => ⟨hp.1.1, fun e => ?_⟩
 rcases hn with hn | ⟨g, hg, hl⟩
 ·exact hp.1.2 (e.trans hn)
 ·rw [hg] at e; obtain rfl := Option.some.inj e; have h1 := hp.2; have h2 := hb.size; omega
theorem uf {P : Program} {w : World} {ops : Array Oper} {o : Oper} {a : Act} {KK : Act -> World -> Prop} {Q : Exit -> Act -> World -> Prop} {E : Prop} (hgd : o.guard = none) (ty : TypeId) (x y : Operand) (ho : o.op = .store ty x y)
  (g j : Nat) (hx : a.eval x = .pointer (some ⟨g, j, none⟩)) (u : Value) (hu : u.cells = #[u]) (hu1 : u.oneCell' = true) (hy : a.eval y = u) (hc : (w.cell? ⟨g, j, none⟩).isSome = true) (hf : w.frozen? ⟨g, j, none⟩ = false) (hi : (P.info? ty).map (·.size) = some 1)
  (h : KK (a.put o.dst undef) (w.setCell ⟨g, j, none⟩ u)) : if Region.wanted o (yielded ops a.tmps) = true then Oper.wp P o a w KK Q else E := by
 rw [if_pos (by simp [Region.wanted, hgd])];have hst := run_storeCells_cells (P := P) g j [u] 0 w (fun i hi => by
    have h0 : i = 0 := by simpa using hi
    subst h0; exact hc) (fun i hi => by
    have h0 : i = 0 := by simpa using hi
    subst h0; exact hf) (fun v hv => by
    have hv' : v = u := by simpa using hv
    subst hv'; exact hu1)
 have hrun : (Instr.storeAt ty (.pointer (some ⟨g, j, none⟩)) u).run P w = .ok () (w.setCell ⟨g, j, none⟩ u) := by
  cases hq : P.info? ty with
  | none => simp [hq] at hi
  | some i =>
    have hi' : i.size = 1 := by simpa [hq] using hi
    have hst' : (storeCells ⟨g, j, none⟩ [u] 0).run P w = .ok () (w.setCell ⟨g, j, none⟩ u) := hst;simp [Instr.storeAt, Instr.sureAddr, storeVar, sizeOf, typeInfo, hq, hi', hu, hst']
 unfold Oper.wp execOp;simp only [ho, hx, hy, Sem.run_bind, Sem.run_pure, Result.andThen_ok, hrun];exact h
theorem Rgx.aY.frozen {q : Nat -> Prop} {mb g dd : Nat} {M : List St} {w : World} {nn : Nat} (h : aY q mb (.slice (some ⟨g, 0, none⟩) nn dd) M w) (j : Nat) : w.frozen? ⟨g, j, none⟩ = false := by
 obtain ⟨xs, hC, hO⟩ := h.row;obtain ⟨B, d, e, _⟩ := Rd.of_own hO;rw [Value.slice.injEq] at e;obtain ⟨_, rfl, _⟩ := e;exact hO.frozenAt j
theorem wQ {P : Program} {w : World} {ops : Array Oper} {o : Oper} {a : Act} {KK : Act -> World -> Prop} {Q : Exit -> Act -> World -> Prop} {E : Prop} (hgd : o.guard = none) (ty : TypeId) (x y : Operand) (ho : o.op = .store ty x y)
  (g j : Nat) (hx : a.eval x = .pointer (some ⟨g, j, none⟩)) (u : Value) (hu : u.cells = #[u]) (hu1 : u.oneCell' = true) (hy : a.eval y = u) {C : List Value} {T : TypeId} (hb : aa w g C T) (hj : j < C.length) (hi : (P.info? ty).map (·.size) = some 1)
  (h : ∀ w1, aK w w1 g (C.set j u) T -> KK (a.put o.dst undef) w1) : if Region.wanted o (yielded ops a.tmps) = true then Oper.wp P o a w KK Q else E := by
 rw [if_pos (by simp [Region.wanted, hgd])];have hst := run_storeCells_cells (P := P) g j [u] 0 w (fun i hi => by
    have h0 : i = 0 := by simpa using hi
    subst h0; exact (hb.there j 1 (by omega) 0 (by omega)).1) (fun i hi => by
    have h0 : i = 0 := by simpa using hi
    subst h0; exact (hb.there j 1 (by omega) 0 (by omega)).2) (fun v hv => by
    have hv' : v = u := by simpa using hv
    subst hv'; exact hu1)
 have hrun : (Instr.storeAt ty (.pointer (some ⟨g, j, none⟩)) u).run P w = .ok () (w.setCell ⟨g, j, none⟩ u) := by
  cases hq : P.info? ty with
  | none => simp [hq] at hi
  | some i =>
    have hi' : i.size = 1 := by simpa [hq] using hi
    have hst' : (storeCells ⟨g, j, none⟩ [u] 0).run P w = .ok () (w.setCell ⟨g, j, none⟩ u) := hst;simp [Instr.storeAt, Instr.sureAddr, storeVar, sizeOf, typeInfo, hq, hi', hu, hst']
 unfold Oper.wp execOp;simp only [ho, hx, hy, Sem.run_bind, Sem.run_pure, Result.andThen_ok, hrun];exact h _ (aK.of_setCell hb j _)
theorem GG {ns : List Nat} {i m t : Nat} (hl : ns.length = i) (hi : i < m) : (iv (nl (ns ++ List.replicate (m - i) 0))).set i (.int .i64 (t : Int)) = iv (nl ((ns ++ [t]) ++ List.replicate (m - (i + 1)) 0)) := by
 subst hl;have e : List.replicate (m - ns.length) 0 = 0 :: List.replicate (m - (ns.length + 1)) 0 := by
  rw [show m - ns.length = (m - (ns.length + 1)) + 1 by omega, List.replicate_succ]
 rw [e];simp only [nl, iv, List.map_append, List.map_cons];rw [List.set_append_right _ _ (by simp)];simp
theorem CV {ns : List Nat} {i m : Nat} (hl : ns.length = i) (hi : i < m) : (iv (nl (ns ++ List.replicate (m - i) 0)))[i]? = some (.int .i64 0) := by
 subst hl;simp only [nl, iv, List.map_append];rw [List.getElem?_append_right (by simp)];simp [List.getElem?_replicate];omega
theorem nx_len {ns : List Nat} {i m : Nat} (hl : ns.length = i) (hi : i <= m) : (iv (nl (ns ++ List.replicate (m - i) 0))).length = m := by simp [nl, iv]; omega
theorem uN (n : Nat) (hn : n <= 1000000) (w : World) : (Instr.makeSlice 22 (.int .i64 (n : Int)) (.int .i64 (n : Int))).run Tryz.prog w = .ok (.slice (some ⟨w.heap.size, 0, none⟩) n n) (w.alloc (.cells (iv (List.replicate n 0)).toArray 3)) := by
 obtain ⟨i0, hi0, hz0, hz1, hz2⟩ := info_parts lG;have h := run_make (P := Tryz.prog) w 22 3 i0 _ Tryz.underlying22 hi0 hz0 .i64 .i64 (n : Int) (n : Int) (by omega) (Int.le_refl _) (by rw [hz2]; omega) (by omega);have e : madeCells (Value.int .i64 0).cells n = (iv (List.replicate n 0)).toArray := by
  apply Array.ext
  ·simp [iv, madeCells]
  ·intro i h1 h2;simp [madeCells, iv, Value.cells, Nat.mod_one]
 simpa [hz1, e] using h
theorem zu (r : Rx) (hv : ay r = true) (hseq : r.kind = 3 -> jr r) (ih : ∀ x ∈ r.kids, jr x) : jr r := by
 intro q mb v M w K A B n c m d t2 hK hq hM ht hc h
 by_cases k3 : K = 3
 ·exact hseq (hK.symm.trans k3) q mb v M w K A B n c m d t2 hK hq hM ht hc h
 obtain ⟨j0, hj0, hy0, hy1, hy2⟩ := info_parts lG;have HX : Hid (ai (fun b => b ≠ mb /\ some b ≠ v.ownBlock) w r A n c B m d /\ K = r.kind /\ ay r = true) := Lh ⟨h, hK, hv⟩;have HQ := Lh hq;have HCN := Lh hc;have HT := Lh ht;have HIH := Lh ih;have HB3 : Hid (aa (((w.alloc (.cells #[.pointer (some ⟨mb, 0, none⟩)] 107)).alloc (zC K A n c B m d)).alloc (.cells #[.int .i64 (t2 : Int)] 3)) w.heap.size [.pointer (some ⟨mb, 0, none⟩)] 107 /\ aa (((w.alloc (.cells #[.pointer (some ⟨mb, 0, none⟩)] 107)).alloc (zC K A n c B m d)).alloc (.cells #[.int .i64 (t2 : Int)] 3)) (w.heap.size + 1) (zV K A n c B m d) 25 /\ aa (((w.alloc (.cells #[.pointer (some ⟨mb, 0, none⟩)] 107)).alloc (zC K A n c B m d)).alloc (.cells #[.int .i64 (t2 : Int)] 3)) (w.heap.size + 1 + 1) [.int .i64 (t2 : Int)] 3 /\ Below w.heap.size w (((w.alloc (.cells #[.pointer (some ⟨mb, 0, none⟩)] 107)).alloc (zC K A n c B m d)).alloc (.cells #[.int .i64 (t2 : Int)] 3))) := Lh ⟨((aa.at w [.pointer (some ⟨mb, 0, none⟩)] _ 107 _ rfl rfl).alloc _).alloc _, (aa.at (w.alloc (.cells #[.pointer (some ⟨mb, 0, none⟩)] 107)) (zV K A n c B m d) _ 25 _ rfl (by simp)).alloc _, aa.at ((w.alloc (.cells #[.pointer (some ⟨mb, 0, none⟩)] 107)).alloc (zC K A n c B m d)) [.int .i64 (t2 : Int)] _ 3 _ rfl (by simp), aB (aB (ag _ _) _) _⟩;have HSZ3 : Hid (w.heap.size <= (((w.alloc (.cells #[.pointer (some ⟨mb, 0, none⟩)] 107)).alloc (zC K A n c B m d)).alloc (.cells #[.int .i64 (t2 : Int)] 3)).heap.size) := Lh HB3.out.2.2.2.size;have HLT : Hid (mb < w.heap.size /\ ∀ g, v.ownBlock = some g -> mb < g /\ g < w.heap.size) := Lh hM.lt;have HM3 : Hid (aY q mb v M (((w.alloc (.cells #[.pointer (some ⟨mb, 0, none⟩)] 107)).alloc (zC K A n c B m d)).alloc (.cells #[.int .i64 (t2 : Int)] 3))) := Lh (hM.below HB3.out.2.2.2)
 clear hseq ih h hK hq hM ht hc hv
 by_cases k1 : K = 1
 ·skip
  have hc3 := (HB3.out).1.cell (j := 0) rfl;have hc4 := (HB3.out).2.1.cell (j := 0) rfl;have hc41 := (HB3.out).2.1.cell (j := 1) rfl;have hc42 := (HB3.out).2.1.cell (j := 2) rfl;have hc5 := (HB3.out).2.2.1.cell (j := 0) rfl;have kab : (K == 1) = true := bT (by omega);have HL : Hid (aD M t2 r = (M, t2)) := Lh (by rw [iQ, if_pos (by rw [<- HX.out.2.1]; exact k1)]);have HR : Hid (fB q mb v (aD M t2 r).1 (aD M t2 r).2 w (.returned (.int .i64 (t2 : Int))) (((w.alloc (.cells #[.pointer (some ⟨mb, 0, none⟩)] 107)).alloc (zC K A n c B m d)).alloc (.cells #[.int .i64 (t2 : Int)] 3))) := Lh (by rw [HL.out]; exact ⟨v, rfl, HM3.out, Kp.of_below HB3.out.2.2.2, Nw.refl _ _⟩);clear k1;go_enter Tryz.func60, Tryz.ntmps60;go_wp2_with fail;go_ret;exact HR.out
 ·by_cases k2 : K = 2
  ·skip
   have hc3 := (HB3.out).1.cell (j := 0) rfl;have hc4 := (HB3.out).2.1.cell (j := 0) rfl;have hc41 := (HB3.out).2.1.cell (j := 1) rfl;have hc42 := (HB3.out).2.1.cell (j := 2) rfl;have hc5 := (HB3.out).2.2.1.cell (j := 0) rfl;have kab : (K == 1) = false := bF (by omega);have kbb : (K == 2) = true := bT (by omega);have HL : Hid (aD M t2 r = (M ++ [(eZ r.syms, [t2])], M.length)) := Lh (by rw [iQ, if_neg (by rw [<- HX.out.2.1]; exact k1), if_pos (by rw [<- HX.out.2.1]; exact k2)]);have HSB : Hid (∀ W, Below (((w.alloc (.cells #[.pointer (some ⟨mb, 0, none⟩)] 107)).alloc (zC K A n c B m d)).alloc (.cells #[.int .i64 (t2 : Int)] 3)).heap.size (((w.alloc (.cells #[.pointer (some ⟨mb, 0, none⟩)] 107)).alloc (zC K A n c B m d)).alloc (.cells #[.int .i64 (t2 : Int)] 3)) W -> (fun w' => w'.cell? ⟨w.heap.size, 0, none⟩ = some (.pointer (some ⟨mb, 0, none⟩)) /\ w'.cell? ⟨(w.heap.size + 1), 1, none⟩ = some (.slice A n c) /\ w'.cell? ⟨(w.heap.size + 1 + 1), 0, none⟩ = some (.int .i64 (t2 : Int))) W) := Lh fun W hb => by
    have h1 := lu (A := A) (B := B) (n := n) (c := c) (m := m) (d := d) (K := K) (t2 := t2) HLT.out (Kp.of_below hb);exact ⟨h1.1.cell (j := 0) rfl, h1.2.1.cell (j := 1) rfl, h1.2.2.cell (j := 0) rfl⟩
   have HSET : Hid (∀ W, Below (((w.alloc (.cells #[.pointer (some ⟨mb, 0, none⟩)] 107)).alloc (zC K A n c B m d)).alloc (.cells #[.int .i64 (t2 : Int)] 3)).heap.size (((w.alloc (.cells #[.pointer (some ⟨mb, 0, none⟩)] 107)).alloc (zC K A n c B m d)).alloc (.cells #[.int .i64 (t2 : Int)] 3)) W -> Calls Tryz.prog 91 #[.slice A n c] W fun e w' => e = .returned (.int .u64 (eZ r.syms : Nat)) /\ Below W.heap.size W w') := Lh fun W hb => rR r.syms A n c HX.out.1.o.nlen HX.out.1.o.ncap HX.out.1.o.cmax (mG HX.out.2.2) W ((HX.out.1.o.below (ae HB3.out.2.2.2 hb)).syms)
   have HADD : Hid (∀ W g, Below (((w.alloc (.cells #[.pointer (some ⟨mb, 0, none⟩)] 107)).alloc (zC K A n c B m d)).alloc (.cells #[.int .i64 (t2 : Int)] 3)).heap.size (((w.alloc (.cells #[.pointer (some ⟨mb, 0, none⟩)] 107)).alloc (zC K A n c B m d)).alloc (.cells #[.int .i64 (t2 : Int)] 3)) W -> (((w.alloc (.cells #[.pointer (some ⟨mb, 0, none⟩)] 107)).alloc (zC K A n c B m d)).alloc (.cells #[.int .i64 (t2 : Int)] 3)).heap.size <= g -> aa W g [.int .i64 (t2 : Int)] 3 -> Calls Tryz.prog 59 #[.pointer (some ⟨mb, 0, none⟩), .int .u64 (eZ r.syms : Nat), .slice (some ⟨g, 0, none⟩) 1 1] W (fB q mb v (M ++ [(eZ r.syms, [t2])]) M.length W)) := Lh fun W g hb hg hbk => nH W (fun b h => HQ.out b (Nat.le_trans HSZ3.out (Nat.le_trans hb.size h))) (HM3.out.below hb) _ [t2] (some ⟨g, 0, none⟩) 1 1 (bY.of_blk (l := [t2]) hbk (by simp) ⟨HQ.out g (Nat.le_trans HSZ3.out hg), by have h1 := HLT.out.1; have h2 := HSZ3.out; omega, fun e => by have h1 := (HLT.out.2 g e.symm).2; have h2 := HSZ3.out; omega⟩) (by have := HCN.out; have := qa r; omega)
   clear k1 k2;go_enter Tryz.func60, Tryz.ntmps60;go_wp2_with fail;refine wp_region_held_drew (S := fun w' => w'.cell? ⟨w.heap.size, 0, none⟩ = some (.pointer (some ⟨mb, 0, none⟩)) /\ w'.cell? ⟨(w.heap.size + 1), 1, none⟩ = some (.slice A n c) /\ w'.cell? ⟨(w.heap.size + 1 + 1), 0, none⟩ = some (.int .i64 (t2 : Int))) (by kernel_rfl) (HSB.out _ (below_drewN (Below.refl _ _) 1)) (fun hS0 => ?_);refine ax 0 ?_;refine ax 1 ?_;refine ax 2 ?_;refine ax 4 ?_;refine wpAnyH_ready (rs := [3, 5]) (by kernel_rfl) (by simp) ?_;refine wA rfl (fun K0 hK => ?_) (wA rfl (fun K0 hK => ?_) AllReadyH.nil)
   ·skip
    go_simp;go_at_call 91;refine (HSET.out _ (below_drewN (Below.refl _ _) 1)).mono ?_;rintro e w5 ⟨rfl, hb5⟩;have HB5 : Hid (Below (((w.alloc (.cells #[.pointer (some ⟨mb, 0, none⟩)] 107)).alloc (zC K A n c B m d)).alloc (.cells #[.int .i64 (t2 : Int)] 3)).heap.size (((w.alloc (.cells #[.pointer (some ⟨mb, 0, none⟩)] 107)).alloc (zC K A n c B m d)).alloc (.cells #[.int .i64 (t2 : Int)] 3)) w5) := Lh (ae (below_drewN (Below.refl _ _) 1) hb5);clear hb5;refine hK.out _ _ (HSB.out _ HB5.out) (fun hS1 => ?_);clear hK K0 hS0;(try simp only [Act.put, pP]);refine wpAnyH_ready (rs := [5]) (by kernel_rfl) (by simp) ?_;refine wA rfl (fun K0 hK => ?_) AllReadyH.nil
    go_simp;have HBX : Hid (Below (((w.alloc (.cells #[.pointer (some ⟨mb, 0, none⟩)] 107)).alloc (zC K A n c B m d)).alloc (.cells #[.int .i64 (t2 : Int)] 3)).heap.size (((w.alloc (.cells #[.pointer (some ⟨mb, 0, none⟩)] 107)).alloc (zC K A n c B m d)).alloc (.cells #[.int .i64 (t2 : Int)] 3)) (w5.alloc (.cells #[.int .i64 (t2 : Int)] 3))) := Lh (aB HB5.out _);refine hK.out _ _ (HSB.out _ HBX.out) (fun hS2 => ?_);clear hK K0 hS1;(try simp only [Act.put, pP]);refine wpAnyH_ready (rs := [6]) (by kernel_rfl) (by simp) ?_;refine wA rfl (fun K0 hK => ?_) AllReadyH.nil
    go_simp;go_at_call 59;refine (HADD.out (w5.alloc (.cells #[.int .i64 (t2 : Int)] 3)) w5.heap.size HBX.out HB5.out.size (aa.at w5 _ _ 3 _ rfl rfl)).mono ?_;rintro e w7 hp;obtain ⟨v7, rfl, h1, h2, h3⟩ := jH hp;have HR : Hid (fB q mb v (aD M t2 r).1 (aD M t2 r).2 w (.returned (.int .i64 (M.length : Int))) w7) := Lh (by rw [HL.out]; exact nP (ae HB3.out.2.2.2 HBX.out) ⟨v7, rfl, h1, h2, h3⟩);have HS7 : Hid ((fun w' => w'.cell? ⟨w.heap.size, 0, none⟩ = some (.pointer (some ⟨mb, 0, none⟩)) /\ w'.cell? ⟨(w.heap.size + 1), 1, none⟩ = some (.slice A n c) /\ w'.cell? ⟨(w.heap.size + 1 + 1), 0, none⟩ = some (.int .i64 (t2 : Int))) w7) := Lh (by
     have h4 := lu (A := A) (B := B) (n := n) (c := c) (m := m) (d := d) (K := K) (t2 := t2) HLT.out ((Kp.of_below HBX.out).tr (Nw.refl _ _) h2);exact ⟨h4.1.cell (j := 0) rfl, h4.2.1.cell (j := 1) rfl, h4.2.2.cell (j := 0) rfl⟩)
    clear hp h1 h2 h3;refine hK.out _ _ HS7.out (fun hS3 => ?_);clear hK K0 hS2;(try simp only [Act.put, pP]);refine ax 7 ?_;refine wpAnyH_done (by kernel_rfl) ?_ _;go_wp2_with fail;go_ret;exact HR.out
   ·skip
    go_simp;have HBA : Hid (Below (((w.alloc (.cells #[.pointer (some ⟨mb, 0, none⟩)] 107)).alloc (zC K A n c B m d)).alloc (.cells #[.int .i64 (t2 : Int)] 3)).heap.size (((w.alloc (.cells #[.pointer (some ⟨mb, 0, none⟩)] 107)).alloc (zC K A n c B m d)).alloc (.cells #[.int .i64 (t2 : Int)] 3)) ((((w.alloc (.cells #[.pointer (some ⟨mb, 0, none⟩)] 107)).alloc (zC K A n c B m d)).alloc (.cells #[.int .i64 (t2 : Int)] 3)).alloc (.cells #[.int .i64 (t2 : Int)] 3)).drew /\ aa ((((w.alloc (.cells #[.pointer (some ⟨mb, 0, none⟩)] 107)).alloc (zC K A n c B m d)).alloc (.cells #[.int .i64 (t2 : Int)] 3)).alloc (.cells #[.int .i64 (t2 : Int)] 3)).drew ((w.heap.size + 1 + 1) + 1) [.int .i64 (t2 : Int)] 3) := Lh ⟨(ag _ _).drew, aa.at (((w.alloc (.cells #[.pointer (some ⟨mb, 0, none⟩)] 107)).alloc (zC K A n c B m d)).alloc (.cells #[.int .i64 (t2 : Int)] 3)) _ _ 3 _ rfl (by simp)⟩;refine hK.out _ _ (HSB.out _ HBA.out.1) (fun hS1 => ?_);clear hK K0 hS0;(try simp only [Act.put, pP]);refine wpAnyH_ready (rs := [3]) (by kernel_rfl) (by simp) ?_;refine wA rfl (fun K0 hK => ?_) AllReadyH.nil
    go_simp;go_at_call 91;refine (HSET.out _ HBA.out.1).mono ?_;rintro e w5 ⟨rfl, hb5⟩;have HBX : Hid (Below (((w.alloc (.cells #[.pointer (some ⟨mb, 0, none⟩)] 107)).alloc (zC K A n c B m d)).alloc (.cells #[.int .i64 (t2 : Int)] 3)).heap.size (((w.alloc (.cells #[.pointer (some ⟨mb, 0, none⟩)] 107)).alloc (zC K A n c B m d)).alloc (.cells #[.int .i64 (t2 : Int)] 3)) w5) := Lh (ae HBA.out.1 hb5);have HBK : Hid (aa w5 ((w.heap.size + 1 + 1) + 1) [.int .i64 (t2 : Int)] 3) := Lh (HBA.out.2.below hb5 HBA.out.2.lt);clear hb5;refine hK.out _ _ (HSB.out _ HBX.out) (fun hS2 => ?_);clear hK K0 hS1;(try simp only [Act.put, pP]);refine wpAnyH_ready (rs := [6]) (by kernel_rfl) (by simp) ?_;refine wA rfl (fun K0 hK => ?_) AllReadyH.nil
    go_simp;go_at_call 59;refine (HADD.out w5 ((w.heap.size + 1 + 1) + 1) HBX.out (by simp) HBK.out).mono ?_;rintro e w7 hp;obtain ⟨v7, rfl, h1, h2, h3⟩ := jH hp;have HR : Hid (fB q mb v (aD M t2 r).1 (aD M t2 r).2 w (.returned (.int .i64 (M.length : Int))) w7) := Lh (by rw [HL.out]; exact nP (ae HB3.out.2.2.2 HBX.out) ⟨v7, rfl, h1, h2, h3⟩);have HS7 : Hid ((fun w' => w'.cell? ⟨w.heap.size, 0, none⟩ = some (.pointer (some ⟨mb, 0, none⟩)) /\ w'.cell? ⟨(w.heap.size + 1), 1, none⟩ = some (.slice A n c) /\ w'.cell? ⟨(w.heap.size + 1 + 1), 0, none⟩ = some (.int .i64 (t2 : Int))) w7) := Lh (by
     have h4 := lu (A := A) (B := B) (n := n) (c := c) (m := m) (d := d) (K := K) (t2 := t2) HLT.out ((Kp.of_below HBX.out).tr (Nw.refl _ _) h2);exact ⟨h4.1.cell (j := 0) rfl, h4.2.1.cell (j := 1) rfl, h4.2.2.cell (j := 0) rfl⟩)
    clear hp h1 h2 h3;refine hK.out _ _ HS7.out (fun hS3 => ?_);clear hK K0 hS2;(try simp only [Act.put, pP]);refine ax 7 ?_;refine wpAnyH_done (by kernel_rfl) ?_ _;go_wp2_with fail;go_ret;exact HR.out
  ·by_cases k4 : K = 4
   ·skip
    have hc3 := (HB3.out).1.cell (j := 0) rfl;have hc4 := (HB3.out).2.1.cell (j := 0) rfl;have hc41 := (HB3.out).2.1.cell (j := 1) rfl;have hc42 := (HB3.out).2.1.cell (j := 2) rfl;have hc5 := (HB3.out).2.2.1.cell (j := 0) rfl;have kab : (K == 1) = false := bF (by omega);have kbb : (K == 2) = false := bF (by omega);have kcb : (K == 3) = false := bF (by omega);have kdb : (K == 4) = true := bT (by omega);have HL : Hid (aD M t2 r = ((aS M t2 r.kids).1 ++ [(0, (aS M t2 r.kids).2)], (aS M t2 r.kids).1.length)) := Lh (by rw [iQ, if_neg (by rw [<- HX.out.2.1]; exact k1), if_neg (by rw [<- HX.out.2.1]; exact k2), if_neg (by rw [<- HX.out.2.1]; exact k3), if_pos (by rw [<- HX.out.2.1]; exact k4)]);have hm6 : m <= 1000000 := by have h1 := HCN.out; have h2 := ru r; have h3 := HX.out.1.o.mlen; have h4 := xk (r := r) (by omega); omega
    have hmk := fun W => uN m (by omega) W
    have HSZ4 : Hid (((w.heap.size + 1 + 1) + 1) < ((((w.alloc (.cells #[.pointer (some ⟨mb, 0, none⟩)] 107)).alloc (zC K A n c B m d)).alloc (.cells #[.int .i64 (t2 : Int)] 3)).alloc (.cells (iv (List.replicate m 0)).toArray 3)).heap.size /\ (((w.alloc (.cells #[.pointer (some ⟨mb, 0, none⟩)] 107)).alloc (zC K A n c B m d)).alloc (.cells #[.int .i64 (t2 : Int)] 3)).heap.size = ((w.heap.size + 1 + 1) + 1)) := Lh ⟨by simp, by simp⟩;clear k1 k2 k3 k4;go_enter Tryz.func60, Tryz.ntmps60;go_wp2_with fail
    go_loopg [49] m (fun g s49 wr => ∃ (i : Nat) (v1 : Value), i + g = m /\ s49 = .int .i64 (i : Int) /\ Hid (aY (fun b => q b /\ b ≠ ((w.heap.size + 1 + 1) + 1)) mb v1 (aS M t2 (r.kids.take i)).1 wr /\ Kp mb v (((w.alloc (.cells #[.pointer (some ⟨mb, 0, none⟩)] 107)).alloc (zC K A n c B m d)).alloc (.cells #[.int .i64 (t2 : Int)] 3)) wr /\ Nw ((((w.alloc (.cells #[.pointer (some ⟨mb, 0, none⟩)] 107)).alloc (zC K A n c B m d)).alloc (.cells #[.int .i64 (t2 : Int)] 3)).alloc (.cells (iv (List.replicate m 0)).toArray 3)) v v1 /\ aa wr ((w.heap.size + 1 + 1) + 1) (iv (nl ((aS M t2 (r.kids.take i)).2 ++ List.replicate (m - i) 0))) 3))
    case atStart => exact ⟨0, v, by omega, rfl, Lh ⟨(HM3.out.mono (q2 := fun b => q b /\ b ≠ ((w.heap.size + 1 + 1) + 1)) fun b hb hl => ⟨hb, by have := HSZ4.out.2; omega⟩).below (ag _ _), Kp.of_below (ag _ _), Nw.refl _ _, by
     have h1 := aa.at (((w.alloc (.cells #[.pointer (some ⟨mb, 0, none⟩)] 107)).alloc (zC K A n c B m d)).alloc (.cells #[.int .i64 (t2 : Int)] 3)) (iv (List.replicate m 0)) _ 3 _ rfl HSZ4.out.2.symm;have e : nl ((aS M t2 (r.kids.take 0)).2 ++ List.replicate (m - 0) 0) = List.replicate m 0 := by rw [List.take_zero, aS]; simp [nl]
     rw [e]; exact h1⟩⟩
    case round =>
     obtain ⟨i, v1, hi, rfl, HI⟩ := hrel;have HBX := Lh (lu (A := A) (B := B) (n := n) (c := c) (m := m) (d := d) (K := K) (t2 := t2) HLT.out HI.out.2.1);have hc3 := (HBX.out).1.cell (j := 0) rfl;have hc4 := (HBX.out).2.1.cell (j := 0) rfl;have hc41 := (HBX.out).2.1.cell (j := 1) rfl;have hc42 := (HBX.out).2.1.cell (j := 2) rfl;have hc5 := (HBX.out).2.2.cell (j := 0) rfl
     by_cases hlt : i < m
     ·obtain ⟨gg, rfl⟩ : ∃ g, gk = g + 1 := ⟨gk - 1, by omega⟩;have HSW : Hid (((((w.alloc (.cells #[.pointer (some ⟨mb, 0, none⟩)] 107)).alloc (zC K A n c B m d)).alloc (.cells #[.int .i64 (t2 : Int)] 3)).alloc (.cells (iv (List.replicate m 0)).toArray 3)).heap.size <= wr.heap.size /\ ((w.heap.size + 1 + 1) + 1) < wr.heap.size) := Lh (by have h1 := HI.out.2.2.2.lt; have h2 := HSZ4.out; constructor; (rw [World.size_alloc]; omega); omega);have HV1 : Hid (v1.ownBlock ≠ some ((w.heap.size + 1 + 1) + 1) /\ ∀ g, v1.ownBlock = some g -> g < wr.heap.size) := Lh ⟨HI.out.2.2.1.ne HSZ4.out.1 (fun e => by have := (HLT.out.2 _ e).2; omega), fun g hg => (HI.out.1.lt.2 g hg).2⟩;have HIL : Hid (i < r.kids.length) := Lh (by rw [<- HX.out.1.o.mlen]; exact hlt);obtain ⟨b, o, hB⟩ := HX.out.1.kids.1.place (by have := HIL.out; omega);have hpb := HX.out.1.kids.2 (List.ne_nil_of_length_pos (by have := HIL.out; omega)) b o hB;subst hB;obtain ⟨A2, n2, c2, B2, m2, d2, hrg, hok⟩ := HX.out.1.kids.1.kid HIL.out;obtain ⟨y, hy⟩ : ∃ y, y = ak r.kids i := ⟨_, rfl⟩;rw [<- hy] at hrg hok;obtain ⟨Ky, hKy⟩ : ∃ K, K = y.kind := ⟨_, rfl⟩;rw [<- hKy] at hrg;have hmem : y ∈ r.kids := by rw [hy]; exact dG HIL.out
      have HRG : Hid (wr.rangeAt b (o + i * 3) (zV Ky A2 n2 c2 B2 m2 d2)) := Lh fun j u hu => by
       have h1 := hrg j u hu;have hbl : b < w.heap.size := World.block_lt_of_cell? w _ h1;exact (HI.out.2.1.cell (by have := HSZ3.out; show b < _; omega) hpb.1 hpb.2).trans ((HB3.out.2.2.2.cell (p := ⟨b, o + i * 3 + j, none⟩) hbl).trans h1)
      have HYY : Hid (jr y /\ Ky = y.kind /\ ai (fun b => b ≠ mb /\ some b ≠ v1.ownBlock) wr y A2 n2 c2 B2 m2 d2 /\ (aS M t2 (r.kids.take (i + 1))) = ((aD (aS M t2 (r.kids.take i)).1 t2 y).1, (aS M t2 (r.kids.take i)).2 ++ [(aD (aS M t2 (r.kids.take i)).1 t2 y).2]) /\ t2 < (aS M t2 (r.kids.take i)).1.length /\ (((aS M t2 (r.kids.take i)).1.length : Nat) : Int) + gF y <= 1000000000 /\ (aS M t2 (r.kids.take i)).2.length = i) := Lh ⟨HIH.out y hmem, hKy, gG hok HB3.out.2.2.2 HI.out.2.1 (HI.out.2.2.1.of (by have h1 := HSZ4.out.1; have h2 := HSZ4.out.2; omega)), by rw [AP HIL.out, xC M t2, <- hy], Nat.lt_of_lt_of_le HT.out (kz _ _ _).len, by
       have h1 := oM (r.kids.take i) M t2;have h2 := sj HIL.out;have h3 := nS (rs := r.kids) (i + 1);have h4 := dA r;have h5 := HCN.out;have h6 := dN (r.kids.take i);have h7 := uL (r := r) (y := y) (a := ah (r.kids.take i)) h6 (by rw [hy, dO HIL.out]; omega);omega, by rw [oL, List.length_take]; have := HIL.out; omega⟩
      have hc42 : wr.cell? ⟨(w.heap.size + 1), 2, none⟩ = some (.slice (some ⟨b, o, none⟩) m d) := hc42;have HFY : Hid (∀ w4, aa w4 wr.heap.size (zV Ky A2 n2 c2 B2 m2 d2) 25 -> Below wr.heap.size wr w4 -> (jr y /\ Ky = y.kind /\ ai (fun b => b ≠ mb /\ some b ≠ v1.ownBlock) w4 y A2 n2 c2 B2 m2 d2 /\ (∀ b, w4.heap.size <= b -> q b /\ b ≠ ((w.heap.size + 1 + 1) + 1)) /\ aY (fun b => q b /\ b ≠ ((w.heap.size + 1 + 1) + 1)) mb v1 (aS M t2 (r.kids.take i)).1 w4 /\ t2 < (aS M t2 (r.kids.take i)).1.length /\ (((aS M t2 (r.kids.take i)).1.length : Nat) : Int) + gF y <= 1000000000) /\ (fun w' => w'.cell? ⟨w.heap.size, 0, none⟩ = some (.pointer (some ⟨mb, 0, none⟩)) /\ w'.rangeAt wr.heap.size 0 (zV Ky A2 n2 c2 B2 m2 d2) /\ w'.cell? ⟨(w.heap.size + 1 + 1), 0, none⟩ = some (.int .i64 (t2 : Int))) w4) := Lh fun w4 hb4 hbl => ⟨⟨HYY.out.1, HYY.out.2.1, HYY.out.2.2.1.below hbl, fun b hb => ⟨HQ.out b (by have h1 := HSW.out.2; have h2 := hbl.size; omega), by have h1 := HSW.out.2; have h2 := hbl.size; omega⟩, HI.out.1.below hbl, HYY.out.2.2.2.2.1, HYY.out.2.2.2.2.2.1⟩, (HBX.out.1.below hbl HBX.out.1.lt).cell (j := 0) rfl, aM hb4, (HBX.out.2.2.below hbl HBX.out.2.2.lt).cell (j := 0) rfl⟩
      have HAFT : Hid (∀ w4, aa w4 wr.heap.size (zV Ky A2 n2 c2 B2 m2 d2) 25 -> Below wr.heap.size wr w4 -> ∀ w7 v7, aY (fun b => q b /\ b ≠ ((w.heap.size + 1 + 1) + 1)) mb v7 (aD (aS M t2 (r.kids.take i)).1 t2 y).1 w7 -> Kp mb v1 w4 w7 -> Nw w4 v1 v7 -> ∀ t7, t7 = (aD (aS M t2 (r.kids.take i)).1 t2 y).2 -> aY (fun b => q b /\ b ≠ ((w.heap.size + 1 + 1) + 1)) mb v7 (aD (aS M t2 (r.kids.take i)).1 t2 y).1 w7 /\ Kp mb v (((w.alloc (.cells #[.pointer (some ⟨mb, 0, none⟩)] 107)).alloc (zC K A n c (some ⟨b, o, none⟩) m d)).alloc (.cells #[.int .i64 (t2 : Int)] 3)) w7 /\ Nw ((((w.alloc (.cells #[.pointer (some ⟨mb, 0, none⟩)] 107)).alloc (zC K A n c (some ⟨b, o, none⟩) m d)).alloc (.cells #[.int .i64 (t2 : Int)] 3)).alloc (.cells (iv (List.replicate m 0)).toArray 3)) v v7 /\ aa w7 ((w.heap.size + 1 + 1) + 1) (iv (nl ((aS M t2 (r.kids.take i)).2 ++ List.replicate (m - i) 0))) 3 /\ t7 = (aD (aS M t2 (r.kids.take i)).1 t2 y).2 /\ (fun w' => w'.cell? ⟨w.heap.size, 0, none⟩ = some (.pointer (some ⟨mb, 0, none⟩)) /\ w'.rangeAt wr.heap.size 0 (zV Ky A2 n2 c2 B2 m2 d2) /\ w'.cell? ⟨(w.heap.size + 1 + 1), 0, none⟩ = some (.int .i64 (t2 : Int))) w7) := Lh fun w4 hb4 hbl w7 v7 h1 h2 h3 t7 ht7 => by
       have hs := hbl.size;have hw := HSW.out;have hk : Kp mb v (((w.alloc (.cells #[.pointer (some ⟨mb, 0, none⟩)] 107)).alloc (zC K A n c (some ⟨b, o, none⟩) m d)).alloc (.cells #[.int .i64 (t2 : Int)] 3)) w7 := HI.out.2.1.tr (HI.out.2.2.1.of (by have h1 := HSZ4.out.1; have h2 := HSZ4.out.2; omega)) ((Kp.of_below hbl).tr (Nw.refl _ _) h2);have hbx := lu (A := A) (B := some ⟨b, o, none⟩) (n := n) (c := c) (m := m) (d := d) (K := K) (t2 := t2) HLT.out hk;refine ⟨h1, hk, HI.out.2.2.1.tr (by omega) h3, h2.blk (HI.out.2.2.2.below hbl HI.out.2.2.2.lt) (by have := HLT.out.1; omega) (fun e => HV1.out.1 e.symm), ht7, hbx.1.cell (j := 0) rfl, aM (h2.blk hb4 (by have := HLT.out.1; omega) (fun e => by have := HV1.out.2 _ e.symm; omega)), hbx.2.2.cell (j := 0) rfl⟩
      have HSTO : Hid (∀ w7 v7 t7 w9, (aY (fun b => q b /\ b ≠ ((w.heap.size + 1 + 1) + 1)) mb v7 (aD (aS M t2 (r.kids.take i)).1 t2 y).1 w7 /\ Kp mb v (((w.alloc (.cells #[.pointer (some ⟨mb, 0, none⟩)] 107)).alloc (zC K A n c (some ⟨b, o, none⟩) m d)).alloc (.cells #[.int .i64 (t2 : Int)] 3)) w7 /\ Nw ((((w.alloc (.cells #[.pointer (some ⟨mb, 0, none⟩)] 107)).alloc (zC K A n c (some ⟨b, o, none⟩) m d)).alloc (.cells #[.int .i64 (t2 : Int)] 3)).alloc (.cells (iv (List.replicate m 0)).toArray 3)) v v7 /\ aa w7 ((w.heap.size + 1 + 1) + 1) (iv (nl ((aS M t2 (r.kids.take i)).2 ++ List.replicate (m - i) 0))) 3 /\ t7 = (aD (aS M t2 (r.kids.take i)).1 t2 y).2 /\ (fun w' => w'.cell? ⟨w.heap.size, 0, none⟩ = some (.pointer (some ⟨mb, 0, none⟩)) /\ w'.rangeAt wr.heap.size 0 (zV Ky A2 n2 c2 B2 m2 d2) /\ w'.cell? ⟨(w.heap.size + 1 + 1), 0, none⟩ = some (.int .i64 (t2 : Int))) w7) -> aK w7 w9 ((w.heap.size + 1 + 1) + 1) ((iv (nl ((aS M t2 (r.kids.take i)).2 ++ List.replicate (m - i) 0))).set i (.int .i64 (t7 : Int))) 3 -> (aY (fun b => q b /\ b ≠ ((w.heap.size + 1 + 1) + 1)) mb v7 (aS M t2 (r.kids.take (i + 1))).1 w9 /\ Kp mb v (((w.alloc (.cells #[.pointer (some ⟨mb, 0, none⟩)] 107)).alloc (zC K A n c (some ⟨b, o, none⟩) m d)).alloc (.cells #[.int .i64 (t2 : Int)] 3)) w9 /\ Nw ((((w.alloc (.cells #[.pointer (some ⟨mb, 0, none⟩)] 107)).alloc (zC K A n c (some ⟨b, o, none⟩) m d)).alloc (.cells #[.int .i64 (t2 : Int)] 3)).alloc (.cells (iv (List.replicate m 0)).toArray 3)) v v7 /\ aa w9 ((w.heap.size + 1 + 1) + 1) (iv (nl ((aS M t2 (r.kids.take (i + 1))).2 ++ List.replicate (m - (i + 1)) 0))) 3) /\ (fun w' => w'.cell? ⟨w.heap.size, 0, none⟩ = some (.pointer (some ⟨mb, 0, none⟩)) /\ w'.rangeAt wr.heap.size 0 (zV Ky A2 n2 c2 B2 m2 d2) /\ w'.cell? ⟨(w.heap.size + 1 + 1), 0, none⟩ = some (.int .i64 (t2 : Int))) w9) := Lh fun w7 v7 t7 w9 h hst => by
       have hw := HSW.out;refine ⟨⟨?_, h.2.1.grown (bv hst) (.inl (by have := HSZ4.out.2; omega)), h.2.2.1, ?_⟩, (World.cell?_of_block (hst.2.1 _ (by show w.heap.size ≠ _; omega))).trans h.2.2.2.2.2.1, fun j u hu => (World.cell?_of_block (hst.2.1 _ (by show wr.heap.size ≠ _; omega))).trans (h.2.2.2.2.2.2.1 j u hu), (World.cell?_of_block (hst.2.1 _ (by show _ + 1 + 1 ≠ _; omega))).trans h.2.2.2.2.2.2.2⟩
       ·rw [HYY.out.2.2.2.1];exact h.1.grown (bv hst) (by have := HLT.out.1; omega) (h.2.2.1.ne HSZ4.out.1 (fun e => by have := (HLT.out.2 _ e).2; omega)) (fun b hb => hb.2)
       ·have h1 := hst.1;rw [GG HYY.out.2.2.2.2.2.2 hlt] at h1;rw [HYY.out.2.2.2.1, <- h.2.2.2.2.1];exact h1
      clear hrg hok hy hKy hmem hpb
      go_wp2_with (first
       |(refine aA rfl (.tmp 52) rfl b (o + i * 3) rfl Ky A2 B2 n2 c2 m2 d2 HRG.out ?_)
       |(refine wB rfl 25 (.tmp 11) (.tmp 53) rfl wr.heap.size 0 rfl (zV Ky A2 n2 c2 B2 m2 d2) rfl (aa.new' wr zL _ 25 rfl) 3 au ?_; intro w4 hst9; have Hw4 : Hid (aa w4 wr.heap.size (zV Ky A2 n2 c2 B2 m2 d2) 25 /\ Below wr.heap.size wr w4) := Lh (aZ hst9); clear hst9; have HY0 := HFY.out w4 Hw4.out.1 Hw4.out.2; have HY := Lh HY0.1; have hk1 := HY0.2.1; have hk2 := HY0.2.2.1; have hk3 := HY0.2.2.2; have HAF := Lh (HAFT.out w4 Hw4.out.1 Hw4.out.2); clear HY0)
       |(refine aA rfl (.tmp 11) rfl wr.heap.size (0) rfl Ky A2 B2 n2 c2 m2 d2 hk2 ?_)
       |((with_reducible refine (qh HY.out.1 HY.out.2.1 HY.out.2.2.2.1 HY.out.2.2.2.2.1 HY.out.2.2.2.2.2.1 HY.out.2.2.2.2.2.2 HY.out.2.2.1).mono ?_); rintro e w7 hp; obtain ⟨v7, rfl, h1, h2, h3⟩ := jH hp; obtain ⟨t7, ht7⟩ : ∃ t, t = (aD (aS M t2 (r.kids.take i)).1 t2 y).2 := ⟨_, rfl⟩; rw [<- ht7]; have HR7 := Lh (HAF.out w7 v7 h1 h2 h3 t7 ht7); have hcc := HR7.out.2.2.2.1.cell (j := i) (v := .int .i64 0) (CV HYY.out.2.2.2.2.2.2 hlt); have hff := HR7.out.2.2.2.1.frozen i; have HST7 := Lh (fun w9 => HSTO.out w7 v7 t7 w9 HR7.out); clear hp h1 h2 h3 ht7))
      have HX9 := Lh (HST7.out _ (aK.of_setCell HR7.out.2.2.2.1 i (.int .i64 (t7 : Int))))
      go_roundg gg
      case rel => exact ⟨i + 1, v7, by omega, by go_num, Lh HX9.out.1⟩
      case measure => omega
     ·obtain rfl : m = i := by omega
      have HNS : Hid (r.kids.take m = r.kids /\ (aS M t2 r.kids).2.length = m) := Lh ⟨by rw [HX.out.1.o.mlen, List.take_length], by rw [oL, HX.out.1.o.mlen]⟩;have HAD : Hid (Calls Tryz.prog 59 #[.pointer (some ⟨mb, 0, none⟩), .int .u64 0, .slice (some ⟨((w.heap.size + 1 + 1) + 1), 0, none⟩) m m] wr (fB q mb v1 ((aS M t2 r.kids).1 ++ [(0, (aS M t2 r.kids).2)]) (aS M t2 r.kids).1.length wr)) := Lh (by
       have h1 := HI.out;rw [HNS.out.1, Nat.sub_self, List.replicate_zero, List.append_nil] at h1;have h2 := bY.of_blk (p := fun b => q b /\ b ≠ mb /\ some b ≠ v1.ownBlock) h1.2.2.2 (by rw [HNS.out.2]; omega) ⟨HQ.out _ (by omega), by have := HLT.out.1; omega, fun e => h1.2.2.1.ne HSZ4.out.1 (fun e => by have := (HLT.out.2 _ e).2; omega) e.symm⟩;rw [HNS.out.2] at h2;exact nH (b := 0) wr (fun b hb => HQ.out b (by have := h1.2.2.2.lt; omega)) (h1.1.mono fun b hb _ => hb.1) _ _ _ _ h2 (by have h3 := oM r.kids M t2; have h4 := dA r; have h5 := HCN.out; have h6 := qa r; omega))
      go_wp2_with (((with_reducible refine (HAD.out).mono ?_); rintro e w6 hp; obtain ⟨v6, rfl, h1, h2, h3⟩ := jH hp; have HR : Hid (fB q mb v (aD M t2 r).1 (aD M t2 r).2 w (.returned (.int .i64 ((aS M t2 r.kids).1.length : Int))) w6) := Lh (by rw [HL.out]; have hn : Nw (((w.alloc (.cells #[.pointer (some ⟨mb, 0, none⟩)] 107)).alloc (zC K A n c B m d)).alloc (.cells #[.int .i64 (t2 : Int)] 3)) v v1 := HI.out.2.2.1.of (by simp); exact nP HB3.out.2.2.2 ⟨v6, rfl, h1, HI.out.2.1.tr hn h2, hn.tr HI.out.2.1.size h3⟩); clear hp h1 h2 h3))
      go_ret;exact HR.out
   ·by_cases k5 : K = 5
    ·skip
     have hc3 := (HB3.out).1.cell (j := 0) rfl;have hc4 := (HB3.out).2.1.cell (j := 0) rfl;have hc41 := (HB3.out).2.1.cell (j := 1) rfl;have hc42 := (HB3.out).2.1.cell (j := 2) rfl;have hc5 := (HB3.out).2.2.1.cell (j := 0) rfl;have kab : (K == 1) = false := bF (by omega);have kbb : (K == 2) = false := bF (by omega);have kcb : (K == 3) = false := bF (by omega);have kdb : (K == 4) = false := bF (by omega);have keb : (K == 5) = true := bT (by omega);have hm1 : m = 1 := by
      rcases eT HX.out.2.2 with e | e | ⟨_, e, _⟩ | ⟨_, e, _⟩ | ⟨_, e, _⟩ | ⟨y, e, _⟩
      all_goals first | (have h1 := HX.out.2.1; rw [e] at h1; simp only [Rx.kind] at h1; omega) | (rw [HX.out.1.o.mlen, e]; rfl)
     obtain ⟨b, o, hB⟩ := HX.out.1.kids.1.place (by have := HX.out.1.o.mlen; omega);have hpb := HX.out.1.kids.2 (List.ne_nil_of_length_pos (by have := HX.out.1.o.mlen; omega)) b o hB;subst hB;obtain ⟨A2, n2, c2, B2, m2, d2, hrg, hok⟩ := HX.out.1.kids.1.kid (i := 0) (by have := HX.out.1.o.mlen; omega);obtain ⟨y, hy⟩ : ∃ y, y = ak r.kids 0 := ⟨_, rfl⟩;rw [<- hy] at hrg hok;obtain ⟨Ky, hKy⟩ : ∃ K, K = y.kind := ⟨_, rfl⟩;rw [<- hKy, Nat.zero_mul, Nat.add_zero] at hrg;have hmem : y ∈ r.kids := by rw [hy]; exact dG (by have := HX.out.1.o.mlen; omega)
     have HYC : Hid (av r = 1 + av y /\ r = .mk 5 [] [y]) := Lh (by
      rcases eT HX.out.2.2 with e | e | ⟨_, e, _⟩ | ⟨_, e, _⟩ | ⟨_, e, _⟩ | ⟨z, e, _⟩
      all_goals first | (have h1 := HX.out.2.1; rw [e] at h1; simp only [Rx.kind] at h1; omega) | (have h2 : y = z := (by rw [hy, e]; rfl); rw [e, h2]; exact ⟨by rw [dA]; simp [Rx.kids, ah], rfl⟩))
     have HL : Hid (aD M t2 r = (((aD (M ++ [(0, [t2])]) M.length y).1).set M.length (0, [t2, (aD (M ++ [(0, [t2])]) M.length y).2]), M.length)) := Lh (by rw [HYC.out.2, qB]);have HPB : Hid (b ≠ mb /\ some b ≠ v.ownBlock /\ b < w.heap.size) := Lh ⟨hpb.1, hpb.2, World.block_lt_of_cell? w _ (hrg 0 _ rfl)⟩;have HRG := Lh hrg;have HYP : Hid (jr y /\ Ky = y.kind /\ ai (fun b => b ≠ mb /\ some b ≠ v.ownBlock) w y A2 n2 c2 B2 m2 d2) := Lh ⟨HIH.out y hmem, hKy, hok⟩;have hm0 : 0 < m := by omega
     have HB4 : Hid (Below (((w.alloc (.cells #[.pointer (some ⟨mb, 0, none⟩)] 107)).alloc (zC K A n c (some ⟨b, o, none⟩) m d)).alloc (.cells #[.int .i64 (t2 : Int)] 3)).heap.size (((w.alloc (.cells #[.pointer (some ⟨mb, 0, none⟩)] 107)).alloc (zC K A n c (some ⟨b, o, none⟩) m d)).alloc (.cells #[.int .i64 (t2 : Int)] 3)) ((((w.alloc (.cells #[.pointer (some ⟨mb, 0, none⟩)] 107)).alloc (zC K A n c (some ⟨b, o, none⟩) m d)).alloc (.cells #[.int .i64 (t2 : Int)] 3)).alloc (.cells #[.int .i64 (t2 : Int)] 3)) /\ aa ((((w.alloc (.cells #[.pointer (some ⟨mb, 0, none⟩)] 107)).alloc (zC K A n c (some ⟨b, o, none⟩) m d)).alloc (.cells #[.int .i64 (t2 : Int)] 3)).alloc (.cells #[.int .i64 (t2 : Int)] 3)) ((w.heap.size + 1 + 1) + 1) [.int .i64 (t2 : Int)] 3 /\ (((w.alloc (.cells #[.pointer (some ⟨mb, 0, none⟩)] 107)).alloc (zC K A n c (some ⟨b, o, none⟩) m d)).alloc (.cells #[.int .i64 (t2 : Int)] 3)).heap.size = (w.heap.size + 1 + 1) + 1) := Lh ⟨ag _ _, aa.at (((w.alloc (.cells #[.pointer (some ⟨mb, 0, none⟩)] 107)).alloc (zC K A n c (some ⟨b, o, none⟩) m d)).alloc (.cells #[.int .i64 (t2 : Int)] 3)) _ _ 3 _ rfl (by simp), by simp⟩;have HAD : Hid (Calls Tryz.prog 59 #[.pointer (some ⟨mb, 0, none⟩), .int .u64 0, .slice (some ⟨(w.heap.size + 1 + 1) + 1, 0, none⟩) 1 1] ((((w.alloc (.cells #[.pointer (some ⟨mb, 0, none⟩)] 107)).alloc (zC K A n c (some ⟨b, o, none⟩) m d)).alloc (.cells #[.int .i64 (t2 : Int)] 3)).alloc (.cells #[.int .i64 (t2 : Int)] 3)) (fB q mb v (M ++ [(0, [t2])]) M.length ((((w.alloc (.cells #[.pointer (some ⟨mb, 0, none⟩)] 107)).alloc (zC K A n c (some ⟨b, o, none⟩) m d)).alloc (.cells #[.int .i64 (t2 : Int)] 3)).alloc (.cells #[.int .i64 (t2 : Int)] 3)))) := Lh (nH (b := 0) ((((w.alloc (.cells #[.pointer (some ⟨mb, 0, none⟩)] 107)).alloc (zC K A n c (some ⟨b, o, none⟩) m d)).alloc (.cells #[.int .i64 (t2 : Int)] 3)).alloc (.cells #[.int .i64 (t2 : Int)] 3)) (fun b h => HQ.out b (Nat.le_trans HSZ3.out (Nat.le_trans HB4.out.1.size h))) (HM3.out.below HB4.out.1) [t2] _ 1 1 (bY.of_blk (l := [t2]) HB4.out.2.1 (by simp) ⟨HQ.out _ (by omega), by have := HLT.out.1; omega, fun e => by have := (HLT.out.2 _ e.symm).2; omega⟩) (by have := HCN.out; have := qa r; omega))
     clear k1 k2 k3 k4 k5 hm1 hrg hok hy hKy hmem hpb;go_enter Tryz.func60, Tryz.ntmps60
     go_upto_region 21 with (((with_reducible refine (HAD.out).mono ?_); rintro e w6 hp; obtain ⟨v6, rfl, h1, h2, h3⟩ := jH hp; have H6 : Hid (aY q mb v6 (M ++ [(0, [t2])]) w6 /\ Kp mb v (((w.alloc (.cells #[.pointer (some ⟨mb, 0, none⟩)] 107)).alloc (zC K A n c (some ⟨b, o, none⟩) m d)).alloc (.cells #[.int .i64 (t2 : Int)] 3)) w6 /\ Nw (((w.alloc (.cells #[.pointer (some ⟨mb, 0, none⟩)] 107)).alloc (zC K A n c (some ⟨b, o, none⟩) m d)).alloc (.cells #[.int .i64 (t2 : Int)] 3)) v v6) := Lh ⟨h1, (Kp.of_below HB4.out.1).tr (Nw.refl _ _) h2, h3.of HB4.out.1.size⟩; clear hp h1 h2 h3))
     have HRW : Hid (∀ W, Kp mb v (((w.alloc (.cells #[.pointer (some ⟨mb, 0, none⟩)] 107)).alloc (zC K A n c (some ⟨b, o, none⟩) m d)).alloc (.cells #[.int .i64 (t2 : Int)] 3)) W -> W.rangeAt b o (zV Ky A2 n2 c2 B2 m2 d2)) := Lh fun W hk j u hu => (hk.cell (by have h1 := HPB.out.2.2; have h2 := HSZ3.out; show b < _; omega) HPB.out.1 HPB.out.2.1).trans ((HB3.out.2.2.2.cell (p := ⟨b, o + j, none⟩) HPB.out.2.2).trans (HRG.out j u hu))
     have HS1 : Hid ((fun w' => w'.cell? ⟨w.heap.size, 0, none⟩ = some (.pointer (some ⟨mb, 0, none⟩)) /\ w'.cell? ⟨(w.heap.size + 1), 2, none⟩ = some (.slice (some ⟨b, o, none⟩) m d) /\ w'.rangeAt b o (zV Ky A2 n2 c2 B2 m2 d2)) w6.drew) := Lh (by
      have h1 := lu (A := A) (B := some ⟨b, o, none⟩) (n := n) (c := c) (m := m) (d := d) (K := K) (t2 := t2) HLT.out H6.out.2.1;exact ⟨h1.1.cell (j := 0) rfl, h1.2.1.cell (j := 2) rfl, HRW.out _ (H6.out.2.1.tr H6.out.2.2 (Kp.of_below (below_drewN (Below.refl _ _) 1)))⟩)
     have HBD : Hid (Below w6.heap.size w6 w6.drew) := Lh (below_drewN (Below.refl _ _) 1);have HCALL : Hid (Calls Tryz.prog 60 #[.pointer (some ⟨mb, 0, none⟩), .agg #[.int .i64 Ky, .slice A2 n2 c2, .slice B2 m2 d2], .int .i64 (M.length : Int)] w6.drew (fB q mb v6 (aD (M ++ [(0, [t2])]) M.length y).1 (aD (M ++ [(0, [t2])]) M.length y).2 w6.drew)) := Lh (qh HYP.out.1 HYP.out.2.1 (fun b hb => HQ.out b (by have h1 := HSZ3.out; have h2 := H6.out.2.1.size; have h3 := HBD.out.size; omega)) (H6.out.1.below HBD.out) (by simp) (by have h1 := HCN.out; have h2 := HYC.out.1; have h3 := uL (r := r) (y := y) (a := 0) (Int.le_refl _) (by omega); simp; omega) ((gG HYP.out.2.2 HB3.out.2.2.2 H6.out.2.1 H6.out.2.2).below HBD.out));have HAFT : Hid (∀ w7 v7 (f7 : Nat), aY q mb v7 (aD (M ++ [(0, [t2])]) M.length y).1 w7 -> Kp mb v6 w6.drew w7 -> Nw w6.drew v6 v7 -> f7 = (aD (M ++ [(0, [t2])]) M.length y).2 -> aY q mb v7 (aD (M ++ [(0, [t2])]) M.length y).1 w7 /\ Kp mb v (((w.alloc (.cells #[.pointer (some ⟨mb, 0, none⟩)] 107)).alloc (zC K A n c (some ⟨b, o, none⟩) m d)).alloc (.cells #[.int .i64 (t2 : Int)] 3)) w7 /\ Nw (((w.alloc (.cells #[.pointer (some ⟨mb, 0, none⟩)] 107)).alloc (zC K A n c (some ⟨b, o, none⟩) m d)).alloc (.cells #[.int .i64 (t2 : Int)] 3)) v v7 /\ f7 = (aD (M ++ [(0, [t2])]) M.length y).2 /\ (fun w' => w'.cell? ⟨w.heap.size, 0, none⟩ = some (.pointer (some ⟨mb, 0, none⟩)) /\ w'.cell? ⟨(w.heap.size + 1), 2, none⟩ = some (.slice (some ⟨b, o, none⟩) m d) /\ w'.rangeAt b o (zV Ky A2 n2 c2 B2 m2 d2)) w7) := Lh fun w7 v7 f7 h1 h2 h3 h4 => by
      have hk : Kp mb v (((w.alloc (.cells #[.pointer (some ⟨mb, 0, none⟩)] 107)).alloc (zC K A n c (some ⟨b, o, none⟩) m d)).alloc (.cells #[.int .i64 (t2 : Int)] 3)) w7 := H6.out.2.1.tr H6.out.2.2 ((Kp.of_below HBD.out).tr (Nw.refl _ _) h2);have hb := lu (A := A) (B := some ⟨b, o, none⟩) (n := n) (c := c) (m := m) (d := d) (K := K) (t2 := t2) HLT.out hk;exact ⟨h1, hk, H6.out.2.2.tr (Nat.le_trans H6.out.2.1.size HBD.out.size) h3, h4, hb.1.cell (j := 0) rfl, hb.2.1.cell (j := 2) rfl, HRW.out _ hk⟩
     refine wp_region_held_drew (S := fun w' => w'.cell? ⟨w.heap.size, 0, none⟩ = some (.pointer (some ⟨mb, 0, none⟩)) /\ w'.cell? ⟨(w.heap.size + 1), 2, none⟩ = some (.slice (some ⟨b, o, none⟩) m d) /\ w'.rangeAt b o (zV Ky A2 n2 c2 B2 m2 d2)) (by kernel_rfl) (HS1.out) (fun hS0 => ?_);refine ax 0 ?_;refine ax 1 ?_;refine ax 2 ?_;refine ax 3 ?_;refine wX 4 rfl (yieldsIf_load_mid (by rfl) _ _ rfl _ _ rfl _ _ (fun w h => h.2.2) Tryz.underlying25 rfl au) ?_;refine ax 5 ?_;refine wpAnyH_ready (rs := [6]) (by kernel_rfl) (by simp) ?_;refine wA rfl (fun K0 hK => ?_) AllReadyH.nil
     go_simp;go_at_call 60;refine (HCALL.out).mono ?_;rintro e w7 hp;obtain ⟨v7, rfl, h1, h2, h3⟩ := jH hp;obtain ⟨f7, hf7⟩ : ∃ t, t = (aD (M ++ [(0, [t2])]) M.length y).2 := ⟨_, rfl⟩;rw [<- hf7];have HR7 : Hid (aY q mb v7 (aD (M ++ [(0, [t2])]) M.length y).1 w7 /\ Kp mb v (((w.alloc (.cells #[.pointer (some ⟨mb, 0, none⟩)] 107)).alloc (zC K A n c (some ⟨b, o, none⟩) m d)).alloc (.cells #[.int .i64 (t2 : Int)] 3)) w7 /\ Nw (((w.alloc (.cells #[.pointer (some ⟨mb, 0, none⟩)] 107)).alloc (zC K A n c (some ⟨b, o, none⟩) m d)).alloc (.cells #[.int .i64 (t2 : Int)] 3)) v v7 /\ f7 = (aD (M ++ [(0, [t2])]) M.length y).2 /\ (fun w' => w'.cell? ⟨w.heap.size, 0, none⟩ = some (.pointer (some ⟨mb, 0, none⟩)) /\ w'.cell? ⟨(w.heap.size + 1), 2, none⟩ = some (.slice (some ⟨b, o, none⟩) m d) /\ w'.rangeAt b o (zV Ky A2 n2 c2 B2 m2 d2)) w7) := Lh (HAFT.out w7 v7 f7 h1 h2 h3 hf7);clear hp h1 h2 h3 hf7;refine hK.out _ _ HR7.out.2.2.2.2 (fun hS1 => ?_);clear hK K0 hS0;(try simp only [Act.put, pP]);refine ax 7 ?_;refine wpAnyH_done (by kernel_rfl) ?_ _;have HEX : Hid ((aD (M ++ [(0, [t2])]) M.length y).1[M.length]? = some (0, [t2]) /\ M.length < ((aD (M ++ [(0, [t2])]) M.length y).1).length) := Lh (by
      have h1 := jk y (M ++ [(0, [t2])]) M.length;have h2 := h1.len;rw [List.length_append] at h2;simp only [List.length_singleton] at h2;refine ⟨?_, by omega⟩;rw [h1.get M.length (by simp)];simp)
     obtain ⟨g7, d7, hv7, hg71, hg72, hn7, hd7⟩ := HR7.out.1.place (List.ne_nil_of_length_pos (by have := HEX.out.2; omega));obtain ⟨N7, hN7⟩ : ∃ N, N = ((aD (M ++ [(0, [t2])]) M.length y).1).length := ⟨_, rfl⟩;rw [<- hN7] at hv7;subst hv7;have hN7M : M.length < N7 := by rw [hN7]; exact HEX.out.2
     have HM2K : Hid (∀ h : M.length < ((aD (M ++ [(0, [t2])]) M.length y).1).length, ((aD (M ++ [(0, [t2])]) M.length y).1)[M.length] = (0, [t2])) := Lh fun h => by have h1 := HEX.out.1; rw [List.getElem?_eq_getElem h] at h1; exact Option.some.inj h1
     obtain ⟨A9, n9, c9, he1, he2, he3⟩ := HR7.out.1.at HEX.out.2;rw [HM2K.out] at he1 he3;have hn9 : n9 = 1 := he3.len;have hc9 : c9 = 1 := he3.full rfl;subst hn9 hc9;obtain ⟨b9, o9, hA9, hcell9⟩ := he3.rd.open (by simp [nl, iv]);subst hA9;have HSB2 : Hid (∀ W, Below w7.heap.size w7 W -> (fun w' => w'.cell? ⟨w.heap.size, 0, none⟩ = some (.pointer (some ⟨mb, 0, none⟩)) /\ w'.cell? ⟨mb, 0, none⟩ = some (.slice (some ⟨g7, 0, none⟩) N7 d7)) W /\ W.cell? ⟨g7, M.length * 2 + 1, none⟩ = some (.slice (some ⟨b9, o9, none⟩) 1 1)) := Lh fun W hb => ⟨⟨(hb.cell (p := ⟨w.heap.size, 0, none⟩) (World.block_lt_of_cell? w7 _ HR7.out.2.2.2.2.1)).trans HR7.out.2.2.2.2.1, (HR7.out.1.box.below hb HR7.out.1.box.lt).cell (j := 0) rfl⟩, (hb.cell (p := ⟨g7, M.length * 2 + 1, none⟩) (World.block_lt_of_cell? w7 _ he2)).trans he2⟩
     have HS2 : Hid ((fun w' => w'.cell? ⟨w.heap.size, 0, none⟩ = some (.pointer (some ⟨mb, 0, none⟩)) /\ w'.cell? ⟨mb, 0, none⟩ = some (.slice (some ⟨g7, 0, none⟩) N7 d7)) w7.drew) := Lh (HSB2.out _ (below_drewN (Below.refl _ _) 1)).1;have HOLD : Hid (∀ W, Below w7.heap.size w7 W -> ∀ j u, [Value.int .i64 (t2 : Int)][j]? = some u -> W.cell? ((⟨b9, o9, none⟩ : Addr).add j) = some u) := Lh fun W hb j u hu => by
      have h1 := hcell9 j u (by simpa [nl, iv] using hu);have hadd : (⟨b9, o9, none⟩ : Addr).add j = ⟨b9, o9 + j, none⟩ := by unfold Addr.add; split <;> simp_all
      rw [hadd];exact (hb.cell (p := ⟨b9, o9 + j, none⟩) (World.block_lt_of_cell? w7 _ h1)).trans h1
     have HG7 : Hid (mb < g7 /\ g7 < w7.heap.size) := Lh ⟨hg71, hg72⟩;have HNX : Hid (∀ x8 w9 cap, Below w7.heap.size w7 x8 -> x8.heap.size = w7.heap.size + 1 -> w9.ownsRow x8.heap.size 3 1 (.slice (some ⟨x8.heap.size, 0, none⟩) (1 + 1) cap) (1 + 1) ([.int .i64 (t2 : Int)] ++ [.int .i64 (f7 : Int)]) -> Below x8.heap.size x8 w9 -> Below w7.heap.size w7 w9 /\ aY q mb (.slice (some ⟨g7, 0, none⟩) N7 d7) (aD (M ++ [(0, [t2])]) M.length y).1 w9 /\ bY (fun b => q b /\ b ≠ mb /\ some b ≠ some g7) w9 [t2, f7] (some ⟨x8.heap.size, 0, none⟩) (1 + 1) cap) := Lh fun x8 w9 cap h1 h2 hown hb => by
      have hb7 := ae h1 hb;obtain ⟨A', c', e', hr', hc1, hc2⟩ := Rd.of_own hown;rw [Value.slice.injEq] at e';obtain ⟨rfl, -, rfl⟩ := e';refine ⟨hb7, HR7.out.1.below hb7, rfl, hc1, by unfold maxLen at hc2; exact hc2, by simpa [nl, iv] using hr', fun _ bb oo e => ?_, fun h => by simp at h⟩;obtain ⟨rfl, _⟩ : x8.heap.size = bb /\ 0 = oo := by simpa using e
      have h3 := HG7.out;have h4 := HR7.out.2.1.size;have h5 := HSZ3.out;have h6 := HLT.out.1;exact ⟨HQ.out _ (by omega), by omega, fun e => by have := Option.some.inj e; omega⟩
     have HFIN : Hid (∀ (x8 w9 : World) (cap : Nat), (Below w7.heap.size w7 w9 /\ aY q mb (.slice (some ⟨g7, 0, none⟩) N7 d7) (aD (M ++ [(0, [t2])]) M.length y).1 w9 /\ bY (fun b => q b /\ b ≠ mb /\ some b ≠ some g7) w9 [t2, f7] (some ⟨x8.heap.size, 0, none⟩) (1 + 1) cap) -> fB q mb v (aD M t2 r).1 (aD M t2 r).2 w (.returned (.int .i64 (M.length : Int))) (w9.setCell ⟨g7, M.length * 2 + 1, none⟩ (.slice (some ⟨x8.heap.size, 0, none⟩) (1 + 1) cap)) /\ (fun w' => w'.cell? ⟨w.heap.size, 0, none⟩ = some (.pointer (some ⟨mb, 0, none⟩)) /\ w'.cell? ⟨mb, 0, none⟩ = some (.slice (some ⟨g7, 0, none⟩) N7 d7)) (w9.setCell ⟨g7, M.length * 2 + 1, none⟩ (.slice (some ⟨x8.heap.size, 0, none⟩) (1 + 1) cap))) := Lh fun x8 w9 cap h => ⟨by
      have hst := h.2.1.store HEX.out.2 (b := 0) (by rw [HM2K.out]) h.2.2;rw [HL.out, <- HR7.out.2.2.2.1];refine nP HB3.out.2.2.2 ⟨_, rfl, hst.1, (HR7.out.2.1.tr HR7.out.2.2.1 (Kp.of_below h.1)).grown hst.2 ?_, HR7.out.2.2.1⟩
      rcases HR7.out.2.2.1 with e | ⟨g, e, hg⟩
      ·exact .inr (.inr e.symm)
      ·obtain rfl := Option.some.inj e; exact .inl hg, by
       have hst := h.2.1.store HEX.out.2 (b := 0) (by rw [HM2K.out]) h.2.2;have h1 := (HSB2.out w9 h.1).1;refine ⟨(World.cell?_of_block (hst.2.block _ (World.block_lt_of_cell? w9 _ h1.1) (fun e => ?_))).trans h1.1, hst.1.box.cell (j := 0) rfl⟩;have e := Option.some.inj e
       rcases HR7.out.2.2.1 with e2 | ⟨g, e2, hg⟩
       ·have h3 := (HLT.out.2 g7 e2.symm).2; have e3 : w.heap.size = g7 := e; omega
       ·have h5 : g7 = g := Option.some.inj e2; have h3 := HB4.out.2.2; have e3 : w.heap.size = g7 := e; omega⟩
     clear hN7 hg71 hg72 hn7 hd7 he1 he2 he3 hcell9;go_wp2_with fail;refine wp_region_held_drew (S := fun w' => w'.cell? ⟨w.heap.size, 0, none⟩ = some (.pointer (some ⟨mb, 0, none⟩)) /\ w'.cell? ⟨mb, 0, none⟩ = some (.slice (some ⟨g7, 0, none⟩) N7 d7)) (by kernel_rfl) (HS2.out) (fun hS0 => ?_);refine aJ 0 ?_;refine aJ 1 ?_;refine aJ 2 ?_;refine aJ 3 ?_;refine aJ 4 ?_;refine aJ 5 ?_;refine aJ 6 ?_;refine aJ 7 ?_;refine aJ 8 ?_;refine aJ 9 ?_;refine aJ 10 ?_;refine aJ 11 ?_;refine aJ 13 ?_;refine wpAnyH_ready (rs := [12, 14]) (by kernel_rfl) (by simp) ?_;refine wA rfl (fun K0 hK => ?_) (wA rfl (fun K0 hK => ?_) AllReadyH.nil)
     ·skip
      have hcl : w7.drew.cell? ⟨g7, M.length * 2 + 1, none⟩ = some (.slice (some ⟨b9, o9, none⟩) 1 1) := (HSB2.out _ (below_drewN (Below.refl _ _) 1)).2;go_simp;refine hK.out _ _ (HSB2.out _ (below_drewN (Below.refl _ _) 1)).1 (fun hS9 => ?_);clear hK K0 hcl;(try simp only [Act.put, pP]);refine wpAnyH_ready (rs := [14]) (by kernel_rfl) (by simp) ?_;refine wA rfl (fun K0 hK => ?_) AllReadyH.nil
      go_simp;have HX8 : Hid (Below w7.heap.size w7 (w7.alloc (.cells #[.int .i64 (f7 : Int)] 3)).drew /\ aa (w7.alloc (.cells #[.int .i64 (f7 : Int)] 3)).drew w7.heap.size [.int .i64 (f7 : Int)] 3 /\ (w7.alloc (.cells #[.int .i64 (f7 : Int)] 3)).drew.heap.size = w7.heap.size + 1) := Lh ⟨(ag _ _).drew, aa.at w7 _ _ 3 _ rfl rfl, by simp⟩;refine hK.out _ _ (HSB2.out _ HX8.out.1).1 (fun hS1 => ?_);clear hK K0;obtain ⟨x8, hx8⟩ : ∃ x, x = (w7.alloc (.cells #[.int .i64 (f7 : Int)] 3)).drew := ⟨_, rfl⟩;rw [<- hx8] at HX8 ⊢;clear hx8;(try simp only [Act.put, pP]);refine wpAnyH_ready (rs := [15]) (by kernel_rfl) (by simp) ?_;refine AllReadyH.cons (o := ⟨some 93, .call { callee := .builtin Builtin.append, args := #[.tmp 90, .tmp 92], argTypes := #[22, 22] }, 22, _, _, none⟩) rfl (fun K0 hK => ?_) AllReadyH.nil
      refine wN rfl (.tmp 90) (.tmp 92) 22 22 rfl 3 j0 _ 1 8 Tryz.underlying22 hj0 hy0 hy1 hy2 rfl ⟨b9, o9, none⟩ 1 1 [.int .i64 (t2 : Int)] rfl rfl (HOLD.out _ HX8.out.1) _ 1 [.int .i64 (f7 : Int)] rfl (uR Tryz.underlying22 hy1 HX8.out.2.1 rfl (by simp [Value.oneCell']) 1) (by omega) (by omega) (by unfold maxLen; omega) (by omega) ?_;intro cap w9 hown9 hb9 hlt9;have HX9 : Hid (Below w7.heap.size w7 w9 /\ aY q mb (.slice (some ⟨g7, 0, none⟩) N7 d7) (aD (M ++ [(0, [t2])]) M.length y).1 w9 /\ bY (fun b => q b /\ b ≠ mb /\ some b ≠ some g7) w9 [t2, f7] (some ⟨x8.heap.size, 0, none⟩) (1 + 1) cap) := Lh (HNX.out x8 w9 cap HX8.out.1 HX8.out.2.2 hown9 hb9);clear hown9 hb9 hlt9;refine hK.out _ _ (HSB2.out _ HX9.out.1).1 (fun hS2 => ?_);clear hK K0;(try simp only [Act.put, pP]);refine aJ 16 ?_;refine wpAnyH_take (i := 17) (oi := { dst := some 95, op := Op.fieldAddr 109 (Operand.tmp 94) 1, type := 0, pos := "match.go:66", after := #[{ on := 16, ground := Ground.data }, { on := 0, ground := Ground.phase }, { on := 1, ground := Ground.phase }, { on := 2, ground := Ground.phase }, { on := 3, ground := Ground.phase }, { on := 4, ground := Ground.phase }, { on := 5, ground := Ground.phase }, { on := 6, ground := Ground.phase }, { on := 7, ground := Ground.phase }, { on := 8, ground := Ground.phase }, { on := 9, ground := Ground.phase }, { on := 10, ground := Ground.phase }, { on := 11, ground := Ground.phase }, { on := 12, ground := Ground.phase }, { on := 13, ground := Ground.phase }, { on := 14, ground := Ground.phase }, { on := 15, ground := Ground.phase }], guard := none }) (v := ?_) rfl (by kernel_rfl) (by kernel_rfl) (by kernel_rfl) (fun _ _ _ h => h) (Or.inl ⟨by rfl, ?_⟩) (by assumption) ?_
      rotate_left
      ·(rintro w' ⟨h1, h2⟩; go_simp; try with_reducible rfl)
      (try simp only [Act.put, pP]);refine wpAnyH_ready (rs := [18]) (by kernel_rfl) (by simp) ?_;refine AllReadyH.cons (o := ⟨none, .store 22 (.tmp 95) (.tmp 93), 0, _, _, none⟩) rfl (fun K0 hK => ?_) AllReadyH.nil
      refine uf rfl 22 (.tmp 95) (.tmp 93) rfl g7 (M.length * 2 + 1) rfl (.slice (some ⟨x8.heap.size, 0, none⟩) (1 + 1) cap) rfl rfl rfl (by rw [(HSB2.out _ HX9.out.1).2]; rfl) (HX9.out.2.1.frozen _) om ?_;have HEND := Lh (HFIN.out x8 w9 cap HX9.out);refine hK.out _ _ HEND.out.2 (fun hS3 => ?_);clear hK K0;(try simp only [Act.put, pP]);refine wpAnyH_done (by kernel_rfl) ?_ _;go_wp2_with fail;go_ret;exact HEND.out.1
     ·skip
      go_simp;have HX8 : Hid (Below w7.heap.size w7 (w7.alloc (.cells #[.int .i64 (f7 : Int)] 3)).drew /\ aa (w7.alloc (.cells #[.int .i64 (f7 : Int)] 3)).drew w7.heap.size [.int .i64 (f7 : Int)] 3 /\ (w7.alloc (.cells #[.int .i64 (f7 : Int)] 3)).drew.heap.size = w7.heap.size + 1) := Lh ⟨(ag _ _).drew, aa.at w7 _ _ 3 _ rfl rfl, by simp⟩;refine hK.out _ _ (HSB2.out _ HX8.out.1).1 (fun hS1 => ?_);clear hK K0;obtain ⟨x8, hx8⟩ : ∃ x, x = (w7.alloc (.cells #[.int .i64 (f7 : Int)] 3)).drew := ⟨_, rfl⟩;rw [<- hx8] at HX8 ⊢;clear hx8;(try simp only [Act.put, pP]);refine wpAnyH_ready (rs := [12]) (by kernel_rfl) (by simp) ?_;refine wA rfl (fun K0 hK => ?_) AllReadyH.nil
      have hcl : x8.cell? ⟨g7, M.length * 2 + 1, none⟩ = some (.slice (some ⟨b9, o9, none⟩) 1 1) := (HSB2.out _ (HX8.out.1)).2;go_simp;refine hK.out _ _ (HSB2.out _ (HX8.out.1)).1 (fun hS9 => ?_);clear hK K0 hcl;(try simp only [Act.put, pP]);refine wpAnyH_ready (rs := [15]) (by kernel_rfl) (by simp) ?_;refine AllReadyH.cons (o := ⟨some 93, .call { callee := .builtin Builtin.append, args := #[.tmp 90, .tmp 92], argTypes := #[22, 22] }, 22, _, _, none⟩) rfl (fun K0 hK => ?_) AllReadyH.nil
      refine wN rfl (.tmp 90) (.tmp 92) 22 22 rfl 3 j0 _ 1 8 Tryz.underlying22 hj0 hy0 hy1 hy2 rfl ⟨b9, o9, none⟩ 1 1 [.int .i64 (t2 : Int)] rfl rfl (HOLD.out _ HX8.out.1) _ 1 [.int .i64 (f7 : Int)] rfl (uR Tryz.underlying22 hy1 HX8.out.2.1 rfl (by simp [Value.oneCell']) 1) (by omega) (by omega) (by unfold maxLen; omega) (by omega) ?_;intro cap w9 hown9 hb9 hlt9;have HX9 : Hid (Below w7.heap.size w7 w9 /\ aY q mb (.slice (some ⟨g7, 0, none⟩) N7 d7) (aD (M ++ [(0, [t2])]) M.length y).1 w9 /\ bY (fun b => q b /\ b ≠ mb /\ some b ≠ some g7) w9 [t2, f7] (some ⟨x8.heap.size, 0, none⟩) (1 + 1) cap) := Lh (HNX.out x8 w9 cap HX8.out.1 HX8.out.2.2 hown9 hb9);clear hown9 hb9 hlt9;refine hK.out _ _ (HSB2.out _ HX9.out.1).1 (fun hS2 => ?_);clear hK K0;(try simp only [Act.put, pP]);refine aJ 16 ?_;refine wpAnyH_take (i := 17) (oi := { dst := some 95, op := Op.fieldAddr 109 (Operand.tmp 94) 1, type := 0, pos := "match.go:66", after := #[{ on := 16, ground := Ground.data }, { on := 0, ground := Ground.phase }, { on := 1, ground := Ground.phase }, { on := 2, ground := Ground.phase }, { on := 3, ground := Ground.phase }, { on := 4, ground := Ground.phase }, { on := 5, ground := Ground.phase }, { on := 6, ground := Ground.phase }, { on := 7, ground := Ground.phase }, { on := 8, ground := Ground.phase }, { on := 9, ground := Ground.phase }, { on := 10, ground := Ground.phase }, { on := 11, ground := Ground.phase }, { on := 12, ground := Ground.phase }, { on := 13, ground := Ground.phase }, { on := 14, ground := Ground.phase }, { on := 15, ground := Ground.phase }], guard := none }) (v := ?_) rfl (by kernel_rfl) (by kernel_rfl) (by kernel_rfl) (fun _ _ _ h => h) (Or.inl ⟨by rfl, ?_⟩) (by assumption) ?_
      rotate_left
      ·(rintro w' ⟨h1, h2⟩; go_simp; try with_reducible rfl)
      (try simp only [Act.put, pP]);refine wpAnyH_ready (rs := [18]) (by kernel_rfl) (by simp) ?_;refine AllReadyH.cons (o := ⟨none, .store 22 (.tmp 95) (.tmp 93), 0, _, _, none⟩) rfl (fun K0 hK => ?_) AllReadyH.nil
      refine uf rfl 22 (.tmp 95) (.tmp 93) rfl g7 (M.length * 2 + 1) rfl (.slice (some ⟨x8.heap.size, 0, none⟩) (1 + 1) cap) rfl rfl rfl (by rw [(HSB2.out _ HX9.out.1).2]; rfl) (HX9.out.2.1.frozen _) om ?_;have HEND := Lh (HFIN.out x8 w9 cap HX9.out);refine hK.out _ _ HEND.out.2 (fun hS3 => ?_);clear hK K0;(try simp only [Act.put, pP]);refine wpAnyH_done (by kernel_rfl) ?_ _;go_wp2_with fail;go_ret;exact HEND.out.1
    ·skip
     have hc3 := (HB3.out).1.cell (j := 0) rfl;have hc4 := (HB3.out).2.1.cell (j := 0) rfl;have hc41 := (HB3.out).2.1.cell (j := 1) rfl;have hc42 := (HB3.out).2.1.cell (j := 2) rfl;have hc5 := (HB3.out).2.2.1.cell (j := 0) rfl;have kab : (K == 1) = false := bF (by omega);have kbb : (K == 2) = false := bF (by omega);have kcb : (K == 3) = false := bF (by omega);have kdb : (K == 4) = false := bF (by omega);have keb : (K == 5) = false := bF (by omega);have HL : Hid (aD M t2 r = (M ++ [(0, [])], M.length)) := Lh (by rw [iQ, if_neg (by rw [<- HX.out.2.1]; exact k1), if_neg (by rw [<- HX.out.2.1]; exact k2), if_neg (by rw [<- HX.out.2.1]; exact k3), if_neg (by rw [<- HX.out.2.1]; exact k4), if_neg (by rw [<- HX.out.2.1]; exact k5)]);have HAD : Hid (Calls Tryz.prog 59 #[.pointer (some ⟨mb, 0, none⟩), .int .u64 0, .slice none 0 0] (((w.alloc (.cells #[.pointer (some ⟨mb, 0, none⟩)] 107)).alloc (zC K A n c B m d)).alloc (.cells #[.int .i64 (t2 : Int)] 3)) (fB q mb v (M ++ [(0, [])]) M.length (((w.alloc (.cells #[.pointer (some ⟨mb, 0, none⟩)] 107)).alloc (zC K A n c B m d)).alloc (.cells #[.int .i64 (t2 : Int)] 3)))) := Lh (nH (b := 0) (((w.alloc (.cells #[.pointer (some ⟨mb, 0, none⟩)] 107)).alloc (zC K A n c B m d)).alloc (.cells #[.int .i64 (t2 : Int)] 3)) (fun b hb => HQ.out b (Nat.le_trans HSZ3.out hb)) HM3.out [] none 0 0 (bY.nil _ _) (by have := HCN.out; have := qa r; omega));clear k1 k2 k3 k4 k5;go_enter Tryz.func60, Tryz.ntmps60
     go_wp2_with (((with_reducible refine (HAD.out).mono ?_); rintro e w6 hp; obtain ⟨v6, rfl, h1, h2, h3⟩ := jH hp; have HR : Hid (fB q mb v (aD M t2 r).1 (aD M t2 r).2 w (.returned (.int .i64 (M.length : Int))) w6) := Lh (by rw [HL.out]; exact nP HB3.out.2.2.2 ⟨v6, rfl, h1, h2, h3⟩); clear hp h1 h2 h3))
     go_ret;exact HR.out
def kZ (L : List Lt) (x : Int) : Option Alp.B := if x < (L.length : Int) then some (L.getD x.toNat z).text else if x = 62 then some [35] else if x = 63 then some [45] else none
theorem Dk {pb : Nat} {v : Value} {b o : Nat} {n c : Nat} {fl : Bool} {t : Alp.B} (w : World) (h : dh pb v (some ⟨b, o, none⟩) n c fl t w) (x : Nat) (L : List Lt) (hn : n = L.length) (hc : n <= c) (hm : c <= 9223372036854775807) (hx : x < n) (hrl : RL w b o L) (hbp : b < pb) (hrow : ∀ g, v.ownBlock = some g -> b ≠ g) (ht : t.length <= 1000000000) (hlt : (L.getD x z).text.length <= 1000000) : Calls Tryz.prog 134 #[.pointer (some ⟨pb, 0, none⟩), .int .i64 (x : Int)] w (aH pb v (some ⟨b, o, none⟩) n c fl (t ++ (L.getD x z).text) w) := by
 obtain ⟨i0, hi0, hz0, hz1, hz2⟩ := info_parts tT;obtain ⟨B5, d5, hv, _⟩ := Rd.of_own h.row;obtain ⟨N5, hN5⟩ : ∃ N, N = t.length := ⟨_, rfl⟩;rw [<- hN5] at hv;subst hv;obtain ⟨tx, htx⟩ : ∃ s, s = (L.getD x z).text := ⟨_, rfl⟩;obtain ⟨m, hm9⟩ : ∃ m, m = tx.length := ⟨_, rfl⟩;rw [<- htx] at hlt ⊢;have hb1 : w.cell? ⟨pb, 1, none⟩ = some (.slice B5 N5 d5) := h.box.cell (j := 1) rfl;have hb0 : w.cell? ⟨pb, 0, none⟩ = some (.slice (some ⟨b, o, none⟩) n c) := h.box.cell (j := 0) rfl;have hct : w.cell? ⟨b, o + x * 5, none⟩ = some (.string (tb tx)) := by rw [htx]; exact hrl.c0 (by omega) rfl
 have HS0 : Hid ((fun w' => w'.cell? ⟨pb, 0, none⟩ = some (.slice (some ⟨b, o, none⟩) n c) /\ w'.cell? ⟨b, o + x * 5, none⟩ = some (.string (tb tx))) w.drew) := Lh ⟨hb0, hct⟩;have HO : Hid (w.drew.ownsRow (pb + 1) 5 1 (.slice B5 N5 d5) N5 (bs t) /\ pb + 1 <= w.drew.heap.size) := Lh ⟨by have h1 := h.row; rw [<- hN5] at h1; exact h1, h.lt.1⟩;have HSRC : Hid (∀ W : World, Src Tryz.prog i0.size 9 (.string (tb tx)) m (bs tx) W) := Lh fun W => by
  have h1 := Src.ofString (w := W) Tryz.underlying9 (tb tx);rw [fP, <- hm9] at h1;rw [hz1];exact h1
 have HAP : Hid (∀ v5 w5, w5.ownsRow (pb + 1) 5 1 v5 (N5 + m) (bs t ++ bs tx) -> w.drew.grownBy w5 (Value.ownBlock (.slice B5 N5 d5)) -> (v5.ownBlock = Value.ownBlock (.slice B5 N5 d5) \/ v5.ownBlock = some w.drew.heap.size) -> (fun w' => w'.cell? ⟨pb, 0, none⟩ = some (.slice (some ⟨b, o, none⟩) n c) /\ w'.cell? ⟨b, o + x * 5, none⟩ = some (.string (tb tx))) w5 /\ aa w5 pb [.slice (some ⟨b, o, none⟩) n c, .slice B5 N5 d5, .bool fl] 92 /\ ∀ w9, aK w5 w9 pb [.slice (some ⟨b, o, none⟩) n c, v5, .bool fl] 92 -> (fun w' => w'.cell? ⟨pb, 0, none⟩ = some (.slice (some ⟨b, o, none⟩) n c) /\ w'.cell? ⟨b, o + x * 5, none⟩ = some (.string (tb tx))) w9 /\ aH pb (.slice B5 N5 d5) (some ⟨b, o, none⟩) n c fl (t ++ tx) w (.returned (.tuple #[])) w9) := Lh fun v5 w5 hown hg hat => by
  rw [hN5, hm9] at hown;have h1 := h.app (ys := tx) (below_drewN (Below.refl _ _) 1) hown hg hat;have hbo : ∀ g, Value.ownBlock (.slice B5 N5 d5) = some g -> b ≠ g := hrow;have hc5 : w5.cell? ⟨b, o + x * 5, none⟩ = some (.string (tb tx)) := (World.cell?_of_block (hg.block b (World.block_lt_of_cell? w _ hct) (fun e => hbo b e.symm rfl))).trans hct;refine ⟨⟨h1.1.cell (j := 0) rfl, hc5⟩, h1.1, fun w9 hst => ⟨⟨hst.1.cell (j := 0) rfl, hst.cell (by omega) hc5⟩, rfl, v5, h1.2 w9 hst⟩⟩
 have hs1 : N5 + m <= maxLen := by unfold maxLen; omega
 have hs2 : (N5 + m) * 1 <= 140737488355328 := by omega
 clear h hN5 htx hm9 hrl hn hrow hct;go_enter Tryz.func134, Tryz.ntmps134
 go_upto_region 2 with fail
 clear hb0;refine wp_region_held_drew (S := fun w' => w'.cell? ⟨pb, 0, none⟩ = some (.slice (some ⟨b, o, none⟩) n c) /\ w'.cell? ⟨b, o + x * 5, none⟩ = some (.string (tb tx))) (by kernel_rfl) (HS0.out) (fun hS0 => ?_);refine aJ 0 ?_;refine aJ 1 ?_;refine aJ 2 ?_;refine aJ 3 ?_;refine aJ 5 ?_;refine aJ 6 ?_;refine aJ 7 ?_;refine aJ 8 ?_;refine aJ 9 ?_;refine aJ 10 ?_;refine aJ 11 ?_;refine aJ 12 ?_;refine wpAnyH_ready (rs := [4]) (by kernel_rfl) (by simp) ?_;refine wA rfl (fun K0 hK => ?_) AllReadyH.nil
 go_simp;refine hK.out _ _ HS0.out (fun hS1 => ?_);clear hK K0 hS0;(try simp only [Act.put, pP]);refine wpAnyH_ready (rs := [13]) (by kernel_rfl) (by simp) ?_;refine AllReadyH.cons (o := ⟨some 28, .call { callee := .builtin Builtin.append, args := #[.tmp 19, .tmp 27], argTypes := #[45, 9] }, 45, _, _, none⟩) rfl (fun K0 hK => ?_) AllReadyH.nil
 refine rf rfl (.tmp 19) (.tmp 27) 45 9 rfl (pb + 1) 5 i0 _ 1 1 Tryz.underlying45 hi0 hz0 hz1 hz2 rfl _ N5 (bs t) rfl HO.out.1 _ m (bs tx) rfl (HSRC.out _) hs1 hs2 HO.out.2 ?_;intro v5 w5 hown5 hg5 hat5;obtain ⟨A6, c6, hv6, _⟩ := Rd.of_own hown5;subst hv6;have HX5 := Lh (HAP.out _ _ hown5 hg5 hat5);clear hown5 hg5 hat5;refine hK.out _ _ HX5.out.1 (fun hS2 => ?_);clear hK K0 hS1;(try simp only [Act.put, pP]);refine aJ 14 ?_;refine wpAnyH_take (i := 15) (oi := { dst := some 30, op := Op.fieldAddr 92 (Operand.tmp 29) 1, type := 0, pos := "pattern.go:290", after := #[{ on := 14, ground := Ground.data }, { on := 0, ground := Ground.phase }, { on := 1, ground := Ground.phase }, { on := 2, ground := Ground.phase }, { on := 3, ground := Ground.phase }, { on := 4, ground := Ground.phase }, { on := 5, ground := Ground.phase }, { on := 6, ground := Ground.phase }, { on := 7, ground := Ground.phase }, { on := 8, ground := Ground.phase }, { on := 9, ground := Ground.phase }, { on := 10, ground := Ground.phase }, { on := 11, ground := Ground.phase }, { on := 12, ground := Ground.phase }, { on := 13, ground := Ground.phase }], guard := none }) (v := ?_) rfl (by kernel_rfl) (by kernel_rfl) (by kernel_rfl) (fun _ _ _ h => h) (Or.inl ⟨by rfl, ?_⟩) (by assumption) ?_
 rotate_left
 ·(rintro w' ⟨h1, h2⟩; go_simp; try with_reducible rfl)
 (try simp only [Act.put, pP]);refine wpAnyH_ready (rs := [16]) (by kernel_rfl) (by simp) ?_;refine AllReadyH.cons (o := ⟨none, .store 45 (.tmp 30) (.tmp 28), 0, _, _, none⟩) rfl (fun K0 hK => ?_) AllReadyH.nil
 refine wQ rfl 45 (.tmp 30) (.tmp 28) rfl pb 1 rfl (.slice A6 (N5 + m) c6) rfl rfl rfl HX5.out.2.1 (by simp) tV ?_;intro w9 hst9;have HX9 := Lh (HX5.out.2.2 w9 hst9);clear hst9;refine hK.out _ _ HX9.out.1 (fun hS3 => ?_);clear hK K0 hS2;(try simp only [Act.put, pP]);refine wpAnyH_done (by kernel_rfl) ?_ _;go_wp2_with fail;go_end0;exact HX9.out.2
theorem DD {pb : Nat} {v : Value} {A : Option Addr} {n c : Nat} {fl : Bool} {t : Alp.B} (w : World) (h : dh pb v A n c fl t w) (hn : n <= 60) (ht : t.length <= 1000000000) : Calls Tryz.prog 134 #[.pointer (some ⟨pb, 0, none⟩), .int .i64 62] w (aH pb v A n c fl (t ++ [35]) w) := by
 have HM : Hid (Calls Tryz.prog 107 #[.pointer (some ⟨pb, 0, none⟩), .int .u8 35] w (aH pb v A n c fl (t ++ [35]) w)) := Lh (gK w h 35 ht);have hb0 : w.cell? ⟨pb, 0, none⟩ = some (.slice A n c) := h.box.cell (j := 0) rfl;have e2 : decide ((62 : Int) < (n : Int)) = false := dF (by omega);clear h;go_enter Tryz.func134, Tryz.ntmps134
 go_wp2_with ((with_reducible refine HM.out.mono ?_); rintro e x4 hp; have H4 := Lh hp; obtain ⟨rfl, _⟩ := iw hp; clear hp)
 go_end0;exact H4.out
theorem CW {pb : Nat} {v : Value} {A : Option Addr} {n c : Nat} {fl : Bool} {t : Alp.B} (w : World) (h : dh pb v A n c fl t w) (hn : n <= 60) (ht : t.length <= 1000000000) : Calls Tryz.prog 134 #[.pointer (some ⟨pb, 0, none⟩), .int .i64 63] w (aH pb v A n c fl (t ++ [45]) w) := by
 have HM : Hid (Calls Tryz.prog 107 #[.pointer (some ⟨pb, 0, none⟩), .int .u8 45] w (aH pb v A n c fl (t ++ [45]) w)) := Lh (gK w h 45 ht);have hb0 : w.cell? ⟨pb, 0, none⟩ = some (.slice A n c) := h.box.cell (j := 0) rfl;have e2 : decide ((63 : Int) < (n : Int)) = false := dF (by omega);clear h;go_enter Tryz.func134, Tryz.ntmps134
 go_wp2_with ((with_reducible refine HM.out.mono ?_); rintro e x4 hp; have H4 := Lh hp; obtain ⟨rfl, _⟩ := iw hp; clear hp)
 go_end0;exact H4.out
theorem Ct {pb : Nat} {v : Value} {A : Option Addr} {n c : Nat} {fl : Bool} {t : Alp.B} (w : World) (h : dh pb v A n c fl t w) (hn : n <= 60) (x : Int) (h1 : ¬ x < (n : Int)) (h2 : x ≠ 62) (h3 : x ≠ 63) : Calls Tryz.prog 134 #[.pointer (some ⟨pb, 0, none⟩), .int .i64 x] w (aH pb v A n c true t w) := by
 have hb0 : w.cell? ⟨pb, 0, none⟩ = some (.slice A n c) := h.box.cell (j := 0) rfl;have hb2 : w.cell? ⟨pb, 2, none⟩ = some (.bool fl) := h.box.cell (j := 2) rfl;have hfr : w.frozen? ⟨pb, 2, none⟩ = false := h.box.frozen 2;have HAF : Hid (∀ W, W = w.setCell ⟨pb, 2, none⟩ (.bool true) -> aH pb v A n c true t w (.returned (.tuple #[])) W) := Lh fun W hW => by
  have hst := aK.of_setCell h.box 2 (.bool true);rw [<- hW] at hst;have hne : v.ownBlock ≠ some pb := fun e => by have := (h.row.lt pb e).1; omega
  exact ⟨rfl, v, ⟨hst.1, h.row.kept (row := some pb) (bv hst) (.inr hne)⟩, ⟨hst.2.2.2.1, hst.2.2.2.2.1, hst.2.2.2.2.2, by rw [hst.2.2.1]; exact Nat.le_refl _, fun k _ a _ => hst.2.1 k a⟩, .inl rfl⟩
 have e1 : decide (x < (n : Int)) = false := dF h1;have e2 : (x == 62) = false := bF h2;have e3 : (x == 63) = false := bF h3;clear h h1 h2 h3;go_enter Tryz.func134, Tryz.ntmps134;go_wp2_with fail;go_end0;exact HAF.out _ rfl
def jM (tx : Alp.B) (l : Lt) : Bool := decide (tx.length < l.text.length /\ tx <+: l.text)
theorem Ew (args : Array Value) (W : World) : (callFunc 157 args).run Tryz.prog W = .ok (.enter 157 args) W := by kernel_rfl
theorem Gs (tx : Alp.B) (l : Lt) (g : Nat) (w : World) (hg : w.cell? ⟨g, 0, none⟩ = some (.string (tb tx))) (hl : l.text.length <= 1000000) (ht : tx.length <= 1000000) (V : Bool) (hV : V = jM tx l) : Calls Tryz.prog 157 #[.agg #[.string (tb l.text), .int .i64 l.base, .int .i64 l.mark, .int .i64 l.cas, .int .i64 l.width], .pointer (some ⟨g, 0, none⟩)] w (aI w V) := by
 have hbk : aa (w.alloc (.cells #[.string (tb l.text), .int .i64 l.base, .int .i64 l.mark, .int .i64 l.cas, .int .i64 l.width] 90)) w.heap.size [.string (tb l.text), .int .i64 l.base, .int .i64 l.mark, .int .i64 l.cas, .int .i64 l.width] 90 := aa.at w _ _ 90 _ rfl rfl;have hc0 := hbk.cell (j := 0) rfl;have hc1 := ((ag w (.cells #[.string (tb l.text), .int .i64 l.base, .int .i64 l.mark, .int .i64 l.cas, .int .i64 l.width] 90)).cell (p := ⟨g, 0, none⟩) (World.block_lt_of_cell? w _ hg)).trans hg;have HB : Hid (Below w.heap.size w (w.alloc (.cells #[.string (tb l.text), .int .i64 l.base, .int .i64 l.mark, .int .i64 l.cas, .int .i64 l.width] 90))) := Lh (ag _ _);obtain ⟨U, hU⟩ : ∃ U, U = decide (tx <+: l.text) := ⟨_, rfl⟩;have HHP : Hid (∀ W, Calls Tryz.prog 154 #[.string (tb l.text), .string (tb tx)] W fun e w' => e = .returned (.bool U) /\ w' = W) := Lh fun W => (Tryz.strings_HasPrefix _ _ W).mono fun e w' ⟨he, hw⟩ => ⟨by rw [he, ng, ng, vw, hU], hw⟩
 obtain ⟨ln, hln⟩ : ∃ n, n = l.text.length := ⟨_, rfl⟩;obtain ⟨tn, htn⟩ : ∃ n, n = tx.length := ⟨_, rfl⟩;have hs1 : (tb l.text).size = ln := by rw [fP, hln]
 have hs2 : (tb tx).size = tn := by rw [fP, htn]
 have HV : Hid (V = (decide (tn < ln) && U)) := Lh (by rw [hV, hU, hln, htn]; unfold jM; simp);clear hbk hg hV hU hln htn hl ht
 by_cases hlt : tn < ln
 ·have e1 : decide (tn < ln) = true := dT hlt;have HW : Hid (V = U) := Lh (by rw [HV.out, e1]; rfl);go_enter Tryz.func157, Tryz.ntmps157
  go_wp2_with ((with_reducible refine (HHP.out _).mono ?_); rintro e w6 ⟨rfl, hw6⟩; have hw7 := hw6.symm; clear hw6; subst hw7)
  go_ret;exact ⟨by rw [HW.out]; rfl, HB.out⟩
 ·have e1 : decide (tn < ln) = false := dF hlt;have HW : Hid (V = false) := Lh (by rw [HV.out, e1]; rfl);go_enter Tryz.func157, Tryz.ntmps157;go_wp2_with fail;go_ret;exact ⟨by rw [HW.out]; rfl, HB.out⟩
theorem Fu (L : List Lt) (A : Option Addr) (n c g : Nat) (tx : Alp.B) (w : World) (hn : n = L.length) (hc : n <= c) (hm : c <= 9223372036854775807) (hL : Rd w A (lv L)) (hlt6 : ∀ l ∈ L, l.text.length <= 1000000) (ht : tx.length <= 1000000) (hg : w.cell? ⟨g, 0, none⟩ = some (.string (tb tx))) (V : Bool) (hV : V = L.any (jM tx)) : Calls Tryz.prog 172 #[.slice A n c, .func (.func 157) #[] #[.pointer (some ⟨g, 0, none⟩)]] w fun e w' => ∃ x : Int, e = .returned (.int .i64 x) /\ decide (0 <= x) = V /\ Below w.heap.size w w' := by
 have HL : Hid (Rd w A (lv L) /\ n = L.length /\ V = L.any (jM tx)) := Lh ⟨hL, hn, hV⟩;have HC : Hid (∀ W, Below w.heap.size w W -> ∀ l ∈ L, ∀ U, U = jM tx l -> Calls Tryz.prog 157 #[.agg #[.string (tb l.text), .int .i64 l.base, .int .i64 l.mark, .int .i64 l.cas, .int .i64 l.width], .pointer (some ⟨g, 0, none⟩)] W (aI W U)) := Lh fun W hb l hl U hU => Gs tx l g W ((hb.cell (p := ⟨g, 0, none⟩) (World.block_lt_of_cell? w _ hg)).trans hg) (hlt6 l hl) ht U hU
 have hen := Ew;clear hL hn hV hlt6 ht hg;go_enter Tryz.func172, Tryz.ntmps172;go_wp2_with fail
 go_loopg [8] n (fun gq s8 wr => ∃ i : Nat, i + gq = n /\ s8 = .int .i64 (i : Int) /\ Hid ((∀ j, j < i -> jM tx (L.getD j z) = false) /\ Below w.heap.size w wr))
 case atStart => exact ⟨0, by omega, rfl, Lh ⟨fun j h => by omega, Below.refl _ _⟩⟩
 case round =>
  obtain ⟨i, hi, rfl, HI⟩ := hrel
  by_cases hlt : i < n
  ·obtain ⟨gg, rfl⟩ : ∃ g, gk = g + 1 := ⟨gk - 1, by omega⟩;have hil : i < L.length := by rw [<- HL.out.2.1]; exact hlt
   obtain ⟨b, o, rfl, hrl⟩ := mf HL.out.1 (List.ne_nil_of_length_pos (by omega));obtain ⟨l, hl⟩ : ∃ l, l = L.getD i z := ⟨_, rfl⟩;have hrg : wr.rangeAt b (o + i * 5) [.string (tb l.text), .int .i64 l.base, .int .i64 l.mark, .int .i64 l.cas, .int .i64 l.width] := (hrl.below HI.out.2).range hil hl;have hmem : l ∈ L := by rw [hl, List.getD_eq_getElem?_getD, List.getElem?_eq_getElem hil]; exact List.getElem_mem hil
   obtain ⟨U, hU⟩ : ∃ U, U = jM tx l := ⟨_, rfl⟩;have HCI := Lh (HC.out wr HI.out.2 l hmem U hU)
   cases U with
   |true =>
    have HF : Hid (V = true) := Lh (by rw [HL.out.2.2, List.any_eq_true]; exact ⟨l, hmem, hU.symm⟩);clear hl hmem hU hil hrl
    go_wp2_with (first
     |(refine wpList_load_mid rfl 90 (.tmp 14) rfl b (o + i * 5) rfl [.string (tb l.text), .int .i64 l.base, .int .i64 l.mark, .int .i64 l.cas, .int .i64 l.width] _ hrg Tryz.underlying90 rfl qC ?_)
     |((with_reducible refine HCI.out.mono ?_); rintro e w6 hp; obtain ⟨rfl, hb6⟩ := aN hp; have H6 := Lh hb6; clear hp hb6))
    go_ret;exact ⟨_, rfl, by rw [HF.out]; simp, HI.out.2.trans (H6.out.mono HI.out.2.size)⟩
   |false =>
    have HF : Hid (∀ j, j < i + 1 -> jM tx (L.getD j z) = false) := Lh fun j h => by
     by_cases e : j = i
     ·subst e; rw [<- hl]; exact hU.symm
     ·exact HI.out.1 j (by omega)
    clear hl hmem hU hil hrl
    go_wp2_with (first
     |(refine wpList_load_mid rfl 90 (.tmp 14) rfl b (o + i * 5) rfl [.string (tb l.text), .int .i64 l.base, .int .i64 l.mark, .int .i64 l.cas, .int .i64 l.width] _ hrg Tryz.underlying90 rfl qC ?_)
     |((with_reducible refine HCI.out.mono ?_); rintro e w6 hp; obtain ⟨rfl, hb6⟩ := aN hp; have H6 := Lh hb6; clear hp hb6))
    go_roundg gg
    case rel => exact ⟨i + 1, by omega, by go_num, Lh ⟨HF.out, HI.out.2.trans (H6.out.mono HI.out.2.size)⟩⟩
    case measure => omega
  ·obtain rfl : n = i := by omega
   have HF : Hid (V = false) := Lh (by
    rw [HL.out.2.2, List.any_eq_false];intro y hy;obtain ⟨j, hj, e⟩ := List.getElem_of_mem hy;have h1 := HI.out.1 j (by rw [HL.out.2.1]; exact hj);rw [List.getD_eq_getElem?_getD, List.getElem?_eq_getElem hj] at h1;rw [<- e]
    simpa using h1)
   go_wp2_with fail;go_ret;exact ⟨_, rfl, by rw [HF.out]; rfl, HI.out.2⟩
theorem Cj (L : List Lt) (A : Option Addr) (n c g : Nat) (tx : Alp.B) (w : World) (hn : n = L.length) (hc : n <= c) (hm : c <= 9223372036854775807) (hL : Rd w A (lv L)) (hlt6 : ∀ l ∈ L, l.text.length <= 1000000) (ht : tx.length <= 1000000) (hg : w.cell? ⟨g, 0, none⟩ = some (.string (tb tx))) (V : Bool) (hV : V = L.any (jM tx)) : Calls Tryz.prog 156 #[.slice A n c, .func (.func 157) #[] #[.pointer (some ⟨g, 0, none⟩)]] w (aI w V) := by
 have HC := Lh (Fu L A n c g tx w hn hc hm hL hlt6 ht hg V hV);clear hn hc hm hL hlt6 ht hg hV;go_enter Tryz.func156, Tryz.ntmps156
 go_wp2_with ((with_reducible refine HC.out.mono ?_); rintro e w1 ⟨x, rfl, hd, hb⟩; have H1 : Hid (Below w.heap.size w w1) := Lh hb; clear hb)
 go_ret;exact ⟨rfl, H1.out⟩
theorem He : (Tryz.prog.info? 9).map (·.size) = some 1 := by kernel_rfl
def jI (L : List Lt) (r : Rx) : Bool := iT r L.length && L.any (jM (L.getD (r.syms.getD 0 0).toNat z).text)
theorem F5 (r : Rx) (A B : Option Addr) (n c m d : Nat) (w : World) (h : aC w r A n c B m d) (hpos : ∀ x ∈ r.syms, 0 <= x) (pb : Nat) (AL : Option Addr) (N cN : Nat) (L : List Lt) (hp : w.cell? ⟨pb, 0, none⟩ = some (.slice AL N cN)) (hN : N = L.length) (hNc : N <= cN) (hcN : cN <= 9223372036854775807) (hL : Rd w AL (lv L)) (hlt6 : ∀ l ∈ L, l.text.length <= 1000000) : Calls Tryz.prog 135 #[.pointer (some ⟨pb, 0, none⟩), .agg #[.int .i64 r.kind, .slice A n c, .slice B m d]] w (aI w (jI L r)) := by
 obtain ⟨K, hK⟩ : ∃ K, K = r.kind := ⟨_, rfl⟩;obtain ⟨V1, hV1⟩ : ∃ V, V = iT r N := ⟨_, rfl⟩;obtain ⟨V, hV⟩ : ∃ V, V = jI L r := ⟨_, rfl⟩;rw [<- hV];have HIL : Hid (∀ W, Below (w.alloc (zC K A n c B m d)).heap.size (w.alloc (zC K A n c B m d)) W -> Calls Tryz.prog 136 #[.pointer (some ⟨pb, 0, none⟩), .agg #[.int .i64 r.kind, .slice A n c, .slice B m d]] W (aI W V1)) := Lh fun W hb => by
  have hbw : Below w.heap.size w W := ae (ag w _) hb;rw [hV1];exact rF r A B n c m d W (h.below hbw) pb AL N cN ((hbw.cell (p := ⟨pb, 0, none⟩) (World.block_lt_of_cell? w _ hp)).trans hp)
 rw [<- hK] at HIL ⊢
 cases V1 with
 |false =>
  have HF : Hid (V = false) := Lh (by rw [hV]; unfold jI; rw [<- hN, <- hV1]; rfl);have hr1 : (w.alloc (zC K A n c B m d)).rangeAt w.heap.size 0 (zV K A n c B m d) := fun j v hv => by rw [Nat.zero_add]; exact iX (Below.refl _ _) j v hv
  have HI := Lh (HIL.out _ (Below.refl _ _));clear h hpos hp hN hNc hcN hL hlt6 hK hV1 hV HIL;go_enter Tryz.func135, Tryz.ntmps135
  go_wp2_with (first
   |(refine aA rfl (.tmp 3) rfl w.heap.size (0) rfl K A B n c m d hr1 ?_)
   |((with_reducible refine HI.out.mono ?_); rintro e w3 hp; obtain ⟨rfl, hb⟩ := aN hp; have H3 : Hid (Below w.heap.size w w3) := Lh (ae (ag _ _) hb); clear hp hb))
  go_ret;exact ⟨by rw [HF.out]; rfl, H3.out⟩
 |true =>
  have hq := of_decide_eq_true hV1.symm;have hnl := h.nlen;obtain ⟨xi, hxi⟩ : ∃ x, r.syms = [x] := by
   match hq' : r.syms, hq.1 with
   |[x], _ => exact ⟨x, rfl⟩
  have hx0 := hpos xi (by rw [hxi]; simp);have hxN : xi < (N : Int) := by have h1 := hq.2; rw [hxi] at h1; exact h1
  obtain ⟨x, rfl⟩ : ∃ x : Nat, xi = (x : Int) := ⟨xi.toNat, by omega⟩;have hn1 : n = 1 := by rw [hnl, hxi]; rfl
  subst hn1;obtain ⟨b, o, rfl, hcs⟩ := h.syms.open (by rw [hxi]; simp [iv]);have h3 := hcs 0 (.int .i64 (x : Int)) (by rw [hxi]; rfl);rw [Nat.add_zero] at h3;obtain ⟨bl, ol, rfl, hrl⟩ := mf hL (List.ne_nil_of_length_pos (by omega));obtain ⟨tx, htx⟩ : ∃ s, s = (L.getD x z).text := ⟨_, rfl⟩;have h4 : w.cell? ⟨bl, ol + x * 5, none⟩ = some (.string (tb tx)) := by rw [htx]; exact hrl.c0 (by omega) rfl
  have htl : tx.length <= 1000000 := by rw [htx]; exact hlt6 _ (by rw [List.getD_eq_getElem?_getD, List.getElem?_eq_getElem (by omega)]; exact List.getElem_mem _)
  have hbk : aa (w.alloc (zC K (some ⟨b, o, none⟩) 1 c B m d)) w.heap.size (zV K (some ⟨b, o, none⟩) 1 c B m d) 25 := aa.at w _ _ 25 _ rfl rfl;have hw1 : Below w.heap.size w (w.alloc (zC K (some ⟨b, o, none⟩) 1 c B m d)) := ag _ _;have HSB : Hid (∀ W, Below (w.alloc (zC K (some ⟨b, o, none⟩) 1 c B m d)).heap.size (w.alloc (zC K (some ⟨b, o, none⟩) 1 c B m d)) W -> (fun w' => w'.cell? ⟨pb, 0, none⟩ = some (.slice (some ⟨bl, ol, none⟩) N cN) /\ w'.cell? ⟨w.heap.size, 1, none⟩ = some (.slice (some ⟨b, o, none⟩) 1 c) /\ w'.cell? ⟨b, o, none⟩ = some (.int .i64 (x : Int)) /\ w'.cell? ⟨bl, ol + x * 5, none⟩ = some (.string (tb tx))) W) := Lh fun W hb => by
   have hbw : Below w.heap.size w W := ae hw1 hb;exact ⟨(hbw.cell (p := ⟨pb, 0, none⟩) (World.block_lt_of_cell? w _ hp)).trans hp, (hbk.below hb hbk.lt).cell (j := 1) rfl, (hbw.cell (p := ⟨b, o, none⟩) (World.block_lt_of_cell? w _ h3)).trans h3, (hbw.cell (p := ⟨bl, ol + x * 5, none⟩) (World.block_lt_of_cell? w _ h4)).trans h4⟩
  have HCN : Hid (∀ W g, Below (w.alloc (zC K (some ⟨b, o, none⟩) 1 c B m d)).heap.size (w.alloc (zC K (some ⟨b, o, none⟩) 1 c B m d)) W -> W.cell? ⟨g, 0, none⟩ = some (.string (tb tx)) -> Calls Tryz.prog 156 #[.slice (some ⟨bl, ol, none⟩) N cN, .func (.func 157) #[] #[.pointer (some ⟨g, 0, none⟩)]] W (aI W V)) := Lh fun W g hb hg => Cj L _ N cN g tx W hN hNc hcN (hL.below (ae hw1 hb)) hlt6 htl hg V (by rw [hV]; unfold jI; rw [<- hN, <- hV1, hxi, htx]; rfl)
  have hr1 : (w.alloc (zC K (some ⟨b, o, none⟩) 1 c B m d)).rangeAt w.heap.size 0 (zV K (some ⟨b, o, none⟩) 1 c B m d) := fun j v hv => by rw [Nat.zero_add]; exact iX (Below.refl _ _) j v hv
  have HI := Lh (HIL.out _ (Below.refl _ _));have HW1 := Lh hw1;have hxl : x < N := by omega
  clear h hpos hp hN hL hlt6 hK hV1 hV HIL hq hnl hxi hcs h3 hrl htx h4 htl hbk hw1 hx0 hxN;go_enter Tryz.func135, Tryz.ntmps135
  go_upto_region 3 with (first
   |(refine aA rfl (.tmp 3) rfl w.heap.size (0) rfl K (some ⟨b, o, none⟩) B 1 c m d hr1 ?_)
   |((with_reducible refine HI.out.mono ?_); rintro e w3 hp; obtain ⟨rfl, hb⟩ := aN hp; have H3 := Lh hb; clear hp hb))
  refine wp_region_held_drew (S := fun w' => w'.cell? ⟨pb, 0, none⟩ = some (.slice (some ⟨bl, ol, none⟩) N cN) /\ w'.cell? ⟨w.heap.size, 1, none⟩ = some (.slice (some ⟨b, o, none⟩) 1 c) /\ w'.cell? ⟨b, o, none⟩ = some (.int .i64 (x : Int)) /\ w'.cell? ⟨bl, ol + x * 5, none⟩ = some (.string (tb tx))) (by kernel_rfl) (HSB.out _ (ae H3.out (below_drewN (Below.refl _ _) 1))) (fun hS0 => ?_);refine bE 0 ?_;refine bE 1 ?_;refine bE 2 ?_;refine bE 3 ?_;refine bE 4 ?_;refine bE 5 ?_;refine bE 6 ?_;refine bE 7 ?_;refine bE 8 ?_;refine bE 9 ?_;refine bE 10 ?_;refine wpAnyH_ready (rs := [11]) (by kernel_rfl) (by simp) ?_;refine wA rfl (fun K0 hK => ?_) AllReadyH.nil
  go_simp;have HX : Hid (Below w.heap.size w (w3.drew.alloc (.cells #[.string ⟨#[]⟩] 9)) /\ aa (w3.drew.alloc (.cells #[.string ⟨#[]⟩] 9)) w3.heap.size [.string ⟨#[]⟩] 9 /\ Below (w.alloc (zC K (some ⟨b, o, none⟩) 1 c B m d)).heap.size (w.alloc (zC K (some ⟨b, o, none⟩) 1 c B m d)) (w3.drew.alloc (.cells #[.string ⟨#[]⟩] 9))) := Lh ⟨HW1.out.trans ((aB (ae H3.out (below_drewN (Below.refl _ _) 1)) _).mono HW1.out.size), aa.at w3.drew _ _ 9 _ rfl rfl, aB (ae H3.out (below_drewN (Below.refl _ _) 1)) _⟩;refine hK.out _ _ (HSB.out _ HX.out.2.2) (fun hS1 => ?_);clear hK K0 hS0;(try simp only [Act.put, pP]);refine wpAnyH_ready (rs := [12]) (by kernel_rfl) (by simp) ?_;refine AllReadyH.cons (o := ⟨none, .store 9 (.tmp 5) (.tmp 20), 0, _, _, none⟩) rfl (fun K0 hK => ?_) AllReadyH.nil
  refine wQ rfl 9 (.tmp 5) (.tmp 20) rfl w3.heap.size 0 rfl (.string (tb tx)) rfl rfl rfl HX.out.2.1 (by simp) He ?_;intro x9 hst9;have HX9 : Hid (Below (w.alloc (zC K (some ⟨b, o, none⟩) 1 c B m d)).heap.size (w.alloc (zC K (some ⟨b, o, none⟩) 1 c B m d)) x9 /\ x9.cell? ⟨w3.heap.size, 0, none⟩ = some (.string (tb tx))) := Lh ⟨hst9.below HX.out.2.2 H3.out.size, hst9.1.cell (j := 0) rfl⟩;clear hst9;refine hK.out _ _ (HSB.out _ HX9.out.1) (fun hS2 => ?_);clear hK K0 hS1;(try simp only [Act.put, pP]);refine wpAnyH_done (by kernel_rfl) ?_ _
  go_wp2_with ((with_reducible refine (HCN.out x9 w3.heap.size HX9.out.1 HX9.out.2).mono ?_); rintro e wz hp; obtain ⟨rfl, hb⟩ := aN hp; have HZ : Hid (Below w.heap.size w wz) := Lh (ae (ae HW1.out HX9.out.1) hb); clear hp hb)
  go_ret;exact ⟨rfl, HZ.out⟩
namespace Rgx
def bZ (L : List Lt) (x : Int) : Alp.B := (kZ L x).getD []
def bC (L : List Lt) (x : Int) : Bool := (kZ L x).isNone
def bH (L : List Lt) : Bool -> List Int -> Alp.B
 |_, [] => []
 |f, x :: t => (if f then [] else [124]) ++ bZ L x ++ bH L false t
def pM (L : List Lt) (s : List Int) : Bool := decide (s.length = L.length /\ s.getD (s.length - 1) 0 = (s.length : Int) - 1)
def jB (L : List Lt) (s : List Int) : Alp.B := if s.length = 1 then bZ L (s.getD 0 0) else if pM L s then [46] else [40] ++ bH L true s ++ [41]
def nG (L : List Lt) (s : List Int) : Bool := if s.length = 1 then bC L (s.getD 0 0) else if pM L s then false else s.any (bC L)
def jE (L : List Lt) (r : Rx) : Bool := decide (r.kind = 5) && iT (ak r.kids 0) L.length
def iy (L : List Lt) (ap : Bool) (r : Rx) (t : Alp.B) : Alp.B := if ap && jE L r then [40] ++ jB L (ak r.kids 0).syms ++ [41] ++ [42] else if decide (r.kind = 4) || (ap && iT r L.length) then [40] ++ t ++ [41] else t
mutual
def aF (L : List Lt) : Rx -> Alp.B
 |.mk k s ks => if k = 0 then [123, 125] else if k = 2 then jB L s else if k = 3 then ed L false ks else if k = 4 then dU L true ks else if k = 5 then kI L ks else []
def ed (L : List Lt) : Bool -> List Rx -> Alp.B
 |_, [] => []
 |b, r :: rs => iy L b r (aF L r) ++ ed L (jI L r) rs
def dU (L : List Lt) : Bool -> List Rx -> Alp.B
 |_, [] => []
 |f, r :: rs => (if f then [] else [124]) ++ aF L r ++ dU L false rs
def kI (L : List Lt) : List Rx -> Alp.B
 |[] => []
 |r :: _ => (if r.kind = 4 \/ r.kind = 3 then [40] ++ aF L r ++ [41] else aF L r) ++ [42]
end
mutual
def aO (L : List Lt) : Rx -> Bool
 |.mk k s ks => if k = 2 then nG L s else if k = 3 \/ k = 4 \/ k = 5 then dE L ks else false
def dE (L : List Lt) : List Rx -> Bool
 |[] => false
 |r :: rs => aO L r || dE L rs
end
theorem jQ (L : List Lt) (r : Rx) : aF L r = if r.kind = 0 then [123, 125] else if r.kind = 2 then jB L r.syms else if r.kind = 3 then ed L false r.kids else if r.kind = 4 then dU L true r.kids else if r.kind = 5 then kI L r.kids else [] := by
 cases r with
 |mk k s ks => rw [aF]; rfl
theorem kR (L : List Lt) (r : Rx) : aO L r = if r.kind = 2 then nG L r.syms else if r.kind = 3 \/ r.kind = 4 \/ r.kind = 5 then dE L r.kids else false := by
 cases r with
 |mk k s ks => rw [aO]; rfl
theorem qO {ks : List Rx} {i : Nat} (h : i < ks.length) : ks.drop i = ak ks i :: ks.drop (i + 1) := by
 rw [List.drop_eq_getElem_cons h];unfold ak;simp [List.getD, h]
structure dY (w : World) (pb : Nat) (A : Option Addr) (n c : Nat) (L : List Lt) : Prop where
 nl : n = L.length
 cl : n <= c
 ml : c <= 9223372036854775807
 few : n <= 60
 rd : Rd w A (lv L)
 pl : ∀ b o, A = some ⟨b, o, none⟩ -> b < pb
 lt : ∀ l ∈ L, l.text.length <= 1000000
theorem dY.below {w w1 : World} {pb : Nat} {A : Option Addr} {n c : Nat} {L : List Lt} (h : dY w pb A n c L) (hb : Below w.heap.size w w1) : dY w1 pb A n c L := ⟨h.nl, h.cl, h.ml, h.few, h.rd.below hb, h.pl, h.lt⟩
theorem dY.kp {w w1 : World} {pb : Nat} {v : Value} {A : Option Addr} {n c : Nat} {L : List Lt} (h : dY w pb A n c L) (hk : Kp pb v w w1) (hl : pb < w.heap.size /\ ∀ g, v.ownBlock = some g -> pb < g /\ g < w.heap.size) : dY w1 pb A n c L := ⟨h.nl, h.cl, h.ml, h.few, by
 rcases h.rd with e | ⟨b, o, e, hc⟩
 ·exact .inl e
 ·have hb := h.pl b o e;refine .inr ⟨b, o, e, fun k v' hv => (hk.cell (by omega) (by omega) (fun e2 => by have := (hl.2 b e2.symm).1; omega)).trans (hc k v' hv)⟩, h.pl, h.lt⟩
end Rgx
theorem mJ {pb : Nat} {v : Value} {A : Option Addr} {n c : Nat} {fl : Bool} {t : Alp.B} (w : World) (h : dh pb v A n c fl t w) (L : List Lt) (hL : dY w pb A n c L) (x : Int) (hx : 0 <= x) (ht : t.length <= 1000000000) : Calls Tryz.prog 134 #[.pointer (some ⟨pb, 0, none⟩), .int .i64 x] w (aH pb v A n c (fl || bC L x) (t ++ bZ L x) w) := by
 have hn := hL.nl
 by_cases h1 : x < (n : Int)
 ·obtain ⟨y, rfl⟩ : ∃ y : Nat, x = (y : Int) := ⟨x.toNat, by omega⟩;have hy : y < L.length := by omega
  have e : kZ L (y : Int) = some (L.getD y z).text := by unfold kZ; rw [if_pos (by omega)]; simp
  obtain ⟨b, o, rfl, hrl⟩ := mf hL.rd (List.ne_nil_of_length_pos (by omega));have hb := hL.pl b o rfl;have hmem : L.getD y z ∈ L := by rw [List.getD_eq_getElem?_getD, List.getElem?_eq_getElem hy]; exact List.getElem_mem hy
  have h2 := Dk w h y L hn hL.cl hL.ml (by omega) hrl hb (fun g hg e2 => by have := (h.lt.2 g hg).1; omega) ht (hL.lt _ hmem);unfold bZ bC;rw [e]
  simpa using h2
 ·have e0 : kZ L x = if x = 62 then some [35] else if x = 63 then some [45] else none := by unfold kZ; rw [if_neg (by omega)]
  unfold bZ bC;rw [e0]
  by_cases h2 : x = 62
  ·subst h2
   simpa using DD w h hL.few ht
  ·rw [if_neg h2]
   by_cases h3 : x = 63
   ·subst h3
    simpa using CW w h hL.few ht
   ·rw [if_neg h3]
    simpa using Ct w h hL.few x h1 h2 h3
namespace Rgx
structure dB (p : Nat -> Prop) (w : World) (l : List Nat) (A : Option Addr) (n c : Nat) : Prop where
 len : n = l.length
 cap : n <= c
 max : c <= 9223372036854775807
 rd : Rd w A (iv (nl l))
 blk : l ≠ [] -> ∀ b o, A = some ⟨b, o, none⟩ -> p b
section
variable {p q : Nat -> Prop} {w W : World} {l : List Nat} {A : Option Addr} {n c : Nat}
theorem bY.toL (h : bY p w l A n c) : dB p w l A n c := ⟨h.len, h.cap, h.max, h.rd, h.blk⟩
theorem dB.mono (h : dB p w l A n c) (hpq : ∀ b, p b -> q b) : dB q w l A n c := ⟨h.len, h.cap, h.max, h.rd, fun hn b o e => hpq b (h.blk hn b o e)⟩
theorem dB.keep (h : dB p w l A n c) (hk : ∀ b o, p b -> W.cell? ⟨b, o, none⟩ = w.cell? ⟨b, o, none⟩) : dB p W l A n c := by
 refine ⟨h.len, h.cap, h.max, ?_, h.blk⟩
 by_cases hl : l = []
 ·subst hl; exact .inl rfl
 ·obtain ⟨b, o, e, hc⟩ := h.rd.open (j3 hl);exact .inr ⟨b, o, e, fun k v hv => (hk b _ (h.blk hl b o e)).trans (hc k v hv)⟩
theorem dB.lt (h : dB p w l A n c) : dB (fun b => p b /\ b < w.heap.size) w l A n c := ⟨h.len, h.cap, h.max, h.rd, fun hn b o e => ⟨h.blk hn b o e, by
 obtain ⟨b', o', e', hc⟩ := h.rd.open (j3 hn);obtain ⟨rfl, rfl⟩ : b = b' /\ o = o' := by rw [e] at e'; simpa using e'
 cases l with
 |nil => exact absurd rfl hn
 |cons x t => exact World.block_lt_of_cell? w _ (hc 0 _ rfl)⟩⟩
theorem dB.own {base N : Nat} {E : TypeId} (h : w.ownsRow base E 1 (.slice A n c) N (iv (nl l))) : dB (fun b => base <= b) w l A n c := by
 obtain ⟨B, d, e, h1, h2, h3⟩ := Rd.of_own h;simp only [Value.slice.injEq] at e;obtain ⟨rfl, rfl, rfl⟩ := e;have hl : n = l.length := by
  obtain ⟨h4, h5⟩ := h
  simpa [iv, nl] using h4.symm
 exact ⟨hl, h2, by unfold maxLen at h3; exact h3, h1, fun _ b o e => by subst e; exact (h.lt b rfl).1⟩
end
theorem oJ : ∀ (N : Nat) (L : List Nat), L.Nodup -> (∀ n ∈ L, n < N) -> L.length <= N
 |0, L, _, h => by
  cases L with
  |nil => simp
  |cons x t => exact absurd (h x (by simp)) (by omega)
 |N + 1, L, hn, h => by
  by_cases hm : N ∈ L
  ·have h1 := oJ N (L.erase N) (hn.erase N) fun n hx => by
    have h2 := (List.Nodup.mem_erase_iff hn).1 hx;have := h n h2.2;omega
   rw [List.length_erase_of_mem hm] at h1;omega
  ·have h1 := oJ N L hn fun n hx => by
    have := h n hx;have : n ≠ N := fun e => hm (e ▸ hx)
    omega
   omega
def dX (L S : List Nat) : List Nat := S.foldl (fun L n => if n ∈ L then L else L ++ [n]) L
theorem rP (L S : List Nat) (n : Nat) : dX L (S ++ [n]) = if n ∈ dX L S then dX L S else dX L S ++ [n] := by unfold dX; rw [List.foldl_append]; rfl
theorem lY {L S : List Nat} {n : Nat} : n ∈ dX L S ↔ n ∈ L \/ n ∈ S := by
 unfold dX
 induction S generalizing L with
 |nil => simp
 |cons x t ih =>
  rw [List.foldl_cons, ih]
  by_cases h : x ∈ L
  ·rw [if_pos h];constructor
   ·rintro (h1 | h1)
    ·exact .inl h1
    ·exact .inr (by simp [h1])
   ·rintro (h1 | h1)
    ·exact .inl h1
    ·rcases List.mem_cons.1 h1 with rfl | h1
     ·exact .inl h
     ·exact .inr h1
  ·rw [if_neg h];rw [List.mem_append, List.mem_singleton, List.mem_cons];constructor
   ·rintro ((h1 | h1) | h1)
    ·exact .inl h1
    ·exact .inr (.inl h1)
    ·exact .inr (.inr h1)
   ·rintro (h1 | h1 | h1)
    ·exact .inl (.inl h1)
    ·exact .inl (.inr h1)
    ·exact .inr h1
theorem rA (L S : List Nat) : L <+: dX L S := by
 unfold dX
 induction S generalizing L with
 |nil => exact List.prefix_refl _
 |cons x t ih =>
  rw [List.foldl_cons]
  by_cases h : x ∈ L
  ·rw [if_pos h]; exact ih L
  ·rw [if_neg h]; exact (List.prefix_append L [x]).trans (ih _)
structure l7 (N : Nat) (step : Int) (L : List Nat) (Rk : List Int) : Prop where
 len : Rk.length = N
 nd : L.Nodup
 lt : ∀ n ∈ L, n < N
 sm : ∀ n, n < N -> (Rk.getD n 0 = step ↔ n ∈ L)
 le : ∀ n, n < N -> Rk.getD n 0 <= step
theorem l7.few {N : Nat} {step : Int} {L : List Nat} {Rk : List Int} (h : l7 N step L Rk) : L.length <= N := oJ N L h.nd h.lt
theorem l7.add {N : Nat} {step : Int} {L : List Nat} {Rk : List Int} (h : l7 N step L Rk) {n : Nat} (hn : n < N) (hm : n ∉ L) : l7 N step (L ++ [n]) (Rk.set n step) := by
 have hl := h.len;have hs : ∀ k, k < N -> (Rk.set n step).getD k 0 = if n = k then step else Rk.getD k 0 := fun k hk => by
  simp only [List.getD_eq_getElem?_getD, List.getElem?_set]
  by_cases e : n = k
  ·subst e; rw [if_pos rfl, if_pos rfl, if_pos (by omega)]; rfl
  ·rw [if_neg e, if_neg e]
 refine ⟨by rw [List.length_set]; exact hl, ?_, fun k hk => ?_, fun k hk => ?_, fun k hk => ?_⟩
 ·rw [List.nodup_append];exact ⟨h.nd, by simp, fun a ha b hb e => hm (by rw [show b = n by simpa using hb] at e; exact e ▸ ha)⟩
 ·rcases List.mem_append.1 hk with hk | hk
  ·exact h.lt k hk
  ·rw [show k = n by simpa using hk]; exact hn
 ·rw [hs k hk]
  by_cases e : n = k
  ·subst e; simp
  ·rw [if_neg e, h.sm k hk];simp only [List.mem_append, List.mem_singleton];exact ⟨.inl, fun h => h.elim id fun h => absurd h.symm e⟩
 ·rw [hs k hk]
  split
  ·exact Int.le_refl _
  ·exact h.le k hk
structure Kg (gr bl : Nat) (w w' : World) : Prop where
 os : w'.os = w.os
 tape : w'.tape = w.tape
 output : w'.output = w.output
 size : w.heap.size <= w'.heap.size
 block : ∀ k, k < bl -> k ≠ gr -> w'.heap[k]? = w.heap[k]?
theorem Kg.refl (gr bl : Nat) (w : World) : Kg gr bl w w := ⟨rfl, rfl, rfl, Nat.le_refl _, fun _ _ _ => rfl⟩
theorem Kg.tr {gr bl : Nat} {a b c : World} (h1 : Kg gr bl a b) (h2 : Kg gr bl b c) : Kg gr bl a c := ⟨h2.os.trans h1.os, h2.tape.trans h1.tape, h2.output.trans h1.output, Nat.le_trans h1.size h2.size, fun k a b => (h2.block k a b).trans (h1.block k a b)⟩
theorem Kg.of_below {gr bl : Nat} {w w' : World} (h : Below w.heap.size w w') (hb : bl <= w.heap.size) : Kg gr bl w w' := ⟨h.os, h.tape, h.output, h.size, fun k hk _ => h.block k (Nat.lt_of_lt_of_le hk hb)⟩
theorem Kg.of_grown {gr bl : Nat} {w w' : World} {row : Option Nat} (h : w.grownBy w' row) (hb : bl <= w.heap.size) (hr : ∀ g, row = some g -> g = gr \/ bl <= g) : Kg gr bl w w' := ⟨h.os, h.tape, h.output, h.size, fun k hk hn => h.block k (Nat.lt_of_lt_of_le hk hb) (fun e => by rcases hr k e.symm with h | h; exact hn h; omega)⟩
structure gY (gr bl N : Nat) (step : Int) (L : List Nat) (Rk : List Int) (w : World) : Prop where
 mks : l7 N step L Rk
 row : ∃ v, aa w bl [v] 22 /\ w.ownsRow (bl + 1) 3 1 v L.length (iv (nl L))
 mark : aa w gr (iv Rk) 3
theorem gY.below {gr bl N : Nat} {step : Int} {L : List Nat} {Rk : List Int} {w w' : World} (h : gY gr bl N step L Rk w) (hb : Below w.heap.size w w') : gY gr bl N step L Rk w' := by
 obtain ⟨v, h1, h2⟩ := h.row;exact ⟨h.mks, ⟨v, h1.below hb h1.lt, dW h2 hb⟩, h.mark.below hb h.mark.lt⟩
theorem Ea (l : List Int) (n : Nat) (x : Int) : (iv l).set n (.int .i64 x) = iv (l.set n x) := by unfold iv; rw [List.map_set]
theorem yG {l : List Int} {n : Nat} (h : n < l.length) : (iv l)[n]? = some (.int .i64 (l.getD n 0)) := by unfold iv; simp [List.getD, h]
theorem sI {l : List Nat} {n : Nat} (h : n < l.length) : (iv (nl l))[n]? = some (.int .i64 ((l[n] : Nat) : Int)) := by simp [iv, nl, h]
end Rgx
def qf (gr bl N : Nat) (step : Int) (L S : List Nat) (w : World) (e : Ending) (w' : World) : Prop := e = .returned (.tuple #[]) /\ ∃ Rk, gY gr bl N step (dX L S) Rk w' /\ Kg gr bl w w'
theorem uO {gr bl N : Nat} {step : Int} {L S : List Nat} {w w' : World} {e : Ending} (h : qf gr bl N step L S w e w') : e = .returned (.tuple #[]) /\ ∃ Rk, gY gr bl N step (dX L S) Rk w' /\ Kg gr bl w w' := h
theorem CP (args : Array Value) (W : World) : (callFunc 93 args).run Tryz.prog W = .ok (.enter 93 args) W := by kernel_rfl
theorem DF (gr bl br bs N : Nat) (step : Int) (hN : N <= 1000000000) (L S : List Nat) (Rk : List Int) (A : Option Addr) (n c : Nat) (w : World) (hW : gY gr bl N step L Rk w) (hb1 : br < bl /\ br ≠ gr) (hb2 : bs < bl /\ bs ≠ gr) (hgb : gr < bl) (hS : dB (fun b => b < bl /\ b ≠ gr) w S A n c) (hlt : ∀ n ∈ S, n < N) (hc1 : w.cell? ⟨br, 0, none⟩ = some (.slice (some ⟨gr, 0, none⟩) N N)) (hc2 : w.cell? ⟨bs, 0, none⟩ = some (.int .i64 step)) : Calls Tryz.prog 93 #[.slice A n c, .pointer (some ⟨br, 0, none⟩), .pointer (some ⟨bs, 0, none⟩), .pointer (some ⟨bl, 0, none⟩)] w (qf gr bl N step L S w) := by
 obtain ⟨j0, hj0, hy0, hy1, hy2⟩ := info_parts lG;have HW := Lh hW;have HB : Hid ((br < bl /\ br ≠ gr) /\ (bs < bl /\ bs ≠ gr) /\ gr < bl) := Lh ⟨hb1, hb2, hgb⟩;have HS : Hid (dB (fun b => b < bl /\ b ≠ gr) w S A n c /\ ∀ n ∈ S, n < N) := Lh ⟨hS, hlt⟩;have HBL : Hid (bl < w.heap.size) := Lh (by obtain ⟨v, h1, _⟩ := hW.row; exact h1.lt);have HC : Hid (∀ W, Kg gr bl w W -> W.cell? ⟨br, 0, none⟩ = some (.slice (some ⟨gr, 0, none⟩) N N) /\ W.cell? ⟨bs, 0, none⟩ = some (.int .i64 step) /\ Rd W A (iv (nl S))) := Lh fun W hk => ⟨(World.cell?_of_block (hk.block br hb1.1 hb1.2)).trans hc1, (World.cell?_of_block (hk.block bs hb2.1 hb2.2)).trans hc2, (hS.keep (W := W) fun b o hp => World.cell?_of_block (hk.block b hp.1 hp.2)).rd⟩
 have hn0 := hS.cap;have hc0 := hS.max;clear hW hb1 hb2 hgb hS hlt hc1 hc2;go_enter Tryz.func93, Tryz.ntmps93;go_wp2_with fail
 go_loopg [9] n (fun g s9 wr => ∃ i : Nat, i + g = n /\ s9 = .int .i64 (i : Int) /\ Hid (∃ Rk, gY gr bl N step (dX L (S.take i)) Rk wr /\ Kg gr bl w wr))
 case atStart => exact ⟨0, by omega, rfl, Lh ⟨Rk, by rw [List.take_zero]; exact HW.out, Kg.refl _ _ _⟩⟩
 case round =>
  obtain ⟨i, hi, rfl, HI⟩ := hrel
  by_cases hlt : i < n
  ·obtain ⟨gg, rfl⟩ : ∃ g, gk = g + 1 := ⟨gk - 1, by omega⟩;obtain ⟨Rq, hSW, hKG⟩ := HI.out;have HSW : Hid (gY gr bl N step (dX L (S.take i)) Rq wr /\ Kg gr bl w wr) := Lh ⟨hSW, hKG⟩;have hil : i < S.length := by rw [<- HS.out.1.len]; exact hlt
   have hrd := (HC.out wr hKG).2.2;obtain ⟨b, o, rfl, hcs⟩ := hrd.open (j3 (List.ne_nil_of_length_pos (by omega)));obtain ⟨x, hx⟩ : ∃ x, x = S[i] := ⟨_, rfl⟩;have hcx : wr.cell? ⟨b, o + i, none⟩ = some (.int .i64 (x : Int)) := by rw [hx]; exact hcs i _ (sI hil)
   have hxN : x < N := by rw [hx]; exact HS.out.2 _ (List.getElem_mem hil)
   have HTK : Hid (S.take (i + 1) = S.take i ++ [x]) := Lh (by rw [List.take_succ_eq_append_getElem hil, hx]);obtain ⟨y, hy⟩ : ∃ y, y = Rq.getD x 0 := ⟨_, rfl⟩;have HY : Hid (y = Rq.getD x 0) := Lh hy;have hcm := hSW.mark.cell (yG (by rw [hSW.mks.len]; exact hxN));rw [<- hy] at hcm;have hcr := (HC.out wr hKG).1;have hcs2 := (HC.out wr hKG).2.1;have HBS : Hid (Below wr.heap.size wr wr) := Lh (Below.refl _ _);have l1 : ∀ p : Wo (Below wr.heap.size wr), p.wo.cell? ⟨br, 0, none⟩ = some (.slice (some ⟨gr, 0, none⟩) N N) := fun p => (p.ok.cell (p := ⟨br, 0, none⟩) (World.block_lt_of_cell? wr _ hcr)).trans hcr
   have l2 : ∀ p : Wo (Below wr.heap.size wr), p.wo.cell? ⟨bs, 0, none⟩ = some (.int .i64 step) := fun p => (p.ok.cell (p := ⟨bs, 0, none⟩) (World.block_lt_of_cell? wr _ hcs2)).trans hcs2
   have l3 : ∀ p : Wo (Below wr.heap.size wr), p.wo.cell? ⟨gr, x, none⟩ = some (.int .i64 y) := fun p => (p.ok.cell (p := ⟨gr, x, none⟩) (World.block_lt_of_cell? wr _ hcm)).trans hcm
   clear hSW hKG hrd hcs hx hil hy hcm hcr hcs2
   by_cases hys : y = step
   ·have e1 : (y != step) = false := by rw [hys]; simp
    have HMM : Hid (x ∈ dX L (S.take i)) := Lh ((HSW.out.1.mks.sm x hxN).1 (by rw [<- HY.out]; exact hys));clear hys;go_wp2_with fail;haveI : Nonempty (Wo (Below wr.heap.size wr)) := ⟨⟨wr, HBS.out⟩⟩;refine iR (Below wr.heap.size wr) jc (by kernel_rfl) (below_drewN HBS.out 1) ?_
    repeat (go_big_quiet_step ((fail)))
    refine wpQuiet_nil ?_;intro x1 hw2;obtain ⟨⟨x1x, hok⟩, hw3⟩ := hw2;have hw4 : x1 = x1x := hw3;subst hw4;have Hx1 := Lh hok;clear hw3 hok;go_wp2_with fail
    go_roundg gg
    case rel => exact ⟨i + 1, by omega, by go_num, Lh ⟨Rq, by rw [HTK.out, rP, if_pos HMM.out]; exact HSW.out.1.below Hx1.out, HSW.out.2.tr (Kg.of_below Hx1.out (by have h1 := HSW.out.2.size; have h2 := HBL.out; omega))⟩⟩
    case measure => omega
   ·have e1 : (y != step) = true := by simpa using hys
    have HMM : Hid (x ∉ dX L (S.take i)) := Lh fun h => hys (by rw [HY.out]; exact (HSW.out.1.mks.sm x hxN).2 h)
    clear hys;go_wp2_with fail;haveI : Nonempty (Wo (Below wr.heap.size wr)) := ⟨⟨wr, HBS.out⟩⟩;refine iR (Below wr.heap.size wr) jc (by kernel_rfl) (below_drewN HBS.out 1) ?_
    repeat (go_big_quiet_step ((fail)))
    refine wpQuiet_nil ?_;intro x1 hw2;obtain ⟨⟨x1x, hok⟩, hw3⟩ := hw2;have hw4 : x1 = x1x := hw3;subst hw4;have Hx1 := Lh hok;clear hw3 hok;obtain ⟨v1, hv1, hv2⟩ := (HSW.out.1.below Hx1.out).row;obtain ⟨B5, d5, hv, _⟩ := Rd.of_own hv2;obtain ⟨N5, hN5⟩ : ∃ N, N = (dX L (S.take i)).length := ⟨_, rfl⟩;rw [<- hN5] at hv hv2;subst hv;have HN5 : Hid (N5 = (dX L (S.take i)).length /\ N5 <= 1000000000) := Lh ⟨hN5, by have := HSW.out.1.mks.few; omega⟩;have HMK : Hid (aa x1 gr (iv Rq) 3) := Lh (HSW.out.1.below Hx1.out).mark;have hc1 := l1 ⟨x1, Hx1.out⟩;have hc2 := l2 ⟨x1, Hx1.out⟩;have hc3 := l3 ⟨x1, Hx1.out⟩
    dsimp only at hc1 hc2 hc3
    have hf3 : x1.frozen? ⟨gr, x, none⟩ = false := HMK.out.frozen x;have HST : Hid (∀ W, W = x1.setCell ⟨gr, x, none⟩ (.int .i64 step) -> aa W gr (iv (Rq.set x step)) 3 /\ x1.grownBy W (some gr) /\ aa W bl [.slice B5 N5 d5] 22 /\ W.ownsRow (bl + 1) 3 1 (.slice B5 N5 d5) N5 (iv (nl (dX L (S.take i)))) /\ W.heap.size = x1.heap.size) := Lh fun W hW => by
     have h1 := aK.of_setCell HMK.out x (.int .i64 step);rw [<- hW, Ea] at h1;have hg := bv h1;have hbl := HB.out.2.2;exact ⟨h1.1, hg, h1.other hv1 (by omega), hv2.kept hg (by
      cases B5 with
      | none => left; rfl
      | some a => right; intro e; have h2 := hv2.lt gr e; omega), h1.2.2.1⟩
    clear hv1 hv2 hN5
    go_upto_region 5 with fail
    obtain ⟨x2, hx2⟩ : ∃ W, W = x1.setCell ⟨gr, x, none⟩ (.int .i64 step) := ⟨_, rfl⟩;rw [<- hx2];have H2 := Lh (HST.out x2 hx2);have HO := Lh H2.out.2.2.2.1;have hc9 := H2.out.2.2.1.cell (j := 0) rfl;have hs1 : N5 + 1 <= maxLen := by have := HN5.out.2; unfold maxLen; omega
    have hs2 : (N5 + 1) * 8 <= 140737488355328 := by have := HN5.out.2; omega
    have HBX : Hid (bl < x2.heap.size) := Lh H2.out.2.2.1.lt;have HAP : Hid (∀ v' w', w'.ownsRow (bl + 1) 3 1 v' (N5 + 1) (iv (nl (dX L (S.take i))) ++ [.int .i64 (x : Int)]) -> (x2.alloc (.cells #[.int .i64 (x : Int)] 3)).grownBy w' (Value.slice B5 N5 d5).ownBlock -> aa w' bl [.slice B5 N5 d5] 22 /\ ∀ w9, aK w' w9 bl [v'] 22 -> ∃ Rk, gY gr bl N step (dX L (S.take (i + 1))) Rk w9 /\ Kg gr bl w w9) := Lh fun v' w' hown hg => by
     have hne : ∀ g, (Value.slice B5 N5 d5).ownBlock = some g -> bl + 1 <= g := fun g hg => (HO.out.lt g hg).1
     have hbb : aa w' bl [.slice B5 N5 d5] 22 := (hg.block bl (by simp; have := HBX.out; omega) (fun e => by have := hne bl e.symm; omega)).trans (H2.out.2.2.1.alloc _);refine ⟨hbb, fun w9 hst => ⟨Rq.set x step, ⟨?_, ⟨v', hst.1, ?_⟩, ?_⟩, ?_⟩⟩
     ·rw [HTK.out, rP, if_neg HMM.out];exact HSW.out.1.mks.add hxN HMM.out
     ·rw [HTK.out, rP, if_neg HMM.out];have h1 : w'.ownsRow (bl + 1) 3 1 v' ((dX L (S.take i) ++ [x]).length) (iv (nl (dX L (S.take i) ++ [x]))) := by
        rw [List.length_append, <- HN5.out.1]
        simpa [iv, nl] using hown
      exact h1.kept (row := some bl) (bv hst) (by
        cases hvb : v'.ownBlock with
        |none => left; rfl
        |some g => right; intro e; have := (h1.lt g hvb).1; have := Option.some.inj e; omega)
     ·have hbl := HB.out.2.2;exact hst.other ((hg.block gr (by simp; have := HBX.out; omega) (fun e => by have := hne gr e.symm; omega)).trans (H2.out.1.alloc _)) (by omega)
     ·have hbl := HB.out.2.2;have k1 : Kg gr bl wr x1 := Kg.of_below Hx1.out (by have h1 := HSW.out.2.size; have h2 := HBL.out; omega);have k2 : Kg gr bl x1 x2 := Kg.of_grown H2.out.2.1 (by have h1 := HBX.out; rw [H2.out.2.2.2.2] at h1; omega) (fun g e => .inl (Option.some.inj e).symm);have k3 : Kg gr bl x2 w' := ⟨hg.os, hg.tape, hg.output, by have := hg.size; simp at this; omega, fun k hk _ => (hg.block k (by simp; have := HBX.out; omega) (fun e => by have := hne k e.symm; omega)).trans (heap_alloc_old x2 _ (by have := HBX.out; omega))⟩;have k4 : Kg gr bl w' w9 := Kg.of_grown (bv hst) (by have h1 := hbb.lt; omega) (fun g e => .inr (by have := Option.some.inj e; omega));exact HSW.out.2.tr (k1.tr (k2.tr (k3.tr k4)))
    clear hx2
    go_wp2_with (first
     |(at_builtin; refine eu rfl (.tmp 23) (.tmp 25) 22 22 rfl (bl + 1) 3 j0 _ 1 8 Tryz.underlying22 hj0 hy0 hy1 hy2 rfl _ _ _ rfl (dW HO.out (ag _ _)) _ 1 [.int .i64 (x : Int)] rfl (qj Tryz.underlying22 hy1 x2 (.int .i64 (x : Int)) 3 rfl) hs1 hs2 (by have := HBX.out; simp; omega) ?_; intro v9 w9 hown9 hg9 hat9; obtain ⟨A6, c6, hv6, _⟩ := Rd.of_own hown9; subst hv6; have HX9 := Lh (HAP.out _ _ hown9 hg9); clear hown9 hg9 hat9)
     |(refine lC rfl 22 (.tmp 3) (.tmp 26) rfl bl 0 rfl A6 (N5 + 1) c6 rfl HX9.out.1 (by simp) om ?_; intro w8 hst8; have HX8 := Lh (HX9.out.2 w8 hst8); clear hst8))
    go_roundg gg
    case rel => exact ⟨i + 1, by omega, by go_num, HX8⟩
    case measure => omega
  ·obtain rfl : n = i := by omega
   have HF : Hid (qf gr bl N step L S w (.returned (.tuple #[])) wr) := Lh (by
    have h1 := HI.out;rw [HS.out.1.len, List.take_length] at h1;exact ⟨rfl, h1⟩)
   go_wp2_with fail;go_end0;exact HF.out
namespace Rgx
theorem BA {M : List St} {S L : List Nat} (h1 : ∀ a ∈ S, a ∈ L) (h2 : ∀ n ∈ L, ∃ a ∈ S, iI M a n) (h3 : ∀ t ∈ L, ∀ nx, M[t]? = some (0, nx) -> ∀ n ∈ nx, n ∈ L) : l6 M S L := fun n => by
 constructor
 ·exact h2 n
 ·rintro ⟨a, ha, he⟩
  induction he with
  |refl => exact h1 a ha
  |step e1 e2 e3 ih => exact h3 _ ih _ e2 _ e3
structure jd (M : List St) (S L : List Nat) (i : Nat) : Prop where
 has : ∀ a ∈ S, a ∈ L
 snd : ∀ n ∈ L, ∃ a ∈ S, iI M a n
 cls : ∀ j (h : j < L.length), j < i -> ∀ nx, M[L[j]]? = some (0, nx) -> ∀ n ∈ nx, n ∈ L
theorem jd.end {M : List St} {S L : List Nat} (h : jd M S L L.length) : l6 M S L := BA h.has h.snd fun t ht nx e n hn => by
 obtain ⟨j, hj, rfl⟩ := List.getElem_of_mem ht;exact h.cls j hj hj nx e n hn
theorem wL {L L2 : List Nat} (h : L <+: L2) {j : Nat} (hj : j < L.length) : ∃ h2 : j < L2.length, L2[j] = L[j] := by
 obtain ⟨t, rfl⟩ := h;exact ⟨by rw [List.length_append]; omega, List.getElem_append_left hj⟩
theorem jd.eps {M : List St} {S L nx : List Nat} {i : Nat} (h : jd M S L i) (hi : i < L.length) (he : M[L[i]]? = some (0, nx)) : jd M S (dX L nx) (i + 1) := ⟨fun a ha => lY.2 (.inl (h.has a ha)), fun n hn => by
 rcases lY.1 hn with hn | hn
 ·exact h.snd n hn
 ·obtain ⟨a, ha, h1⟩ := h.snd L[i] (List.getElem_mem hi);exact ⟨a, ha, .step h1 he hn⟩, fun j hj hj2 nx' e n hn => by
 by_cases hji : j = i
 ·subst hji;obtain ⟨h2, h3⟩ := wL (rA L nx) hi;rw [h3, he] at e;simp only [Option.some.injEq, Prod.mk.injEq, true_and] at e;exact lY.2 (.inr (by rw [e]; exact hn))
 ·have hjl : j < L.length := by omega
  obtain ⟨h2, h3⟩ := wL (rA L nx) hjl;rw [h3] at e;exact lY.2 (.inl (h.cls j hjl (by omega) nx' e n hn))⟩
theorem jd.skip {M : List St} {S L nx : List Nat} {i b : Nat} (h : jd M S L i) (hi : i < L.length) (he : M[L[i]]? = some (b, nx)) (hb : b ≠ 0) : jd M S L (i + 1) := ⟨h.has, h.snd, fun j hj hj2 nx' e n hn => by
 by_cases hji : j = i
 ·subst hji;rw [he] at e;simp only [Option.some.injEq, Prod.mk.injEq] at e;exact absurd e.1 hb
 ·exact h.cls j hj (by omega) nx' e n hn⟩
end Rgx
def qp (gr N : Nat) (step : Int) (M : List St) (S : List Nat) (w : World) (e : Ending) (w' : World) : Prop := ∃ L A c Rk, e = .returned (.slice A L.length c) /\ dB (fun b => w.heap.size <= b) w' L A L.length c /\ l6 M S L /\ L.Nodup /\ (∀ n ∈ L, n < N) /\ aa w' gr (iv Rk) 3 /\ Rk.length = N /\ (∀ n, n < N -> Rk.getD n 0 <= step) /\ w.grownBy w' (some gr)
theorem Tryz.sizeSt : (Tryz.prog.info? 109).map (·.size) = some 2 := by kernel_rfl
theorem zU (q : Nat -> Prop) (mb gr N : Nat) (v : Value) (M : List St) (S : List Nat) (Rk : List Int) (step : Int) (hst : 0 <= step /\ step <= 1000000000000) (A : Option Addr) (n c : Nat) (w : World) (hN : N = M.length) (hN1 : 0 < N /\ N <= 1000000000) (hM : aY q mb v M w) (hq : ∀ b, q b -> b ≠ gr) (hne : mb ≠ gr /\ v.ownBlock ≠ some gr) (hok : ∀ x ∈ M, ∀ n ∈ x.2, n < M.length) (hbit : ∀ x ∈ M, x.1 < 18446744073709551616) (hS : dB (fun b => b ≠ gr) w S A n c) (hlt : ∀ n ∈ S, n < N) (hR : aa w gr (iv Rk) 3) (hRl : Rk.length = N) (hRk : ∀ n, n < N -> Rk.getD n 0 < step) : Calls Tryz.prog 62 #[.pointer (some ⟨mb, 0, none⟩), .slice A n c, .slice (some ⟨gr, 0, none⟩) N N, .int .i64 step] w (qp gr N step M S w) := by
 obtain ⟨g, dm, hv, hg1, hg2, hdm1, hdm2⟩ := hM.place (List.ne_nil_of_length_pos (by omega));rw [<- hN] at hv hdm1;subst hv;have HM : Hid (aY q mb (.slice (some ⟨g, 0, none⟩) N dm) M w /\ N = M.length /\ (∀ b, q b -> b ≠ gr) /\ mb ≠ gr /\ g ≠ gr /\ mb < g /\ g < w.heap.size) := Lh ⟨hM, hN, hq, hne.1, fun e => hne.2 (by rw [<- e]; rfl), hg1, hg2⟩;have HOK : Hid ((∀ x ∈ M, ∀ n ∈ x.2, n < M.length) /\ ∀ x ∈ M, x.1 < 18446744073709551616) := Lh ⟨hok, hbit⟩;have HGR : Hid (gr < w.heap.size) := Lh hR.lt;have HB : Hid (Below w.heap.size w (((w.alloc (.cells #[.slice (some ⟨gr, 0, none⟩) N N] 22)).alloc (.cells #[.int .i64 step] 3)).alloc (.cells #[.slice none 0 0] 22)) /\ aa (((w.alloc (.cells #[.slice (some ⟨gr, 0, none⟩) N N] 22)).alloc (.cells #[.int .i64 step] 3)).alloc (.cells #[.slice none 0 0] 22)) w.heap.size [.slice (some ⟨gr, 0, none⟩) N N] 22 /\ aa (((w.alloc (.cells #[.slice (some ⟨gr, 0, none⟩) N N] 22)).alloc (.cells #[.int .i64 step] 3)).alloc (.cells #[.slice none 0 0] 22)) (w.heap.size + 1) [.int .i64 step] 3 /\ aa (((w.alloc (.cells #[.slice (some ⟨gr, 0, none⟩) N N] 22)).alloc (.cells #[.int .i64 step] 3)).alloc (.cells #[.slice none 0 0] 22)) (w.heap.size + 1 + 1) [.slice none 0 0] 22 /\ (((w.alloc (.cells #[.slice (some ⟨gr, 0, none⟩) N N] 22)).alloc (.cells #[.int .i64 step] 3)).alloc (.cells #[.slice none 0 0] 22)).heap.size = (w.heap.size + 1 + 1) + 1) := Lh ⟨aB (aB (ag _ _) _) _, ((aa.at w [.slice (some ⟨gr, 0, none⟩) N N] _ 22 _ rfl rfl).alloc _).alloc _, (aa.at (w.alloc (.cells #[.slice (some ⟨gr, 0, none⟩) N N] 22)) [.int .i64 step] _ 3 _ rfl (by simp)).alloc _, aa.at ((w.alloc (.cells #[.slice (some ⟨gr, 0, none⟩) N N] 22)).alloc (.cells #[.int .i64 step] 3)) [.slice none 0 0] _ 22 _ rfl (by simp), by simp⟩;have HSP : Hid (gY gr (w.heap.size + 1 + 1) N step [] Rk (((w.alloc (.cells #[.slice (some ⟨gr, 0, none⟩) N N] 22)).alloc (.cells #[.int .i64 step] 3)).alloc (.cells #[.slice none 0 0] 22))) := Lh ⟨⟨hRl, List.nodup_nil, fun n hn => (by cases hn), fun n hn => ⟨fun e => (by have := hRk n hn; omega), fun h => (by cases h)⟩, fun n hn => (by have := hRk n hn; omega)⟩, ⟨_, HB.out.2.2.2.1, rfl, .inl ⟨rfl, rfl⟩⟩, hR.below HB.out.1 hR.lt⟩
 have HS : Hid (dB (fun b => b ≠ gr) w S A n c /\ ∀ n ∈ S, n < N) := Lh ⟨hS, hlt⟩;have HC : Hid (∀ W, Kg gr (w.heap.size + 1 + 1) (((w.alloc (.cells #[.slice (some ⟨gr, 0, none⟩) N N] 22)).alloc (.cells #[.int .i64 step] 3)).alloc (.cells #[.slice none 0 0] 22)) W -> W.cell? ⟨w.heap.size, 0, none⟩ = some (.slice (some ⟨gr, 0, none⟩) N N) /\ W.cell? ⟨w.heap.size + 1, 0, none⟩ = some (.int .i64 step) /\ W.cell? ⟨mb, 0, none⟩ = some (.slice (some ⟨g, 0, none⟩) N dm) /\ ∀ b o, b < w.heap.size -> b ≠ gr -> W.cell? ⟨b, o, none⟩ = w.cell? ⟨b, o, none⟩) := Lh fun W hk => by
  have hgr := HGR.out;have hm := HM.out;have hall : ∀ b o, b < w.heap.size -> b ≠ gr -> W.cell? ⟨b, o, none⟩ = w.cell? ⟨b, o, none⟩ := fun b o hb hn => World.cell?_of_block ((hk.block b (by omega) hn).trans (HB.out.1.block b hb))
  exact ⟨(World.cell?_of_block (hk.block w.heap.size (by omega) (by omega))).trans (HB.out.2.1.cell (j := 0) rfl), (World.cell?_of_block (hk.block (w.heap.size + 1) (by omega) (by omega))).trans (HB.out.2.2.1.cell (j := 0) rfl), (hall mb 0 (by omega) hm.2.2.2.1).trans (hm.1.box.cell (j := 0) rfl), hall⟩
 have HCL : Hid (∀ L0 (S0 : List Nat) Rk0 A0 n0 c0 W, gY gr (w.heap.size + 1 + 1) N step L0 Rk0 W -> Kg gr (w.heap.size + 1 + 1) (((w.alloc (.cells #[.slice (some ⟨gr, 0, none⟩) N N] 22)).alloc (.cells #[.int .i64 step] 3)).alloc (.cells #[.slice none 0 0] 22)) W -> dB (fun b => b < w.heap.size /\ b ≠ gr) W S0 A0 n0 c0 -> (∀ n ∈ S0, n < N) -> Calls Tryz.prog 93 #[.slice A0 n0 c0, .pointer (some ⟨w.heap.size, 0, none⟩), .pointer (some ⟨w.heap.size + 1, 0, none⟩), .pointer (some ⟨(w.heap.size + 1 + 1), 0, none⟩)] W (qf gr (w.heap.size + 1 + 1) N step L0 S0 W)) := Lh fun L0 S0 Rk0 A0 n0 c0 W h1 h2 h3 h4 => DF gr (w.heap.size + 1 + 1) w.heap.size (w.heap.size + 1) N step (by omega) L0 S0 Rk0 A0 n0 c0 W h1 ⟨by omega, by have := HGR.out; omega⟩ ⟨by omega, by have := HGR.out; omega⟩ (by have := HGR.out; omega) (h3.mono fun b hb => ⟨by omega, hb.2⟩) h4 (HC.out W h2).1 (HC.out W h2).2.1
 have HS3 : Hid (dB (fun b => b < w.heap.size /\ b ≠ gr) (((w.alloc (.cells #[.slice (some ⟨gr, 0, none⟩) N N] 22)).alloc (.cells #[.int .i64 step] 3)).alloc (.cells #[.slice none 0 0] 22)) S A n c) := Lh ((hS.lt.keep (W := (((w.alloc (.cells #[.slice (some ⟨gr, 0, none⟩) N N] 22)).alloc (.cells #[.int .i64 step] 3)).alloc (.cells #[.slice none 0 0] 22))) fun b o hp => HB.out.1.cell (p := ⟨b, o, none⟩) hp.2).mono fun b hp => ⟨hp.2, hp.1⟩);have hce := CP;clear hM hne hq hok hbit hS hlt hR hRl hRk hg1 hg2 hN;go_enter Tryz.func62, Tryz.ntmps62
 go_upto_region 4 with ((with_reducible refine (HCL.out [] S Rk A n c _ HSP.out (Kg.refl _ _ _) HS3.out HS.out.2).mono ?_); rintro e w4 hp; obtain ⟨rfl, Rk4, h1, h2⟩ := uO hp; have H4 := Lh (And.intro h1 h2); clear hp h1 h2)
 go_wp2_with fail
 go_loopg [11] N (fun gq s11 wr => ∃ i : Nat, i + gq = N /\ s11 = .int .i64 (i : Int) /\ Hid (∃ L Rq, i <= L.length /\ gY gr (w.heap.size + 1 + 1) N step L Rq wr /\ Kg gr (w.heap.size + 1 + 1) (((w.alloc (.cells #[.slice (some ⟨gr, 0, none⟩) N N] 22)).alloc (.cells #[.int .i64 step] 3)).alloc (.cells #[.slice none 0 0] 22)) wr /\ jd M S L i))
 case atStart => exact ⟨0, by omega, rfl, Lh ⟨dX [] S, Rk4, Nat.zero_le _, H4.out.1, H4.out.2, ⟨fun a ha => lY.2 (.inr ha), fun n hn => by rcases lY.1 hn with h | h; (cases h); exact ⟨n, h, .refl n⟩, fun j hj hj2 => by omega⟩⟩⟩
 case round =>
  obtain ⟨i, hi, rfl, HI⟩ := hrel;obtain ⟨L, Rq, hil, hSW, hKG, hPL⟩ := HI.out;clear HI;have HI : Hid (gY gr (w.heap.size + 1 + 1) N step L Rq wr /\ Kg gr (w.heap.size + 1 + 1) (((w.alloc (.cells #[.slice (some ⟨gr, 0, none⟩) N N] 22)).alloc (.cells #[.int .i64 step] 3)).alloc (.cells #[.slice none 0 0] 22)) wr /\ jd M S L i) := Lh ⟨hSW, hKG, hPL⟩;obtain ⟨v1, hv1, hv2⟩ := hSW.row;obtain ⟨B5, d5, hv, hrd5, hnd5, hdm5⟩ := Rd.of_own hv2;obtain ⟨N5, hN5⟩ : ∃ N, N = L.length := ⟨_, rfl⟩;have hN5N : N5 <= N := by rw [hN5]; exact hSW.mks.few
  rw [<- hN5] at hv hv2 hil hnd5;subst hv;have HROW : Hid (aa wr (w.heap.size + 1 + 1) [.slice B5 N5 d5] 22 /\ wr.ownsRow ((w.heap.size + 1 + 1) + 1) 3 1 (.slice B5 N5 d5) N5 (iv (nl L)) /\ Rd wr B5 (iv (nl L)) /\ N5 = L.length) := Lh ⟨hv1, hv2, hrd5, hN5⟩;have hcl := hv1.cell (j := 0) rfl;have hcm := (HC.out wr hKG).2.2.1;clear hSW hKG hPL hv1 hv2 hrd5 hN5
  by_cases hlt : i < N5
  ·obtain ⟨gg, rfl⟩ : ∃ g, gk = g + 1 := ⟨gk - 1, by omega⟩;have hiL : i < L.length := by rw [<- HROW.out.2.2.2]; exact hlt
   obtain ⟨b5, o5, rfl, hcs⟩ := HROW.out.2.2.1.open (j3 (List.ne_nil_of_length_pos (by omega)));obtain ⟨x, hx⟩ : ∃ x, x = L[i] := ⟨_, rfl⟩;have hcx : wr.cell? ⟨b5, o5 + i, none⟩ = some (.int .i64 (x : Int)) := by rw [hx]; exact hcs i _ (sI hiL)
   have hxN : x < N := by rw [hx]; exact HI.out.1.mks.lt _ (List.getElem_mem hiL)
   have hxM : x < M.length := by rw [<- HM.out.2.1]; exact hxN
   obtain ⟨A2, n2, c2, he1, he2, he3⟩ := HM.out.1.at hxM;obtain ⟨bb, hbb⟩ : ∃ b, b = M[x].1 := ⟨_, rfl⟩;obtain ⟨nx, hnx⟩ : ∃ l, l = M[x].2 := ⟨_, rfl⟩;rw [<- hbb] at he1;rw [<- hnx] at he3;have HXM : Hid (M[x]? = some (bb, nx) /\ (∀ k ∈ nx, k < N) /\ M[L[i]]? = some (bb, nx) /\ bb < 18446744073709551616) := Lh (by
    have h1 : M[x]? = some (bb, nx) := by rw [List.getElem?_eq_getElem hxM, hbb, hnx]
    exact ⟨h1, fun k hk => by rw [HM.out.2.1]; exact HOK.out.1 M[x] (List.getElem_mem hxM) k (by rw [<- hnx]; exact hk), by rw [<- hx]; exact h1, by rw [hbb]; exact HOK.out.2 _ (List.getElem_mem hxM)⟩)
   have hw := HC.out wr HI.out.2.1;have HSB : Hid (∀ W, Below wr.heap.size wr W -> (fun w' => w'.cell? ⟨mb, 0, none⟩ = some (.slice (some ⟨g, 0, none⟩) N dm) /\ w'.cell? ⟨(w.heap.size + 1 + 1), 0, none⟩ = some (.slice (some ⟨b5, o5, none⟩) N5 d5) /\ w'.cell? ⟨b5, o5 + i, none⟩ = some (.int .i64 (x : Int)) /\ w'.rangeAt g (x * 2) [.int .u64 (bb : Int), .slice A2 n2 c2]) W) := Lh fun W hb => by
    have hgs := HM.out.2.2.2.2;refine ⟨(hb.cell (p := ⟨mb, 0, none⟩) (World.block_lt_of_cell? wr _ hcm)).trans hcm, (hb.cell (p := ⟨(w.heap.size + 1 + 1), 0, none⟩) (World.block_lt_of_cell? wr _ hcl)).trans hcl, (hb.cell (p := ⟨b5, o5 + i, none⟩) (World.block_lt_of_cell? wr _ hcx)).trans hcx, fun j u hu => ?_⟩;have hgc : ∀ o, wr.cell? ⟨g, o, none⟩ = w.cell? ⟨g, o, none⟩ := fun o => hw.2.2.2 g o hgs.2.2 hgs.1
    match j, hu with
    |0, hu => have e := (hgc (x * 2)).trans he1; exact ((hb.cell (p := ⟨g, x * 2, none⟩) (World.block_lt_of_cell? wr _ e)).trans e).trans (by simpa using hu)
    |1, hu => have e := (hgc (x * 2 + 1)).trans he2; exact ((hb.cell (p := ⟨g, x * 2 + 1, none⟩) (World.block_lt_of_cell? wr _ e)).trans e).trans (by simpa using hu)
   have HNX : Hid (∀ W, Below wr.heap.size wr W -> dB (fun b => b < w.heap.size /\ b ≠ gr) W nx A2 n2 c2) := Lh fun W hb => by
    have h1 := (he3.toL.lt.keep (W := wr) fun b o hp => hw.2.2.2 b o hp.2 (HM.out.2.2.1 b hp.1.1));exact (h1.lt.keep (W := W) fun b o hp => hb.cell (p := ⟨b, o, none⟩) hp.2).mono fun b hp => ⟨hp.1.2, HM.out.2.2.1 b hp.1.1.1⟩
   clear hx hcx hcs he1 he2 he3 hbb hnx hw hcl hcm;have hcl := (HSB.out wr (Below.refl _ _)).2.1;go_wp2_with fail;refine wp_region_held_drew (S := fun w' => w'.cell? ⟨mb, 0, none⟩ = some (.slice (some ⟨g, 0, none⟩) N dm) /\ w'.cell? ⟨(w.heap.size + 1 + 1), 0, none⟩ = some (.slice (some ⟨b5, o5, none⟩) N5 d5) /\ w'.cell? ⟨b5, o5 + i, none⟩ = some (.int .i64 (x : Int)) /\ w'.rangeAt g (x * 2) [.int .u64 (bb : Int), .slice A2 n2 c2]) (by kernel_rfl) (HSB.out _ (below_drewN (Below.refl _ _) 1)) (fun hS0 => ?_);refine bE 0 ?_;refine bE 1 ?_;refine bE 2 ?_;refine bE 3 ?_;refine bE 4 ?_;refine bE 5 ?_;refine bE 6 ?_;refine bE 7 ?_;refine bE 8 ?_;refine wX 9 rfl (yieldsIf_load_mid (by rfl) _ _ rfl _ _ rfl _ _ (fun w h => h.2.2.2) Tryz.underlying109 rfl Tryz.sizeSt) ?_;refine wpAnyH_ready (rs := [10]) (by kernel_rfl) (by simp) ?_;refine wA rfl (fun K0 hK => ?_) AllReadyH.nil
   go_simp;have HX8 : Hid (Below wr.heap.size wr (wr.alloc (.cells #[.int .u64 0, .slice none 0 0] 109)).drew /\ aa (wr.alloc (.cells #[.int .u64 0, .slice none 0 0] 109)).drew wr.heap.size [.int .u64 0, .slice none 0 0] 109) := Lh ⟨(ag _ _).drew, aa.at wr _ _ 109 _ rfl rfl⟩;refine hK.out _ _ (HSB.out _ HX8.out.1) (fun hS1 => ?_);clear hK K0 hS0;(try simp only [Act.put, pP]);refine wpAnyH_ready (rs := [11]) (by kernel_rfl) (by simp) ?_;refine AllReadyH.cons (o := ⟨none, .store 109 (.tmp 12) (.tmp 32), 0, _, _, none⟩) rfl (fun K0 hK => ?_) AllReadyH.nil
   refine oH rfl 109 (.tmp 12) (.tmp 32) rfl wr.heap.size rfl [.int .u64 (bb : Int), .slice A2 n2 c2] rfl HX8.out.2 Tryz.sizeSt rfl (by simp [Value.oneCell']) ?_;intro x5 hst5;have HX5 : Hid (Below wr.heap.size wr x5 /\ aa x5 wr.heap.size [.int .u64 (bb : Int), .slice A2 n2 c2] 109) := Lh ⟨hst5.below HX8.out.1 (Nat.le_refl _), hst5.1⟩;clear hst5;refine hK.out _ _ (HSB.out _ HX5.out.1) (fun hS2 => ?_);clear hK K0 hS1;(try simp only [Act.put, pP]);refine wpAnyH_done (by kernel_rfl) ?_ _;have hcb0 := HX5.out.2.cell (j := 0) rfl;have hcb1 := HX5.out.2.cell (j := 1) rfl;have HK5 : Hid (Kg gr (w.heap.size + 1 + 1) (((w.alloc (.cells #[.slice (some ⟨gr, 0, none⟩) N N] 22)).alloc (.cells #[.int .i64 step] 3)).alloc (.cells #[.slice none 0 0] 22)) x5 /\ gY gr (w.heap.size + 1 + 1) N step L Rq x5) := Lh ⟨HI.out.2.1.tr (Kg.of_below HX5.out.1 (by have h1 := HROW.out.1.lt; omega)), HI.out.1.below HX5.out.1⟩
   by_cases hb0 : bb = 0
   ·have e1 : ((bb : Int) == 0) = true := by rw [hb0]; rfl
    have HPR : Hid (jd M S (dX L nx) (i + 1)) := Lh (HI.out.2.2.eps hiL (by rw [HXM.out.2.2.1, hb0]));clear hb0
    go_wp2_with ((with_reducible refine (HCL.out L nx Rq A2 n2 c2 _ HK5.out.2 HK5.out.1 (HNX.out _ HX5.out.1) HXM.out.2.1).mono ?_); rintro e w6 hp; obtain ⟨rfl, Rk6, h1, h2⟩ := uO hp; have H6 := Lh (And.intro h1 h2); clear hp h1 h2)
    go_roundg gg
    case rel => exact ⟨i + 1, by omega, by go_num, Lh ⟨dX L nx, Rk6, by have := (rA L nx).length_le; omega, H6.out.1, HK5.out.1.tr H6.out.2, HPR.out⟩⟩
    case measure => omega
   ·have e1 : ((bb : Int) == 0) = false := bF (by omega);have HPR : Hid (jd M S L (i + 1)) := Lh (HI.out.2.2.skip hiL HXM.out.2.2.1 hb0);clear hb0;go_wp2_with fail
    go_roundg gg
    case rel => exact ⟨i + 1, by omega, by go_num, Lh ⟨L, Rq, by omega, HK5.out.2, HK5.out.1, HPR.out⟩⟩
    case measure => omega
  ·obtain rfl : N5 = i := by omega
   have HF : Hid (qp gr N step M S w (.returned (.slice B5 N5 d5)) wr) := Lh (by
    have h1 := HI.out;refine ⟨L, B5, d5, Rq, by rw [HROW.out.2.2.2], ⟨rfl, by rw [<- HROW.out.2.2.2]; exact hnd5, by unfold maxLen at hdm5; exact hdm5, HROW.out.2.2.1, fun _ b o e => by subst e; have := (HROW.out.2.1.lt b rfl).1; omega⟩, ?_, h1.1.mks.nd, h1.1.mks.lt, h1.1.mark, h1.1.mks.len, h1.1.mks.le, ⟨h1.2.1.os.trans HB.out.1.os, h1.2.1.tape.trans HB.out.1.tape, h1.2.1.output.trans HB.out.1.output, Nat.le_trans HB.out.1.size h1.2.1.size, fun k hk hne => (h1.2.1.block k (by omega) (fun e => hne (by rw [e]))).trans (HB.out.1.block k hk)⟩⟩;have h2 := h1.2.2;rw [HROW.out.2.2.2] at h2;exact h2.end)
   go_wp2_with fail;go_ret;exact HF.out
namespace Rgx
theorem D9 {M : List St} {c : Int} : iK M c [] [] := fun n => ⟨fun h => (by cases h), fun ⟨s, hs, _⟩ => (by cases hs)⟩
theorem GH {M : List St} {c : Int} {L : List Nat} (h : ¬ (0 <= c /\ c < 64)) : iK M c L [] := fun n => ⟨fun h => (by cases h), fun ⟨s, hs, b, nx, h1, h2, _⟩ => absurd h2 h⟩
theorem Cc {M : List St} {c : Int} {L R nx : List Nat} {i x b : Nat} (h : iK M c (L.take i) R) (ht : L.take (i + 1) = L.take i ++ [x]) (hx : M[x]? = some (b, nx)) (hc : 0 <= c /\ c < 64) (hb : b.testBit c.toNat = true) : iK M c (L.take (i + 1)) (R ++ nx) := fun n => by
 rw [ht, List.mem_append, h n];constructor
 ·rintro (⟨s, hs, r⟩ | hn)
  ·exact ⟨s, by simp [hs], r⟩
  ·exact ⟨x, by simp, b, nx, hx, hc, hb, hn⟩
 ·rintro ⟨s, hs, b', nx', h1, h2, h3, h4⟩
  rcases List.mem_append.1 hs with hs | hs
  ·exact .inl ⟨s, hs, b', nx', h1, h2, h3, h4⟩
  ·obtain rfl : s = x := by simpa using hs
   rw [hx] at h1;simp only [Option.some.injEq, Prod.mk.injEq] at h1;exact .inr (by rw [h1.2]; exact h4)
theorem Dh {M : List St} {c : Int} {L R nx : List Nat} {i x b : Nat} (h : iK M c (L.take i) R) (ht : L.take (i + 1) = L.take i ++ [x]) (hx : M[x]? = some (b, nx)) (hb : b.testBit c.toNat = false) : iK M c (L.take (i + 1)) R := fun n => by
 rw [ht, h n];constructor
 ·rintro ⟨s, hs, r⟩;exact ⟨s, by simp [hs], r⟩
 ·rintro ⟨s, hs, b', nx', h1, h2, h3, h4⟩
  rcases List.mem_append.1 hs with hs | hs
  ·exact ⟨s, hs, b', nx', h1, h2, h3, h4⟩
  ·obtain rfl : s = x := by simpa using hs
   rw [hx] at h1;simp only [Option.some.injEq, Prod.mk.injEq] at h1;rw [<- h1.1, hb] at h3
   cases h3
theorem Cg (b k : Nat) : b &&& 2 ^ k ≠ 0 ↔ b.testBit k = true := by
 constructor
 ·intro h
  cases ht : b.testBit k with
  |true => rfl
  |false =>
   exact absurd (Nat.eq_of_testBit_eq fun i => by
    rw [Nat.testBit_and, Nat.testBit_two_pow, Nat.zero_testBit]
    by_cases e : k = i
    ·subst e; rw [ht]; rfl
    ·simp [e]) h
 ·intro h e;have h1 : (b &&& 2 ^ k).testBit k = true := by rw [Nat.testBit_and, Nat.testBit_two_pow, h]; simp
  rw [e, Nat.zero_testBit] at h1
  cases h1
theorem FM (a b : List Nat) : iv (nl (a ++ b)) = iv (nl a) ++ iv (nl b) := by simp [iv, nl]
end Rgx
def lq (M : List St) (c : Int) (L : List Nat) (qq : Nat) (w : World) (e : Ending) (w' : World) : Prop := ∃ R A n cc, e = .returned (.slice A n cc) /\ dB (fun b => w.heap.size <= b) w' R A n cc /\ iK M c L R /\ (∀ n ∈ R, n < M.length) /\ R.length <= L.length * qq /\ Below w.heap.size w w'
theorem Ep {M : List St} {c : Int} {L : List Nat} {qq : Nat} {w w' : World} {e : Ending} (h : lq M c L qq w e w') : ∃ R A n cc, e = .returned (.slice A n cc) /\ dB (fun b => w.heap.size <= b) w' R A n cc /\ iK M c L R /\ (∀ n ∈ R, n < M.length) /\ R.length <= L.length * qq /\ Below w.heap.size w w' := h
theorem yf {M : List St} {c : Int} {L : List Nat} {qq : Nat} {w w' : World} (h : ¬ (0 <= c /\ c < 64)) (hb : Below w.heap.size w w') : lq M c L qq w (.returned (.slice none 0 0)) w' := ⟨[], none, 0, 0, rfl, (bY.nil _ _).toL, GH h, fun n hn => (by cases hn), Nat.zero_le _, hb⟩
theorem EI (q : Nat -> Prop) (mb : Nat) (v : Value) (M : List St) (L : List Nat) (A : Option Addr) (n c qq : Nat) (sy : Int) (w : World) (hM : aY q mb v M w) (hN1 : 0 < M.length /\ M.length <= 1000000000) (hok : ∀ x ∈ M, ∀ n ∈ x.2, n < M.length) (hfew : ∀ x ∈ M, x.2.length <= qq) (hbit : ∀ x ∈ M, x.1 < 18446744073709551616) (hL : dB (fun b => b < w.heap.size) w L A n c) (hlt : ∀ n ∈ L, n < M.length) (hsz : L.length * qq <= 1000000000) : Calls Tryz.prog 61 #[.pointer (some ⟨mb, 0, none⟩), .slice A n c, .int .i64 sy] w (lq M sy L qq w) := by
 by_cases hs0 : sy < 0
 ·have e1 : decide (sy < 0) = true := dT hs0;have HF : Hid (∀ W, Below w.heap.size w W -> lq M sy L qq w (.returned (.slice none 0 0)) W) := Lh fun W hb => yf (by omega) hb
  clear hM hL hlt hok hfew hbit;go_enter Tryz.func61, Tryz.ntmps61;go_wp2_with fail;go_ret;exact HF.out _ (Below.refl _ _)
 by_cases hs64 : 64 <= sy
 ·have e1 : decide (sy < 0) = false := dF hs0;have HF : Hid (∀ W, Below w.heap.size w W -> lq M sy L qq w (.returned (.slice none 0 0)) W) := Lh fun W hb => yf (by omega) hb
  clear hM hL hlt hok hfew hbit;go_enter Tryz.func61, Tryz.ntmps61;go_wp2_with fail;go_ret;exact HF.out _ (Below.refl _ _)
 have es1 : decide (sy < 0) = false := dF hs0;have es2 : decide (64 <= sy) = false := dF hs64;have hsy0 : 0 <= sy := by omega
 have hsy63 : sy <= 63 := by omega
 have hsy64 : sy < 64 := by omega
 obtain ⟨g, dm, hv, hg1, hg2, hdm1, hdm2⟩ := hM.place (List.ne_nil_of_length_pos (by omega));obtain ⟨N, hN⟩ : ∃ N, N = M.length := ⟨_, rfl⟩;rw [<- hN] at hv hdm1 hN1;subst hv;have HM : Hid (aY q mb (.slice (some ⟨g, 0, none⟩) N dm) M w /\ N = M.length) := Lh ⟨hM, hN⟩;have HOK : Hid ((∀ x ∈ M, ∀ n ∈ x.2, n < M.length) /\ (∀ x ∈ M, x.1 < 18446744073709551616) /\ (∀ x ∈ M, x.2.length <= qq) /\ L.length * qq <= 1000000000) := Lh ⟨hok, hbit, hfew, hsz⟩;have HL : Hid (dB (fun b => b < w.heap.size) w L A n c /\ ∀ n ∈ L, n < M.length) := Lh ⟨hL, hlt⟩;have hn0 := hL.cap;have hc0 := hL.max;obtain ⟨P, hP⟩ : ∃ P, P = 2 ^ sy.toNat := ⟨_, rfl⟩;have hPlt : P < 18446744073709551616 := by
  rw [hP, show 18446744073709551616 = 2 ^ 64 from rfl];exact Nat.pow_lt_pow_right (by omega) (by omega)
 have eP : IntKind.u64.wrap (2 ^ sy.toNat) = (P : Int) := by
  rw [IntKind.wrap_u64, hP];have h2 : ((2 : Int) ^ sy.toNat) = ((2 ^ sy.toNat : Nat) : Int) := by norm_cast
  rw [h2, <- hP]; omega
 have HP : Hid (P = 2 ^ sy.toNat /\ 0 <= sy /\ sy < 64) := Lh ⟨hP, hsy0, hsy64⟩;obtain ⟨j0, hj0, hy0, hy1, hy2⟩ := info_parts lG;clear hM hN hL hlt hok hfew hbit hsz hP hs0 hs64 hg1 hg2;go_enter Tryz.func61, Tryz.ntmps61;go_wp2_with fail
 go_loopg [7, 19] n (fun gq s7 s19 wr => ∃ (i : Nat) (R : List Nat), i + gq = n /\ s19 = .int .i64 (i : Int) /\ Hid (wr.ownsRow w.heap.size 3 1 s7 R.length (iv (nl (R))) /\ Below w.heap.size w wr /\ iK M sy (L.take i) (R) /\ (R).length <= i * qq /\ ∀ n ∈ (R), n < M.length))
 case atStart => exact ⟨0, [], by omega, rfl, Lh ⟨World.ownsRow_nil _ _ _ _, Below.refl _ _, by rw [List.take_zero]; exact D9, Nat.zero_le _, fun n hn => (by cases hn)⟩⟩
 case round =>
  obtain ⟨i, R, hi, rfl, HI⟩ := hrel;obtain ⟨B5, d5, hv, _⟩ := Rd.of_own HI.out.1;obtain ⟨N5, hN5⟩ : ∃ N, N = R.length := ⟨_, rfl⟩;rw [<- hN5] at hv;subst hv;have HJ : Hid ((wr.ownsRow w.heap.size 3 1 (.slice B5 N5 d5) N5 (iv (nl R)) /\ Below w.heap.size w wr /\ iK M sy (L.take i) R /\ R.length <= i * qq /\ ∀ n ∈ R, n < M.length) /\ N5 = R.length) := Lh ⟨by have h := HI.out; rw [<- hN5] at h; rwa [<- hN5], hN5⟩
  by_cases hlt : i < n
  ·obtain ⟨gg, rfl⟩ : ∃ g, gk = g + 1 := ⟨gk - 1, by omega⟩;have hil : i < L.length := by rw [<- HL.out.1.len]; exact hlt
   obtain ⟨b, o, rfl, hcs⟩ := (HL.out.1.keep (W := wr) fun b o hb => HJ.out.1.2.1.cell (p := ⟨b, o, none⟩) hb).rd.open (j3 (List.ne_nil_of_length_pos (by omega)));obtain ⟨x, hx⟩ : ∃ x, x = L[i] := ⟨_, rfl⟩;have hcx : wr.cell? ⟨b, o + i, none⟩ = some (.int .i64 (x : Int)) := by rw [hx]; exact hcs i _ (sI hil)
   have hxM : x < M.length := by rw [hx]; exact HL.out.2 _ (List.getElem_mem hil)
   have hxN : x < N := by rw [HM.out.2]; exact hxM
   have HTK : Hid (L.take (i + 1) = L.take i ++ [x]) := Lh (by rw [List.take_succ_eq_append_getElem hil, hx]);obtain ⟨A2, n2, c2, he1, he2, he3⟩ := HM.out.1.at hxM;obtain ⟨bb, hbb⟩ : ∃ b, b = M[x].1 := ⟨_, rfl⟩;obtain ⟨nx, hnx⟩ : ∃ l, l = M[x].2 := ⟨_, rfl⟩;rw [<- hbb] at he1;rw [<- hnx] at he3;have hbl : bb < 18446744073709551616 := by rw [hbb]; exact HOK.out.2.1 _ (List.getElem_mem hxM)
   have HXM : Hid (M[x]? = some (bb, nx) /\ (∀ k ∈ nx, k < M.length) /\ nx.length <= qq /\ n2 = nx.length) := Lh (by
    have h1 : M[x]? = some (bb, nx) := by rw [List.getElem?_eq_getElem hxM, hbb, hnx]
    exact ⟨h1, fun k hk => HOK.out.1 M[x] (List.getElem_mem hxM) k (by rw [<- hnx]; exact hk), by rw [hnx]; exact HOK.out.2.2.1 _ (List.getElem_mem hxM), he3.len⟩)
   have hcm : wr.cell? ⟨mb, 0, none⟩ = some (.slice (some ⟨g, 0, none⟩) N dm) := (HJ.out.1.2.1.cell (p := ⟨mb, 0, none⟩) HM.out.1.box.lt).trans (HM.out.1.box.cell (j := 0) rfl);have hrg : wr.rangeAt g (x * 2) [.int .u64 (bb : Int), .slice A2 n2 c2] := fun j u hu => by
    match j, hu with
    |0, hu => exact ((HJ.out.1.2.1.cell (p := ⟨g, x * 2, none⟩) (World.block_lt_of_cell? w _ he1)).trans he1).trans (by simpa using hu)
    |1, hu => exact ((HJ.out.1.2.1.cell (p := ⟨g, x * 2 + 1, none⟩) (World.block_lt_of_cell? w _ he2)).trans he2).trans (by simpa using hu)
   have HNX : Hid (∀ W, Below wr.heap.size wr W -> dB (fun b => b < w.heap.size) W nx A2 n2 c2) := Lh fun W hb => (he3.toL.lt.mono (fun b hp => hp.2)).keep (W := W) fun b o hp => (hb.cell (p := ⟨b, o, none⟩) (Nat.lt_of_lt_of_le hp HJ.out.1.2.1.size)).trans (HJ.out.1.2.1.cell (p := ⟨b, o, none⟩) hp)
   obtain ⟨S2, hS2⟩ : ∃ S2, S2 = bb &&& P := ⟨_, rfl⟩;have eA : bits .and .u64 (bb : Int) (P : Int) = (S2 : Int) := by rw [bits_and_u64_nat bb P hbl hPlt, hS2]
   have HS2 : Hid (S2 ≠ 0 ↔ bb.testBit sy.toNat = true) := Lh (by rw [hS2, HP.out.1]; exact Cg _ _);have hs1 : N5 + n2 <= maxLen := by
    have h1 := HXM.out;have h2 := HJ.out;have h3 := HOK.out.2.2.2;have h4 : (i + 1) * qq <= L.length * qq := Nat.mul_le_mul_right _ hil;rw [Nat.add_mul] at h4;unfold maxLen; omega
   have hs2 : (N5 + n2) * 8 <= 140737488355328 := by
    have h1 := HXM.out;have h2 := HJ.out;have h3 := HOK.out.2.2.2;have h4 : (i + 1) * qq <= L.length * qq := Nat.mul_le_mul_right _ hil;rw [Nat.add_mul] at h4;omega
   have HLW : Hid (w.heap.size <= wr.heap.size) := Lh HJ.out.1.2.1.size;have HST : Hid (∀ W, aK (wr.alloc (.cells #[.int .u64 0, .slice none 0 0] 109)) W wr.heap.size [.int .u64 (bb : Int), .slice A2 n2 c2] 109 -> Below wr.heap.size wr W /\ aa W wr.heap.size [.int .u64 (bb : Int), .slice A2 n2 c2] 109) := Lh fun W hst => ⟨hst.below (ag _ _) (Nat.le_refl _), hst.1⟩
   have HAP : Hid (∀ x5 v' w', Below wr.heap.size wr x5 -> w'.ownsRow w.heap.size 3 1 v' (N5 + n2) (iv (nl R) ++ iv (nl nx)) -> x5.grownBy w' (Value.slice B5 N5 d5).ownBlock -> S2 ≠ 0 -> w'.ownsRow w.heap.size 3 1 v' (R ++ nx).length (iv (nl ((R ++ nx)))) /\ Below w.heap.size w w' /\ iK M sy (L.take (i + 1)) ((R ++ nx)) /\ ((R ++ nx)).length <= (i + 1) * qq /\ ∀ n ∈ ((R ++ nx)), n < M.length) := Lh fun x5 v' w' hb hown hg h2 => by
    have h1 := HJ.out;have h4 := HXM.out;refine ⟨?_, ?_, Cc h1.1.2.2.1 HTK.out h4.1 HP.out.2 (HS2.out.1 h2), ?_, fun k hk => ?_⟩
    ·rw [List.length_append, <- h1.2, <- h4.2.2.2, FM]; exact hown
    ·exact dJ (h1.1.2.1.trans (hb.mono h1.1.2.1.size)) hg (fun g hg => (h1.1.1.lt g hg).1)
    ·rw [List.length_append, Nat.add_mul]; omega
    ·rcases List.mem_append.1 hk with hk | hk
     · exact h1.1.2.2.2.2 k hk
     · exact h4.2.1 k hk
   have HNO : Hid (∀ x5, Below wr.heap.size wr x5 -> S2 = 0 -> x5.ownsRow w.heap.size 3 1 (.slice B5 N5 d5) R.length (iv (nl (R))) /\ Below w.heap.size w x5 /\ iK M sy (L.take (i + 1)) (R) /\ (R).length <= (i + 1) * qq /\ ∀ n ∈ (R), n < M.length) := Lh fun x5 hb h2 => by
    have h1 := HJ.out;refine ⟨by rw [<- h1.2]; exact dW h1.1.1 hb, h1.1.2.1.trans (hb.mono h1.1.2.1.size), Dh h1.1.2.2.1 HTK.out HXM.out.1 ?_, by rw [Nat.add_mul]; omega, h1.1.2.2.2.2⟩
    cases h3 : bb.testBit sy.toNat with
    |false => rfl
    |true => exact absurd h2 (HS2.out.2 h3)
   clear hx hcs hxM he1 he2 he3 hbb hnx hil hS2 hN5
   go_upto_region 3 with (first
    |(refine wpList_load_mid rfl 109 (.tmp 28) rfl g (x * 2) rfl [.int .u64 (bb : Int), .slice A2 n2 c2] _ hrg Tryz.underlying109 rfl Tryz.sizeSt ?_)
    |(refine wB rfl 109 (.tmp 10) (.tmp 29) rfl wr.heap.size 0 rfl [.int .u64 (bb : Int), .slice A2 n2 c2] rfl (aa.at wr [.int .u64 0, .slice none 0 0] _ 109 _ rfl rfl) 2 Tryz.sizeSt ?_; intro x5 hst5; have HX5 := Lh (HST.out x5 hst5); clear hst5))
   (try simp only [Act.put]);have hcb0 := HX5.out.2.cell (j := 0) rfl;have HBS : Hid (Below x5.heap.size x5 x5) := Lh (Below.refl _ _);have l1 : ∀ p : Wo (Below x5.heap.size x5), p.wo.cell? ⟨wr.heap.size, 0, none⟩ = some (.int .u64 (bb : Int)) := fun p => (p.ok.cell (p := ⟨wr.heap.size, 0, none⟩) (World.block_lt_of_cell? x5 _ hcb0)).trans hcb0
   clear hcb0
   by_cases h2 : S2 = 0
   ·have e1 : ((S2 : Int) != 0) = false := by rw [h2]; rfl
    have H2 : Hid (S2 = 0) := Lh h2;clear h2;haveI : Nonempty (Wo (Below x5.heap.size x5)) := ⟨⟨x5, HBS.out⟩⟩;refine iR (Below x5.heap.size x5) jc (by kernel_rfl) (below_drewN HBS.out 1) ?_
    repeat (go_big_quiet_step ((fail)))
    refine wpQuiet_nil ?_;intro x6 hw2;obtain ⟨⟨x6x, hok⟩, hw3⟩ := hw2;have hw4 : x6 = x6x := hw3;subst hw4;have Hx6 := Lh hok;clear hw3 hok;have HX6 := Lh (HNO.out x6 (HX5.out.1.trans (Hx6.out.mono HX5.out.1.size)) H2.out);go_wp2_with fail
    go_roundg gg
    case rel => exact ⟨i + 1, R, by omega, by go_num, HX6⟩
    case measure => omega
   ·have e1 : ((S2 : Int) != 0) = true := by simpa using h2
    have H2 : Hid (S2 ≠ 0) := Lh h2;have HN2 : Hid (n2 = (nl nx).length) := Lh (by rw [tO]; exact HXM.out.2.2.2);clear h2;haveI : Nonempty (Wo (Below x5.heap.size x5)) := ⟨⟨x5, HBS.out⟩⟩;refine iR (Below x5.heap.size x5) jc (by kernel_rfl) (below_drewN HBS.out 1) ?_
    repeat (go_big_quiet_step ((fail)))
    refine wpQuiet_nil ?_;intro x6 hw2;obtain ⟨⟨x6x, hok⟩, hw3⟩ := hw2;have hw4 : x6 = x6x := hw3;subst hw4;have Hx6 := Lh hok;clear hw3 hok;have HX7 := Lh (HX5.out.1.trans (Hx6.out.mono HX5.out.1.size));have HRX := Lh ((HNX.out x6 HX7.out).rd);have hcb1 := (HX5.out.2.below Hx6.out HX5.out.2.lt).cell (j := 1) rfl
    go_wp2_with (at_builtin; refine eu rfl (.tmp 36) (.tmp 38) 22 22 rfl w.heap.size 3 j0 _ 1 8 Tryz.underlying22 hj0 hy0 hy1 hy2 rfl _ _ _ rfl (dW HJ.out.1.1 HX7.out) _ n2 (iv (nl nx)) rfl (rW Tryz.underlying22 hy1 HRX.out n2 c2 HN2.out) hs1 hs2 (Nat.le_trans HLW.out HX7.out.size) ?_; intro v9 w9 hown9 hg9 hat9; have HX6 := Lh (HAP.out x6 v9 w9 HX7.out hown9 hg9 H2.out); clear hown9 hg9 hat9)
    go_roundg gg
    case rel => exact ⟨i + 1, R ++ nx, by omega, by go_num, HX6⟩
    case measure => omega
  ·obtain rfl : n = i := by omega
   have HF : Hid (lq M sy L qq w (.returned (.slice B5 N5 d5)) wr) := Lh (by
    have h1 := HJ.out.1;have h2 := h1.2.2.1;rw [HL.out.1.len, List.take_length] at h2;exact ⟨R, B5, N5, d5, rfl, dB.own h1.1, h2, h1.2.2.2.2, by rw [<- HL.out.1.len]; exact h1.2.2.2.1, h1.2.1⟩)
   go_wp2_with fail;go_ret;exact HF.out
section
open Go.RowKit
open Go.Shelf
open Alp
open Rgx
attribute [local go_sem] Oper.semAt_some
namespace Rgx
def iA (m : Nat) : List (Fin m) := (List.finRange m).reverse
theorem pE (m : Nat) : (iA m).length = m := by unfold iA; simp
theorem Df {m k : Nat} (h : k < m) : (iA m)[k]'(by rw [pE]; exact h) = ⟨m - 1 - k, by omega⟩ := by
 unfold iA;rw [List.getElem_reverse];simp
theorem Fq {m k : Nat} (h : k < m) : (iA m).take (k + 1) = (iA m).take k ++ [⟨m - 1 - k, by omega⟩] := by
 rw [List.take_succ_eq_append_getElem (by rw [pE]; exact h), Df h]
def fJ (ks : List Rx) {m : Nat} (s : List St × Nat) (pre : List (Fin m)) : List St × Nat := pre.foldl (fun s i => aD s.1 s.2 (ak ks i.1)) s
theorem oq (ks : List Rx) {m : Nat} (s : List St × Nat) (pre : List (Fin m)) (x : Fin m) : fJ ks s (pre ++ [x]) = aD (fJ ks s pre).1 (fJ ks s pre).2 (ak ks x.1) := by
 unfold fJ; rw [List.foldl_append]; rfl
theorem wm (M : List St) (t : Nat) : ∀ ks : List Rx, bL M t ks = ks.foldr (fun x s => aD s.1 s.2 x) (M, t)
 |[] => by rw [bL]; rfl
 |x :: xs => by rw [bL, wm M t xs]; rfl
theorem zO (ks : List Rx) (M : List St) (t : Nat) {m : Nat} (hm : m = ks.length) : fJ ks (M, t) (iA m) = bL M t ks := by
 subst hm;unfold fJ iA;rw [List.foldl_reverse, wm];have e : ks = (List.finRange ks.length).map fun i => ak ks i.1 := by
  refine List.ext_getElem (by simp) fun i h1 h2 => ?_
  simp [dO h1]
 conv => rhs; rw [e]
 rw [List.foldr_map]
theorem rO {y : Rx} : ∀ {ks : List Rx}, y ∈ ks -> av y + (ks.length : Int) <= ah ks + 1
 |x :: xs, h => by
  rw [ah, List.length_cons]
  rcases List.mem_cons.1 h with e | h
  ·subst e; have := iF xs; simp; omega
  ·have h1 := rO h; have := cO x; simp; omega
theorem List.reverseRecOn' {α : Type} {P : List α -> Prop} (nil : P []) (snoc : ∀ l x, P l -> P (l ++ [x])) (l : List α) : P l := by
 rw [<- List.reverse_reverse l]
 induction l.reverse with
 |nil => exact nil
 |cons x t ih => rw [List.reverse_cons]; exact snoc _ _ ih
theorem Fe (ks : List Rx) {m : Nat} (hm : m = ks.length) (M : List St) (t : Nat) : ∀ pre : List (Fin m), (((fJ ks (M, t) pre).1.length : Nat) : Int) <= M.length + (pre.length : Int) * (ah ks + 1 - (m : Int)) := by
 intro pre
 induction pre using List.reverseRecOn' with
 |nil => simp [fJ]
 |snoc pre x ih =>
  rw [oq];have h1 := nQ (ak ks x.1) (fJ ks (M, t) pre).1 (fJ ks (M, t) pre).2;have h2 := rO (dG (ks := ks) (i := x.1) (by rw [<- hm]; exact x.2));rw [List.length_append, List.length_singleton];have h3 : ((pre.length + 1 : Nat) : Int) * (ah ks + 1 - (m : Int)) = (pre.length : Int) * (ah ks + 1 - (m : Int)) + (ah ks + 1 - (m : Int)) := by rw [Int.natCast_add, Int.add_mul]; simp
  rw [h3];omega
theorem DX (r : Rx) : ∀ (M : List St) (t : Nat), t < M.length -> (aD M t r).2 < (aD M t r).1.length := by
 induction r using Rx.ind with
 |h r ih =>
 intro M t ht;have hS : ∀ ks : List Rx, (∀ x ∈ ks, x ∈ r.kids) -> ∀ M : List St, t < M.length -> (bL M t ks).2 < (bL M t ks).1.length := by
  intro ks
  induction ks with
  |nil => intro _ M h; rw [bL]; exact h
  |cons x xs ihx => intro hk M h; rw [bL]; exact ih x (hk x (by simp)) _ _ (ihx (fun y hy => hk y (by simp [hy])) M h)
 rw [iQ]
 split
 ·exact ht
 ·split
  ·simp
  ·split
   ·exact hS r.kids (fun x hx => hx) M ht
   ·split
    ·simp
    ·split
     ·show M.length < (List.set _ _ _).length;rw [List.length_set];have := (tF r.kids (M ++ [(0, [t])]) M.length).len;rw [List.length_append] at this;simp at this;omega
     ·simp
theorem z8 (ks : List Rx) {m : Nat} (M : List St) (t : Nat) (ht : t < M.length) (pre : List (Fin m)) : (fJ ks (M, t) pre).2 < (fJ ks (M, t) pre).1.length := by
 induction pre using List.reverseRecOn' with
 |nil => exact ht
 |snoc pre x ih => rw [oq]; exact DX _ _ _ ih
theorem bY.isc {p : Nat -> Prop} {w : World} {l : List Nat} {A : Option Addr} {n c : Nat} (h : bY p w l A n c) : bY (fun b => p b /\ ∃ o : Obj, w.heap[b]? = some o /\ o.isCells = true) w l A n c := ⟨h.len, h.cap, h.max, h.rd, fun hn b o e => ⟨h.blk hn b o e, by
 obtain ⟨b', o', e', hc⟩ := h.rd.open (j3 hn);obtain ⟨rfl, rfl⟩ : b = b' /\ o = o' := by rw [e] at e'; simpa using e'
 cases l with
 |nil => exact absurd rfl hn
 |cons x t => exact cells_of_cell (hc 0 _ rfl)⟩, h.full⟩
theorem fG.isc {p : Nat -> Prop} {w : World} {xs : List Value} {M : List St} (h : fG p w xs M) : fG (fun b => p b /\ ∃ o : Obj, w.heap[b]? = some o /\ o.isCells = true) w xs M := ⟨h.1, fun i hi => by
 obtain ⟨A, n, c, e1, e2, e3⟩ := h.2 i hi;exact ⟨A, n, c, e1, e2, e3.isc⟩⟩
theorem aY.turn {q : Nat -> Prop} {mb : Nat} {v : Value} {M : List St} {w w1 : World} {row : Option Nat} (h : aY q mb v M w) (hg : w.grownBy w1 row) (hr : ∀ r, row = some r -> ∃ o : Obj, w.heap[r]? = some o /\ o.isCells = false) : aY q mb v M w1 := by
 obtain ⟨xs, hC, hO⟩ := h.row;refine ⟨(grownBy_keeps_cells hg hr (show w.heap[mb]? = _ from h.box) rfl).trans h.box, xs, (hC.isc.keep fun b o hp => ?_).mono fun b hp => hp.1, hO.kept hg ?_⟩
 ·obtain ⟨ob, h1, h2⟩ := hp.2;exact World.cell?_of_block (grownBy_keeps_cells hg hr h1 h2)
 ·rcases hO.2 with ⟨e, _⟩ | ⟨g, cap, cur, e, _, hgc, _⟩
  ·left; rw [e]; rfl
  ·right
   intro e2;rw [e] at e2;obtain ⟨o, ho, hc⟩ := hr g e2.symm;rw [hgc] at ho
   cases ho
   cases hc
theorem aY.rowc {q : Nat -> Prop} {mb : Nat} {v : Value} {M : List St} {w : World} (h : aY q mb v M w) {g : Nat} (hg : v.ownBlock = some g) : ∃ o : Obj, w.heap[g]? = some o /\ o.isCells = true := by
 obtain ⟨xs, hC, hO⟩ := h.row
 rcases hO.2 with ⟨e, _⟩ | ⟨g', cap, cur, e, _, hgc, _⟩
 ·rw [e] at hg; cases hg
 ·rw [e] at hg;obtain rfl : g' = g := Option.some.inj hg;exact ⟨_, hgc, rfl⟩
end Rgx
theorem CE (F : Fence) (n : Nat) (hf : F.fn 92) (hro : F.round = none) (B : Option Addr) (m d : Nat) (w : World) : CallsIn F n Tryz.prog 92 #[.slice B m d] w fun e w' => e = .returned (.func (.func 126) #[] #[.pointer (some ⟨w.heap.size, 0, none⟩)]) /\ w' = w.alloc (.cells #[.slice B m d] 23) := by
 refine callsIn_of_wp Tryz.func92 rfl hf ?_ hro;simp only [Tryz.ntmps92, List.size_toArray, List.length_cons, List.length_nil, Nat.reduceAdd, Nat.reduceSub, Array.replicate_succ, Array.replicate_zero, List.push_toArray, List.append_toArray, List.nil_append, List.cons_append]
 gi_wp2
 go_ret;exact ⟨rfl, rfl⟩
theorem CJ (F : Fence) (n : Nat) (hf : F.fn 126) (hro : F.round = none) (hn : 1 <= n) (gb : Nat) (B : Option Addr) (m d : Nat) (hm : m <= 1000000000000) (Vf : Fin m -> Value) (Kl : World -> World -> Prop) (RR : World -> Prop) (w0 : World) (h0 : ∀ W, Below w0.heap.size w0 W -> RR W) (hs : ∀ W W', RR W -> Kl W W' -> RR W') (hr : ∀ W, RR W -> W.cell? ⟨gb, 0, none⟩ = some (.slice B m d) /\ ∀ i : Fin m, ∃ b o k A n1 c1 B2 m2 d2, B = some ⟨b, o, none⟩ /\ Vf i = .agg #[.int .i64 k, .slice A n1 c1, .slice B2 m2 d2] /\ W.cell? ⟨b, o + i.1 * 3, none⟩ = some (.int .i64 k) /\ W.cell? ⟨b, o + i.1 * 3 + 1, none⟩ = some (.slice A n1 c1) /\ W.cell? ⟨b, o + i.1 * 3 + 2, none⟩ = some (.slice B2 m2 d2)) :
  SeqStopsK F n Tryz.prog 126 #[.pointer (some ⟨gb, 0, none⟩)] (fun i : Fin m => #[.int .i64 (i.1 : Int), Vf i]) Kl (fun ys => ys = iA m) (fun _ => True) m w0 := fun l J Jx W hW _ _ hY hJ0 => by
 have HRW := Lh (h0 W hW);have HS := Lh hs;have HR := Lh hr;have HY := Lh hY;clear hY hs hr;refine callsIn_of_wp Tryz.func126 rfl hf ?_ hro;simp only [Tryz.ntmps126, List.size_toArray, List.length_cons, List.length_nil, Nat.reduceAdd, Nat.reduceSub, Array.replicate_succ, Array.replicate_zero, List.push_toArray, List.append_toArray, List.nil_append, List.cons_append];have hc0 := (HR.out W HRW.out).1
 gi_wp2
 gi_loopw [3] (fun i wr => ∃ k : Nat, k <= m /\ i = .int .i64 ((m : Int) - 1 - (k : Int)) /\ J ((iA m).take k) wr /\ RR wr) (fun i _ => (intOf i + 1).toNat)
 case atStart => exact ⟨0, Nat.zero_le _, by simp, hJ0, HRW.out⟩
 case round =>
  obtain ⟨k, hk, rfl, hJs, hRR⟩ := hrel;have HRR := Lh hRR;have HJ := Lh hJs;clear hRR hJs
  by_cases hlt : k < m
  ·obtain ⟨i, hi⟩ : ∃ i : Nat, i = m - 1 - k := ⟨_, rfl⟩;have hi2 : i < m := by omega
   have hie : (m : Int) - 1 - (k : Int) = (i : Int) := by omega
   have HTK : Hid ((iA m).take (k + 1) = (iA m).take k ++ [⟨i, hi2⟩]) := Lh (by rw [Fq hlt]; simp only [hi]);obtain ⟨b, o, kk, A, n1, c1, B2, m2, d2, rfl, hV, e1, e2, e3⟩ := (HR.out wr HRR.out).2 ⟨i, hi2⟩;have hcb := (HR.out wr HRR.out).1;obtain ⟨fn, tmps, assign, body, hy, hR⟩ := HY.out _ ⟨i, hi2⟩ wr HJ.out (by rw [List.length_take, pE]; omega);rw [hV] at hy
   dsimp only at hy e1 e2 e3
   rw [hie];have HHR := Lh hR;have hd0 : 0 <= (i : Int) := by omega
   have HW : Hid ((m : Int) - 1 - ((k + 1 : Nat) : Int) = (i : Int) - 1) := Lh (by omega);clear hie hi hV hR
   gi_wp2
   refine HHR.out.mono ?_;rintro e W3 (⟨rfl, hJ3, hk3⟩ | ⟨rfl, hJx3⟩)
   ·gi_wp2
    go_roundw
    case rel => exact ⟨k + 1, by omega, by rw [HW.out], by rw [HTK.out]; exact hJ3, HS.out _ _ HRR.out hk3⟩
    case measure => simp [intOf]
   ·gi_wp2
    refine bodyPost_ret (results_none rfl _ _ _) rfl ?_;exact ⟨⟨_, rfl⟩, .inr ⟨_, trivial, hJx3⟩⟩
  ·obtain rfl : k = m := by omega
   have hcb := (HR.out wr HRR.out).1
   gi_wp2
   go_end0;exact ⟨⟨_, rfl⟩, .inl ⟨_, rfl, by have h1 := HJ.out; rwa [List.take_of_length_le (by rw [pE]; exact Nat.le_refl _)] at h1⟩⟩
structure Ko (mb : Nat) (v : Value) (G : Nat) (w w' : World) : Prop where
 os : w'.os = w.os
 tape : w'.tape = w.tape
 output : w'.output = w.output
 size : w.heap.size <= w'.heap.size
 block : ∀ k, k < w.heap.size -> k ≠ mb -> some k ≠ v.ownBlock -> k ≠ G -> w'.heap[k]? = w.heap[k]?
def Kl (mb : Nat) (v : Value) (G N : Nat) (W W' : World) : Prop := ∀ k, k < N -> k ≠ mb -> some k ≠ v.ownBlock -> k ≠ G -> W'.heap[k]? = W.heap[k]?
def AxS {m : Nat} (N : Nat) (fk : Fin m -> Int × Option Addr × Nat × Nat × Option Addr × Nat × Nat) (fr : Nat -> Fin m -> Act) (x : Fin m) (a' : Act) (W : World) : Prop := ∃ Bx, N <= Bx /\ aa W Bx [.int .i64 (fk x).1, .slice (fk x).2.1 (fk x).2.2.1 (fk x).2.2.2.1, .slice (fk x).2.2.2.2.1 (fk x).2.2.2.2.2.1 (fk x).2.2.2.2.2.2] 25 /\ a' = fr Bx x
theorem wu {w w1 : World} {row : Option Nat} {b : Nat} {C : List Value} {T : TypeId} (h : aa w b C T) (hg : w.grownBy w1 row) (hr : ∀ r, row = some r -> ∃ o : Obj, w.heap[r]? = some o /\ o.isCells = false) : aa w1 b C T := (grownBy_keeps_cells hg hr (show w.heap[b]? = _ from h) rfl).trans h
theorem GZ (r : Rx) (hk : r.kind = 3) (hv : ay r = true) (ih : ∀ x ∈ r.kids, jr x) : jr r := by
 intro q mb v M w K A B n c m d t2 hK hq hM ht hc h;have HX : Hid (ai (fun b => b ≠ mb /\ some b ≠ v.ownBlock) w r A n c B m d /\ K = r.kind /\ ay r = true) := Lh ⟨h, hK, hv⟩;have HQ := Lh hq;have HT := Lh ht;have HIH := Lh ih;have hm6 : m <= 1000000 := by have h2 := ru r; have h3 := h.o.mlen; have h4 := xk (r := r) (by omega); omega
 have hch : ∀ i : Fin m, ∃ t : Int × Option Addr × Nat × Nat × Option Addr × Nat × Nat, ∃ b o, B = some ⟨b, o, none⟩ /\ (b ≠ mb /\ some b ≠ v.ownBlock) /\ t.1 = (ak r.kids i.1).kind /\ w.rangeAt b (o + i.1 * 3) (zV t.1 t.2.1 t.2.2.1 t.2.2.2.1 t.2.2.2.2.1 t.2.2.2.2.2.1 t.2.2.2.2.2.2) /\ ai (fun b => b ≠ mb /\ some b ≠ v.ownBlock) w (ak r.kids i.1) t.2.1 t.2.2.1 t.2.2.2.1 t.2.2.2.2.1 t.2.2.2.2.2.1 t.2.2.2.2.2.2 := fun i => by
  have hi : i.1 < r.kids.length := by rw [<- h.o.mlen]; exact i.2
  obtain ⟨b, o, hB⟩ := h.kids.1.place (by omega);have hp := h.kids.2 (List.ne_nil_of_length_pos (by omega)) b o hB;subst hB;obtain ⟨A', n', c', B', m', d', h1, h2⟩ := h.kids.1.kid hi;exact ⟨((ak r.kids i.1).kind, A', n', c', B', m', d'), b, o, rfl, hp, rfl, h1, h2⟩
 obtain ⟨fk, hfk⟩ := Classical.axiomOfChoice hch;have HFK := Lh hfk;have HB3 : Hid (aa (((w.alloc (.cells #[.pointer (some ⟨mb, 0, none⟩)] 107)).alloc (zC K A n c B m d)).alloc (.cells #[.int .i64 (t2 : Int)] 3)) w.heap.size [.pointer (some ⟨mb, 0, none⟩)] 107 /\ aa (((w.alloc (.cells #[.pointer (some ⟨mb, 0, none⟩)] 107)).alloc (zC K A n c B m d)).alloc (.cells #[.int .i64 (t2 : Int)] 3)) (w.heap.size + 1) (zV K A n c B m d) 25 /\ aa (((w.alloc (.cells #[.pointer (some ⟨mb, 0, none⟩)] 107)).alloc (zC K A n c B m d)).alloc (.cells #[.int .i64 (t2 : Int)] 3)) (w.heap.size + 1 + 1) [.int .i64 (t2 : Int)] 3 /\ Below w.heap.size w (((w.alloc (.cells #[.pointer (some ⟨mb, 0, none⟩)] 107)).alloc (zC K A n c B m d)).alloc (.cells #[.int .i64 (t2 : Int)] 3))) := Lh ⟨((aa.at w [.pointer (some ⟨mb, 0, none⟩)] _ 107 _ rfl rfl).alloc _).alloc _, (aa.at (w.alloc (.cells #[.pointer (some ⟨mb, 0, none⟩)] 107)) (zV K A n c B m d) _ 25 _ rfl (by simp)).alloc _, aa.at ((w.alloc (.cells #[.pointer (some ⟨mb, 0, none⟩)] 107)).alloc (zC K A n c B m d)) [.int .i64 (t2 : Int)] _ 3 _ rfl (by simp), aB (aB (ag _ _) _) _⟩;have HLT : Hid (mb < w.heap.size /\ ∀ g, v.ownBlock = some g -> mb < g /\ g < w.heap.size) := Lh hM.lt;have HMW := Lh hM;have k3 : K = 3 := hK.trans hk;have kab : (K == 1) = false := bF (by omega);have kbb : (K == 2) = false := bF (by omega);have kcb : (K == 3) = true := bT (by omega);have hc4 : (((w.alloc (.cells #[.pointer (some ⟨mb, 0, none⟩)] 107)).alloc (zC K A n c B m d)).alloc (.cells #[.int .i64 (t2 : Int)] 3)).cell? ⟨(w.heap.size + 1), 0, none⟩ = some (.int .i64 K) := HB3.out.2.1.cell (j := 0) rfl;have hc42 : (((w.alloc (.cells #[.pointer (some ⟨mb, 0, none⟩)] 107)).alloc (zC K A n c B m d)).alloc (.cells #[.int .i64 (t2 : Int)] 3)).cell? ⟨(w.heap.size + 1), 2, none⟩ = some (.slice B m d) := HB3.out.2.1.cell (j := 2) rfl
 have HL : Hid (aD M t2 r = bL M t2 r.kids) := Lh (by rw [iQ, if_neg (by omega), if_neg (by omega), if_pos hk]);have HBND : Hid (∀ y ∈ r.kids, ∀ ml pl : Nat, pl < m -> (ml : Int) <= M.length + (pl : Int) * (ah r.kids + 1 - (m : Int)) -> (ml : Int) + gF y <= 1000000000) := Lh fun y hy ml pl hpl hml => by
  have h1 := rO hy;have h2 := dA r;have h3 := cO y;have h4 := iF r.kids;rw [<- h.o.mlen] at h1 h4;obtain ⟨CC, hCC⟩ : ∃ C : Int, C = ah r.kids + 1 - (m : Int) := ⟨_, rfl⟩;rw [<- hCC] at hml;have h5 : (pl : Int) * CC <= ((m : Int) - 1) * CC := Int.mul_le_mul_of_nonneg_right (by omega) (by omega);have h6 : av y * av y <= CC * CC := Int.mul_le_mul (by omega) (by omega) (by omega) (by omega);have h7 : ((m : Int) - 1) * CC + CC * CC = ((m : Int) - 1 + CC) * CC := (Int.add_mul _ _ _).symm;have h8 : ((m : Int) - 1 + CC) * CC <= av r * av r := Int.mul_le_mul (by omega) (by omega) (by omega) (by omega);have h9 : gF y = av y * av y := rfl;have h10 : gF r = av r * av r := rfl;omega
 clear h hK hk hq hM ht hc hv ih hch hfk k3;refine (callsIn_wide (n := 6)).1 ?_;have hro : Fence.wide.round = none := rfl;refine callsIn_of_wp_marks Tryz.func60 rfl trivial ?_ hro;simp only [Tryz.ntmps60, List.size_toArray, List.length_cons, List.length_nil, Nat.reduceAdd, Nat.reduceSub, Array.replicate_succ, Array.replicate_zero, List.push_toArray, List.append_toArray, List.nil_append, List.cons_append]
 gi_wp2_with (refine ⟨trivial, ?_⟩; gi_at_call 92; refine (CE Fence.wide _ trivial rfl B m d _).mono ?_; rintro e w' ⟨rfl, rfl⟩)
 obtain ⟨W4, hW4⟩ : ∃ W, W = ((((w.alloc (.cells #[.pointer (some ⟨mb, 0, none⟩)] 107)).alloc (zC K A n c B m d)).alloc (.cells #[.int .i64 (t2 : Int)] 3)).alloc (.cells #[.slice B m d] 23)) := ⟨_, rfl⟩;have HW4 : Hid (W4 = ((((w.alloc (.cells #[.pointer (some ⟨mb, 0, none⟩)] 107)).alloc (zC K A n c B m d)).alloc (.cells #[.int .i64 (t2 : Int)] 3)).alloc (.cells #[.slice B m d] 23)) /\ W4.heap.size = ((w.heap.size + 1 + 1) + 1) + 1 /\ Below (((w.alloc (.cells #[.pointer (some ⟨mb, 0, none⟩)] 107)).alloc (zC K A n c B m d)).alloc (.cells #[.int .i64 (t2 : Int)] 3)).heap.size (((w.alloc (.cells #[.pointer (some ⟨mb, 0, none⟩)] 107)).alloc (zC K A n c B m d)).alloc (.cells #[.int .i64 (t2 : Int)] 3)) W4 /\ aa W4 ((w.heap.size + 1 + 1) + 1) [.slice B m d] 23 /\ aa W4 (w.heap.size + 1 + 1) [.int .i64 (t2 : Int)] 3 /\ aa W4 w.heap.size [.pointer (some ⟨mb, 0, none⟩)] 107 /\ Below w.heap.size w W4) := Lh (by
  subst hW4;exact ⟨rfl, by simp, ag _ _, aa.at (((w.alloc (.cells #[.pointer (some ⟨mb, 0, none⟩)] 107)).alloc (zC K A n c B m d)).alloc (.cells #[.int .i64 (t2 : Int)] 3)) _ _ 23 _ rfl (by simp), HB3.out.2.2.1.alloc _, HB3.out.1.alloc _, aB HB3.out.2.2.2 _⟩)
 rw [<- hW4];clear hW4;have HRR : Hid (∀ W, Kl mb v (w.heap.size + 1 + 1) W4.heap.size W4 W -> W.cell? ⟨((w.heap.size + 1 + 1) + 1), 0, none⟩ = some (.slice B m d) /\ W.cell? ⟨w.heap.size, 0, none⟩ = some (.pointer (some ⟨mb, 0, none⟩)) /\ ∀ i : Fin m, ∃ b o, B = some ⟨b, o, none⟩ /\ W.rangeAt b (o + i.1 * 3) [.int .i64 (fk i).1, .slice (fk i).2.1 (fk i).2.2.1 (fk i).2.2.2.1, .slice (fk i).2.2.2.2.1 (fk i).2.2.2.2.2.1 (fk i).2.2.2.2.2.2]) := Lh fun W hW => by
  have hlt := HLT.out;have hsz := HW4.out.2.1;have hown : ∀ b, w.heap.size <= b -> some b ≠ v.ownBlock := fun b hb e => by have := (hlt.2 b e.symm).2; omega
  refine ⟨(World.cell?_of_block (hW ((w.heap.size + 1 + 1) + 1) (by omega) (by omega) (hown _ (by omega)) (by omega))).trans (HW4.out.2.2.2.1.cell (j := 0) rfl), (World.cell?_of_block (hW w.heap.size (by omega) (by omega) (hown _ (by omega)) (by omega))).trans (HW4.out.2.2.2.2.2.1.cell (j := 0) rfl), fun i => ?_⟩;obtain ⟨b, o, hB, hp, _, h1, _⟩ := HFK.out i;refine ⟨b, o, hB, fun j u hu => ?_⟩;have h2 := h1 j u hu;have h3 : b < w.heap.size := World.block_lt_of_cell? w _ h2;exact (World.cell?_of_block (hW b (by omega) hp.1 hp.2 (by omega))).trans ((HW4.out.2.2.2.2.2.2.cell (p := ⟨b, _, none⟩) h3).trans h2)
 have HI0 : Hid (∃ v1, aY (fun b => q b /\ b ≠ (w.heap.size + 1 + 1)) mb v1 (fJ r.kids (M, t2) ([] : List (Fin m))).1 W4 /\ aa W4 (w.heap.size + 1 + 1) [.int .i64 ((fJ r.kids (M, t2) ([] : List (Fin m))).2 : Int)] 3 /\ Ko mb v (w.heap.size + 1 + 1) W4 W4 /\ Nw W4 v v1) := Lh ⟨v, (HMW.out.mono (q2 := fun b => q b /\ b ≠ (w.heap.size + 1 + 1)) (fun b hb hl => ⟨hb, by omega⟩)).below HW4.out.2.2.2.2.2.2, HW4.out.2.2.2.2.1, ⟨rfl, rfl, rfl, Nat.le_refl _, fun _ _ _ _ _ => rfl⟩, Nw.refl _ _⟩;refine wpIn_rangeFunc_ownH (α := Fin m) hro (by omega) (gf := 126) (lb := #[.pointer (some ⟨((w.heap.size + 1 + 1) + 1), 0, none⟩)]) rfl trivial (enters_of Tryz.func126 (by kernel_rfl) rfl)
  (CJ Fence.wide _ trivial rfl (by omega) ((w.heap.size + 1 + 1) + 1) B m d (by omega) (fun x => .agg #[.int .i64 (fk x).1, .slice (fk x).2.1 (fk x).2.2.1 (fk x).2.2.2.1, .slice (fk x).2.2.2.2.1 (fk x).2.2.2.2.2.1 (fk x).2.2.2.2.2.2]) (Kl mb v (w.heap.size + 1 + 1) W4.heap.size) (Kl mb v (w.heap.size + 1 + 1) W4.heap.size W4) W4 (fun W hW k hk _ _ _ => hW.block k hk) (fun W W' h1 h2 k hk a b c => (h2 k hk a b c).trans (h1 k hk a b c)) (fun W hW => ⟨(HRR.out W hW).1, fun i => by
    obtain ⟨b, o, hB, h1⟩ := (HRR.out W hW).2.2 i;exact ⟨b, o, _, _, _, _, _, _, _, hB, rfl, h1 0 _ rfl, h1 1 _ rfl, h1 2 _ rfl⟩⟩))
  (fun h1 h2 k hk a b c => (h2 k hk a b c).trans (h1 k hk a b c)) (fun W l o o' hl h _ _ k hk _ _ _ => World.putObj_heap_other (by omega)) (Below.refl _ _) (fun _ => rfl)
  (fun pre W => (∃ v1, aY (fun b => q b /\ b ≠ (w.heap.size + 1 + 1)) mb v1 (fJ r.kids (M, t2) pre).1 W /\ aa W (w.heap.size + 1 + 1) [.int .i64 ((fJ r.kids (M, t2) pre).2 : Int)] 3 /\ Ko mb v (w.heap.size + 1 + 1) W4 W /\ Nw W4 v v1))
  (fun _ _ _ => False)
  (fun pre W W' row hI hg hr => by
    obtain ⟨v1, h1, h2, h3, h4⟩ := hI;have hr2 : ∀ r, row = some r -> ∃ o : Obj, W.heap[r]? = some o /\ o.isCells = false := fun r e => (hr r e).2
    exact ⟨v1, h1.turn hg hr2, wu h2 hg hr2, ⟨hg.os.trans h3.os, hg.tape.trans h3.tape, hg.output.trans h3.output, Nat.le_trans h3.size hg.size, fun k hk a b c => (hg.block k (Nat.lt_of_lt_of_le hk h3.size) (fun e => by have := (hr k e.symm).1; omega)).trans (h3.block k hk a b c)⟩, h4⟩)
  (fun _ _ _ _ _ hs _ _ => hs)
  HI0.out
  (AxS W4.heap.size fk fun Bx x => { tmps := #[.pointer (some ⟨mb, 0, none⟩), .agg #[.int .i64 K, .slice A n c, .slice B m d], .int .i64 (t2 : Int), .pointer (some ⟨w.heap.size, 0, none⟩), .pointer (some ⟨w.heap.size + 1, 0, none⟩), .pointer (some ⟨w.heap.size + 1 + 1, 0, none⟩), .int .i64 0, undef, .pointer (some ⟨Bx, 0, none⟩), undef, undef, undef, undef, undef, .pointer (some ⟨w.heap.size + 1, 0, none⟩), .int .i64 K, .bool false, .bool false, undef, .bool false, .bool false, undef, undef, undef, undef, undef, undef, undef, .bool true, .bool true, .pointer (some ⟨w.heap.size + 1, 2, none⟩), .slice B m d, .func (.func 126) #[] #[.pointer (some ⟨(w.heap.size + 1 + 1) + 1, 0, none⟩)], .int .i64 (x.1 : Int), .agg #[.int .i64 (fk x).1, .slice (fk x).2.1 (fk x).2.2.1 (fk x).2.2.2.1, .slice (fk x).2.2.2.2.1 (fk x).2.2.2.2.2.1 (fk x).2.2.2.2.2.2], undef, undef, undef, undef, undef, undef, undef, undef, undef, undef, undef, undef, undef, undef, undef, undef, undef, undef, undef, undef, undef, undef, undef, undef, undef, undef, undef, undef, undef, undef, undef, undef, undef, undef, undef, undef, undef, undef, undef, undef, undef, undef, undef, undef, undef, undef, undef, undef, undef, undef, undef, undef, undef, undef, undef, undef, undef, undef, undef, undef, undef, undef, undef, undef], defers := [] })
  (fun x a' _ X Y row hs hg hr => by
    obtain ⟨Bx, h1, h2, h3⟩ := hs;exact ⟨Bx, h1, wu h2 hg (fun r e => (hr r e).2), h3⟩)
  ?assign ?body ?done ?stop
 case assign =>
  rintro l pre x W KK ⟨v1, h1, h2, h3, h4⟩ hK
  gi_wp2
  exact hK _ _ ((KeepsOthers.alloc _ _).from _) (fun k hk _ _ _ => heap_alloc_old W _ (Nat.lt_of_lt_of_le hk h3.size)) ⟨v1, h1.below (ag _ _), h2.alloc _, ⟨h3.os, h3.tape, h3.output, by rw [World.size_alloc]; exact Nat.le_succ_of_le h3.size, fun k hk a b c => (heap_alloc_old W _ (Nat.lt_of_lt_of_le hk h3.size)).trans (h3.block k hk a b c)⟩, h4⟩ ⟨W.heap.size, h3.size, aa.at W _ _ 25 _ rfl rfl, rfl⟩
 case body =>
  rintro l pre x a' W hl0 _ ⟨v1, h1, h2, h3, h4⟩ ⟨Bx, hBx, hbx, rfl⟩ hlen;have hlt := HLT.out;have hsz := HW4.out.2.1;have hW4 := h3.size;have hG5 : (w.heap.size + 1 + 1) < W.heap.size := h2.lt;have hcb0 := hbx.cell (j := 0) rfl;have hcb1 := hbx.cell (j := 1) rfl;have hcb2 := hbx.cell (j := 2) rfl;have hct := h2.cell (j := 0) rfl;have hKL : Kl mb v (w.heap.size + 1 + 1) W4.heap.size W4 W := fun k hk a b c => h3.block k hk a b c
  have hcp := (HRR.out W hKL).2.1;obtain ⟨b, o, hB, hpb, hkd, _, hrx⟩ := HFK.out x;have hxl : x.1 < r.kids.length := by rw [<- HX.out.1.o.mlen]; exact x.2
  obtain ⟨y, hy⟩ : ∃ y, y = ak r.kids x.1 := ⟨_, rfl⟩;obtain ⟨M1, hM1⟩ : ∃ S, S = (fJ r.kids (M, t2) pre).1 := ⟨_, rfl⟩;obtain ⟨t1, ht1⟩ : ∃ t, t = (fJ r.kids (M, t2) pre).2 := ⟨_, rfl⟩;rw [<- ht1] at hct h2;rw [<- hM1] at h1;rw [<- hy] at hrx hkd;have hyk : ai (fun b => b ≠ mb /\ some b ≠ v1.ownBlock) W y (fk x).2.1 (fk x).2.2.1 (fk x).2.2.2.1 (fk x).2.2.2.2.1 (fk x).2.2.2.2.2.1 (fk x).2.2.2.2.2.2 := by
    have h5 := hrx.lt7.keep (W := W) fun bb oo hp => (World.cell?_of_block ((hKL bb (by omega) hp.1.1 hp.1.2 (by omega)).trans (HW4.out.2.2.2.2.2.2.block bb hp.2)))
    refine h5.mono fun bb hp => ⟨hp.1.1, fun e => ?_⟩
    rcases h4 with hn | ⟨g, hg, hgl⟩
    ·exact hp.1.2 (e.trans hn)
    ·rw [hg] at e; have e := Option.some.inj e; omega
  have hcall : Calls Tryz.prog 60 #[.pointer (some ⟨mb, 0, none⟩), .agg #[.int .i64 (fk x).1, .slice (fk x).2.1 (fk x).2.2.1 (fk x).2.2.2.1, .slice (fk x).2.2.2.2.1 (fk x).2.2.2.2.2.1 (fk x).2.2.2.2.2.2], .int .i64 (t1 : Int)] W (fB (fun b => q b /\ b ≠ (w.heap.size + 1 + 1)) mb v1 (aD M1 t1 y).1 (aD M1 t1 y).2 W) := by
    refine qh (HIH.out y (by rw [hy]; exact dG hxl)) hkd (fun bb hb => ⟨HQ.out bb (by omega), by omega⟩) h1 (by rw [hM1, ht1]; exact z8 _ M t2 HT.out pre) ?_ hyk;have h5 := Fe r.kids HX.out.1.o.mlen M t2 pre;rw [<- hM1] at h5;exact HBND.out y (by rw [hy]; exact dG hxl) M1.length pre.length hlen h5
  have HCALL := Lh hcall;have HAFT : Hid (∀ w7 v7 (t7 : Nat), aY (fun b => q b /\ b ≠ (w.heap.size + 1 + 1)) mb v7 (aD M1 t1 y).1 w7 -> Kp mb v1 W w7 -> Nw W v1 v7 -> t7 = (aD M1 t1 y).2 -> aa w7 (w.heap.size + 1 + 1) [.int .i64 (t1 : Int)] 3 /\ ownPostG W4.heap.size (Kl mb v (w.heap.size + 1 + 1) W4.heap.size) (fun pre W => (∃ v1, aY (fun b => q b /\ b ≠ (w.heap.size + 1 + 1)) mb v1 (fJ r.kids (M, t2) pre).1 W /\ aa W (w.heap.size + 1 + 1) [.int .i64 ((fJ r.kids (M, t2) pre).2 : Int)] 3 /\ Ko mb v (w.heap.size + 1 + 1) W4 W /\ Nw W4 v v1)) (fun _ _ _ => False) (pre ++ [x]) W .normal { tmps := #[], defers := [] } (w7.setCell ⟨(w.heap.size + 1 + 1), 0, none⟩ (.int .i64 (t7 : Int)))) := Lh fun w7 v7 t7 g1 g2 g3 g4 => by
    have hb7 : aa w7 (w.heap.size + 1 + 1) [.int .i64 (t1 : Int)] 3 := g2.blk h2 (by omega) (fun e => h4.ne (by omega) (fun e => by have := (hlt.2 _ e).2; omega) e.symm);have hst := aK.of_setCell hb7 0 (.int .i64 (t7 : Int));have hgr := bv hst;have hkp : ∀ k, k < W4.heap.size -> k ≠ mb -> some k ≠ v.ownBlock -> k ≠ (w.heap.size + 1 + 1) -> (w7.setCell ⟨(w.heap.size + 1 + 1), 0, none⟩ (.int .i64 (t7 : Int))).heap[k]? = W.heap[k]? := fun k hk a b c => (hst.2.1 k c).trans (g2.block k (by omega) a (fun e => by
     rcases h4 with hn | ⟨g, hg, hgl⟩
     ·exact b (e.trans hn)
     ·rw [hg] at e; have e := Option.some.inj e; omega))
    refine ⟨hb7, ⟨by rw [hst.2.2.1]; exact g2.size, fun k ob hk hob hoc => ?_⟩, hkp, v7, ?_, ?_, ⟨hst.2.2.2.1.trans (g2.os.trans h3.os), hst.2.2.2.2.1.trans (g2.tape.trans h3.tape), hst.2.2.2.2.2.trans (g2.output.trans h3.output), by rw [hst.2.2.1]; exact Nat.le_trans hW4 g2.size, fun k hk a b c => (hkp k hk a b c).trans (h3.block k hk a b c)⟩, h4.tr hW4 g3⟩
    ·have hlt2 : k < W.heap.size := (Array.getElem?_eq_some_iff.1 hob).1;exact (hst.2.1 k (by omega)).trans ((g2.block k hlt2 (by omega) (fun e => by
      obtain ⟨o2, ho2, hc2⟩ := h1.rowc e.symm;rw [hob] at ho2; cases ho2; rw [hoc] at hc2; cases hc2)).trans hob)
    ·rw [oq, <- hM1, <- ht1, <- hy];exact g1.grown hgr (by omega) (g3.ne hG5 (fun e => h4.ne (by omega) (fun e => by have := (hlt.2 _ e).2; omega) e)) (fun b hb => hb.2)
    ·rw [oq, <- hM1, <- ht1, <- hy, <- g4];exact hst.1
  clear h1 h2 h3 h4 hrx hyk hcall hbx hKL hM1 ht1 hy hB hkd hpb
  gi_wp2_with (refine ⟨trivial, ?_⟩; gi_at_call 60; refine (CallsIn.inRound l (callsIn_wide.2 HCALL.out)).mono ?_; rintro e w7 hp; obtain ⟨v7, rfl, g1, g2, g3⟩ := jH hp; obtain ⟨t7, ht7⟩ : ∃ t, t = (aD M1 t1 y).2 := ⟨_, rfl⟩; rw [<- ht7]; have HP7 := Lh (HAFT.out w7 v7 t7 g1 g2 g3 ht7); have hcc := HP7.out.1.cell (j := 0) rfl; have hff := HP7.out.1.frozen 0; clear hp g1 g2 g3 ht7)
  exact HP7.out.2
 case done =>
  rintro D zs W hD rfl ⟨v1, h1, h2, h3, h4⟩ hK;have hct := h2.cell (j := 0) rfl;have hlt := HLT.out;have hsz := HW4.out.2.1;have HEND : Hid (∀ W', W' = W.putObj D (.deferred none) -> fB q mb v (aD M t2 r).1 (aD M t2 r).2 w (.returned (.int .i64 ((fJ r.kids (M, t2) (iA m)).2 : Int))) W') := Lh fun W' hW' => by
    subst hW';rw [zO r.kids M t2 HX.out.1.o.mlen] at h1 ⊢;have hgr : W.grownBy (W.putObj D (.deferred none)) (some D) := grownBy_putObj' W D _;have htn : ∀ r, some D = some r -> ∃ o : Obj, W.heap[r]? = some o /\ o.isCells = false := fun r e => by cases e; exact ⟨_, hK, rfl⟩
    rw [HL.out];refine ⟨v1, rfl, (h1.turn hgr htn).mono (fun b hb _ => hb.1), ⟨h3.os.trans HW4.out.2.2.2.2.2.2.os, h3.tape.trans HW4.out.2.2.2.2.2.2.tape, h3.output.trans HW4.out.2.2.2.2.2.2.output, Nat.le_trans HW4.out.2.2.2.2.2.2.size (Nat.le_trans h3.size hgr.size), fun k hk a b => (hgr.block k (by have := h3.size; omega) (fun e => by have e := Option.some.inj e; omega)).trans ((h3.block k (by omega) a b (by omega)).trans (HW4.out.2.2.2.2.2.2.block k hk))⟩, h4.of HW4.out.2.2.2.2.2.2.size⟩
  clear h1 h2 h3 h4
  gi_wp2
  refine ⟨by simp, .inl ⟨_, _, rfl, run_takeDeferred hK, ?_⟩⟩;refine ⟨_, results_tmp rfl _ _ _, ?_⟩;exact HEND.out _ rfl
 case stop =>
  rintro D c pre W _ _ h _;exact h.elim
theorem xZ : ∀ (z : Nat) (r : Rx), SizeOf.sizeOf r <= z -> ay r = true -> jr r
 |0, r, hz, hv => by cases r; simp at hz
 |z + 1, r, hz, hv => by
  have ih : ∀ x ∈ r.kids, jr x := fun x hx => xZ z x (by have := gB hx; omega) (eF hv x hx)
  exact zu r hv (fun hk => GZ r hk hv ih) ih
end
theorem uH {gr N : Nat} {step : Int} {M : List St} {S : List Nat} {w w' : World} {e : Ending} (h : qp gr N step M S w e w') : ∃ L A c Rk, e = .returned (.slice A L.length c) /\ dB (fun b => w.heap.size <= b) w' L A L.length c /\ l6 M S L /\ L.Nodup /\ (∀ n ∈ L, n < N) /\ aa w' gr (iv Rk) 3 /\ Rk.length = N /\ (∀ n, n < N -> Rk.getD n 0 <= step) /\ w.grownBy w' (some gr) := h
theorem aY.start (q : Nat -> Prop) (w : World) : aY q w.heap.size (.slice none 0 0) [] (w.alloc (.cells #[.slice none 0 0] 70)) := ⟨aa.at w [.slice none 0 0] _ 70 _ rfl rfl, [], fG.nil _ _, World.ownsRow_nil _ _ _ _⟩
theorem rz {r : Rx} {A B : Option Addr} {n c m d : Nat} {w : World} (h : aC w r A n c B m d) (hcnt : av r <= 30000) (l : List Int) (A2 : Option Addr) (n2 c2 : Nat) (hn2 : n2 = l.length) (hc2 : n2 <= c2) (hm2 : c2 <= 9223372036854775807) (hl9 : n2 <= 1000000000) (hL : Rd w A2 (iv l)) (V : Bool) (hV : V = true ↔ (ay r = true /\ bf r l)) : Calls Tryz.prog 28 #[.agg #[.int .i64 r.kind, .slice A n c, .slice B m d], .slice A2 n2 c2] w (aI w V) := by
 obtain ⟨K, hK⟩ : ∃ K, K = r.kind := ⟨_, rfl⟩;rw [<- hK];have HH : Hid (aC w r A n c B m d /\ K = r.kind) := Lh ⟨h, hK⟩;have hr1 : (w.alloc (zC K A n c B m d)).rangeAt w.heap.size 0 (zV K A n c B m d) := fun j v hv => by rw [Nat.zero_add]; exact iX (Below.refl _ _) j v hv
 cases hv : ay r with
 |false =>
  have HB : Hid (V = false) := Lh (by
   cases V with
   |false => rfl
   |true => have := (hV.1 rfl).1; rw [hv] at this; cases this)
  have HVA : Hid (Calls Tryz.prog 14 #[.agg #[.int .i64 K, .slice A n c, .slice B m d]] (w.alloc (zC K A n c B m d)) (aI (w.alloc (zC K A n c B m d)) false)) := Lh (by rw [hK]; exact qW (h.below (ag _ _)) false hv.symm);clear h hcnt hL hV hK hv;go_enter Tryz.func28, Tryz.ntmps28
  go_wp2_with (first
   |(refine aA rfl (.tmp 2) rfl w.heap.size (0) rfl K A B n c m d hr1 ?_)
   |((with_reducible refine HVA.out.mono ?_); rintro e w2 hp; obtain ⟨rfl, hb⟩ := aN hp; have H2 : Hid (Below w.heap.size w w2) := Lh (ae (ag _ _) hb); clear hp hb))
  go_ret;exact ⟨by have h := HB.out; subst h; rfl, H2.out⟩
 |true =>
  have HVA : Hid (Calls Tryz.prog 14 #[.agg #[.int .i64 K, .slice A n c, .slice B m d]] (w.alloc (zC K A n c B m d)) (aI (w.alloc (zC K A n c B m d)) true)) := Lh (by rw [hK]; exact qW (h.below (ag _ _)) true hv.symm);obtain ⟨t0, ht0⟩ : ∃ t, t = (aD [(0, [])] 0 r).2 := ⟨_, rfl⟩;obtain ⟨M, hM⟩ : ∃ M, M = (aD [(0, [])] 0 r).1 := ⟨_, rfl⟩;obtain ⟨qq, hqq⟩ : ∃ q : Nat, q = (av r).toNat + 1 := ⟨_, rfl⟩;have hcp := cO r;have hok := oV (q := qq) (by omega) r (mG hv) hv (by omega) [(0, [])] 0 ⟨fun x hx n hn => (by rw [List.mem_singleton.1 hx] at hn; cases hn), fun x hx => (by rw [List.mem_singleton.1 hx]; exact Nat.zero_le _), fun x hx => (by rw [List.mem_singleton.1 hx]; decide)⟩ (by simp);have hlen := nQ r [(0, [])] 0;rw [<- hM] at hok hlen;rw [<- ht0] at hok;obtain ⟨N, hN⟩ : ∃ N, N = M.length := ⟨_, rfl⟩;have hN9 : N <= 30001 := by simp at hlen; omega
  have HM : Hid (gJ qq M /\ t0 < M.length /\ N = M.length /\ qq <= 30001 /\ M = (aD [(0, [])] 0 r).1 /\ t0 = (aD [(0, [])] 0 r).2) := Lh ⟨hok.1, hok.2, hN, by omega, hM, ht0⟩;have ht9 : t0 <= 1000000000 := by omega
  have HANY : Hid (Any M [t0] l ↔ V = true) := Lh (by
   rw [hV, hv];have h1 := FT hv l;unfold mE at h1;rw [<- hM, <- ht0] at h1;rw [<- h1];constructor
   ·rintro ⟨s, hs, h2⟩;rw [List.mem_singleton.1 hs] at h2;exact ⟨rfl, h2⟩
   ·rintro ⟨_, h2⟩;exact ⟨t0, by simp, h2⟩)
  have HAD : Hid (∀ w2, Below (w.alloc (zC K A n c B m d)).heap.size (w.alloc (zC K A n c B m d)) w2 -> Calls Tryz.prog 59 #[.pointer (some ⟨w2.heap.size, 0, none⟩), .int .u64 0, .slice none 0 0] (w2.alloc (.cells #[.slice none 0 0] 70)) (fB (fun _ => True) w2.heap.size (.slice none 0 0) [(0, [])] 0 (w2.alloc (.cells #[.slice none 0 0] 70)))) := Lh fun w2 hb => nH (w2.alloc (.cells #[.slice none 0 0] 70)) (fun _ _ => trivial) (aY.start _ w2) 0 [] none 0 0 (bY.nil _ _) (by decide)
  have HLD : Hid (∀ w2 w4 v4, Below (w.alloc (zC K A n c B m d)).heap.size (w.alloc (zC K A n c B m d)) w2 -> aY (fun _ => True) w2.heap.size v4 [(0, [])] w4 -> Kp w2.heap.size (.slice none 0 0) (w2.alloc (.cells #[.slice none 0 0] 70)) w4 -> Nw (w2.alloc (.cells #[.slice none 0 0] 70)) (.slice none 0 0) v4 -> w4.rangeAt w.heap.size 0 (zV K A n c B m d) /\ Calls Tryz.prog 60 #[.pointer (some ⟨w2.heap.size, 0, none⟩), .agg #[.int .i64 K, .slice A n c, .slice B m d], .int .i64 0] w4 (fB (fun _ => True) w2.heap.size v4 M t0 w4)) := Lh fun w2 w4 v4 hb hm hk hn => by
   have hs := hb.size;have hs1 : (w.alloc (zC K A n c B m d)).heap.size = w.heap.size + 1 := by simp
   have hne : ∀ b, b < w2.heap.size -> b ≠ w2.heap.size /\ some b ≠ v4.ownBlock := fun b hb => ⟨by omega, fun e => by
    rcases hn with h | ⟨g, hg, hl⟩
    · rw [h] at e; cases e
    · rw [hg] at e; have := Option.some.inj e; simp at hl; omega⟩
   have hcell : ∀ b o, b < w2.heap.size -> w4.cell? ⟨b, o, none⟩ = w2.cell? ⟨b, o, none⟩ := fun b o hlt => (hk.cell (b := b) (o := o) (by simp; omega) (by omega) (by intro e; cases e)).trans (World.cell?_of_block (heap_alloc_old w2 _ hlt))
   refine ⟨fun j u hu => ?_, ?_⟩
   ·have h1 := hr1 j u hu;exact (hcell _ _ (by omega)).trans ((hb.cell (p := ⟨w.heap.size, 0 + j, none⟩) (by simp)).trans h1)
   ·rw [hM, ht0];have h2 : (([(0, [])] : List St).length : Int) + gF r <= 1000000000 := by
      have h3 : gF r <= 30000 * 30000 := Int.mul_le_mul hcnt hcnt (by omega) (by omega);simp; omega
    exact qh (t2 := 0) (xZ _ r (Nat.le_refl _) hv) hK (fun _ _ => trivial) hm (by simp) h2 ((h.toP.keep (W := w4) fun b o hp => (hcell b o (by omega)).trans ((hb.cell (p := ⟨b, o, none⟩) (by simp; omega)).trans ((ag w _).cell (p := ⟨b, o, none⟩) hp))).mono fun b hp => hne b (by omega))
  have hne0 : M ≠ [] := List.ne_nil_of_length_pos (by omega);have hmk := fun W => uN N (by omega) W
  obtain ⟨Z, hZ⟩ : ∃ Z, Z = (iv (List.replicate N 0)).toArray := ⟨_, rfl⟩;rw [<- hZ] at hmk;have HZ := Lh hZ;have HL : Hid (∀ W, (∀ b o, b < w.heap.size -> W.cell? ⟨b, o, none⟩ = w.cell? ⟨b, o, none⟩) -> Rd W A2 (iv l)) := Lh fun W hk => by
   by_cases hl : l = []
   ·subst hl; exact .inl rfl
   ·obtain ⟨b, o, e, hc⟩ := hL.open (by intro e; apply hl; cases l with | nil => rfl | cons x t => simp [iv] at e);exact .inr ⟨b, o, e, fun k v hv => (hk b _ (by cases l with | nil => exact absurd rfl hl | cons x t => exact World.block_lt_of_cell? w _ (hc 0 _ rfl))).trans (hc k v hv)⟩
  have HN2 : Hid (n2 = l.length) := Lh hn2;have HNE := Lh hne0;have HN0 : Hid (N = M.length /\ 0 < N) := Lh ⟨hN, by omega⟩;have HW5 : Hid (∀ w2 w4 w5 v4 v5, Below (w.alloc (zC K A n c B m d)).heap.size (w.alloc (zC K A n c B m d)) w2 -> Kp w2.heap.size (.slice none 0 0) (w2.alloc (.cells #[.slice none 0 0] 70)) w4 -> Nw (w2.alloc (.cells #[.slice none 0 0] 70)) (.slice none 0 0) v4 -> Kp w2.heap.size v4 w4 w5 -> aY (fun _ => True) w2.heap.size v5 M w5 -> Nw w4 v4 v5 -> ∃ g dm, v5 = .slice (some ⟨g, 0, none⟩) N dm /\ N <= dm /\ dm <= 9223372036854775807 /\ (w5.alloc (.cells #[.int .i64 (t0 : Int)] 3)).cell? ⟨w2.heap.size, 0, none⟩ = some v5 /\ Below w.heap.size w w5 /\ aY (fun b => b < w5.heap.size) w2.heap.size v5 M ((w5.alloc (.cells #[.int .i64 (t0 : Int)] 3)).alloc (.cells Z 3)) /\ w2.heap.size < w5.heap.size /\ g < w5.heap.size) := Lh fun w2 w4 w5 v4 v5 hb hk hn hk2 hm hn2 => by
   obtain ⟨g, dm, e, h1, h2, h3, h4⟩ := hm.place hne0;rw [<- hN] at e h3;have hs := hb.size;have hs1 : (w.alloc (zC K A n c B m d)).heap.size = w.heap.size + 1 := by simp
   have hs4 := hk.size;have hs5 := hk2.size;simp at hs4;have hb2 : Below w.heap.size w w2 := ae (ag _ _) hb;have hb4 : Below w.heap.size w w4 := ⟨hk.os.trans hb2.os, hk.tape.trans hb2.tape, hk.output.trans hb2.output, by omega, fun k hkk => (hk.block k (by simp; omega) (by omega) (by intro e; cases e)).trans ((heap_alloc_old w2 _ (by omega)).trans (hb2.block k hkk))⟩;have hb5 : Below w.heap.size w w5 := ⟨hk2.os.trans hb4.os, hk2.tape.trans hb4.tape, hk2.output.trans hb4.output, by omega, fun k hkk => (hk2.block k (by omega) (by omega) (fun e => by
    rcases hn with h | ⟨g, hg, hl⟩
    · rw [h] at e; cases e
    · rw [hg] at e; have := Option.some.inj e; simp at hl; omega)).trans (hb4.block k hkk)⟩
   refine ⟨g, dm, e, h3, by unfold maxLen at h4; exact h4, ((ag w5 _).cell (p := ⟨w2.heap.size, 0, none⟩) hm.box.lt).trans (hm.box.cell (j := 0) rfl), hb5, ?_, hm.box.lt, h2⟩;exact (hm.mono (q2 := fun b => b < w5.heap.size) fun b _ hb => hb).below (aB (ag _ _) _)
  clear h hcnt hL hV hK hv ht0 hM hqq hcp hok hlen hN hne0 hZ hr1 hn2;have hr1 : (w.alloc (zC K A n c B m d)).rangeAt w.heap.size 0 (zV K A n c B m d) := fun j v hv => by rw [Nat.zero_add]; exact iX (Below.refl _ _) j v hv
  go_enter Tryz.func28, Tryz.ntmps28
  go_upto_region 7 with (first
   |(refine aA rfl (.tmp 2) rfl w.heap.size (0) rfl K A B n c m d hr1 ?_)
   |(refine aA rfl (.tmp 2) rfl w.heap.size (0) rfl K A B n c m d hr4 ?_)
   |((with_reducible refine HVA.out.mono ?_); rintro e w2 hp; obtain ⟨rfl, hb⟩ := aN hp; have H2 := Lh hb; clear hp hb)
   |((with_reducible refine (HAD.out w2 H2.out).mono ?_); rintro e w4 hp; obtain ⟨v4, rfl, h1, h2, h3⟩ := jH hp; have H4 := Lh (And.intro h1 (And.intro h2 h3)); clear hp h1 h2 h3; have hr4 := (HLD.out w2 w4 v4 H2.out H4.out.1 H4.out.2.1 H4.out.2.2).1; have HL4 := Lh (HLD.out w2 w4 v4 H2.out H4.out.1 H4.out.2.1 H4.out.2.2).2)
   |((with_reducible refine HL4.out.mono ?_); rintro e w5 hp; obtain ⟨v5, rfl, h1, h2, h3⟩ := jH hp; obtain ⟨g, dm, hv5, hd1, hd2, hcm, h5⟩ := HW5.out w2 w4 w5 v4 v5 H2.out H4.out.2.1 H4.out.2.2 h2 h1 h3; subst hv5; have H5 := Lh h5; clear hp h1 h2 h3 h5))
  obtain ⟨mb, hmb⟩ : ∃ b, b = w2.heap.size := ⟨_, rfl⟩;obtain ⟨gr, hgr⟩ : ∃ b, b = w5.heap.size + 1 := ⟨_, rfl⟩;obtain ⟨x7, hx7⟩ : ∃ W, W = ((w5.alloc (.cells #[.int .i64 (t0 : Int)] 3)).alloc (.cells Z 3)) := ⟨_, rfl⟩;have H7 : Hid (aY (fun b => b < gr) mb (.slice (some ⟨g, 0, none⟩) N dm) M x7 /\ aa x7 gr (iv (List.replicate N 0)) 3 /\ dB (fun b => b ≠ gr) x7 [t0] (some ⟨w5.heap.size, 0, none⟩) 1 1 /\ Below w.heap.size w x7 /\ mb < gr /\ g < gr /\ w.heap.size <= gr) := Lh (by
   have h := H5.out;refine ⟨?_, ?_, ?_, ?_, by omega, by omega, by have := h.1.size; omega⟩
   ·rw [hx7, hmb];exact h.2.1.mono fun b hb _ => by omega
   ·rw [hx7, hgr];exact aa.at (w5.alloc (.cells #[.int .i64 (t0 : Int)] 3)) (iv (List.replicate N 0)) Z 3 _ HZ.out (by simp)
   ·rw [hx7];exact (bY.of_blk (l := [t0]) (p := fun b => b ≠ gr) ((aa.at w5 (iv (nl [t0])) _ 3 _ rfl rfl).alloc _) (by simp) (by omega)).toL
   ·rw [hx7];exact aB (aB h.1 _) _)
  clear hmk hcm hr1 hr4 HVA HAD HLD HL4 HW5 H4 H5;obtain ⟨ns, hns⟩ : ∃ b, b = w5.heap.size := ⟨_, rfl⟩;rw [<- hx7, <- hmb, <- hgr, <- hns];rw [<- hns] at H7;clear hx7 hmb hgr hns;have HFAR : Hid (∀ W, x7.grownBy W (some gr) -> Below w.heap.size w W) := Lh fun W hg => dJ H7.out.2.2.2.1 (row := some gr) hg (fun g hg => by have := Option.some.inj hg; have := H7.out.2.2.2.2.2.2; omega)
  have HMW : Hid (∀ W, x7.grownBy W (some gr) -> aY (fun b => b < gr) mb (.slice (some ⟨g, 0, none⟩) N dm) M W) := Lh fun W hg => H7.out.1.grown hg (by have := H7.out.2.2.2.2; omega) (fun e => by have h1 : g = gr := Option.some.inj e; have := H7.out.2.2.2.2; omega) (fun b hb e => by omega)
  have HSP : Hid (∀ (S : List Nat) (Rk : List Int) (i : Nat) A0 n0 c0 W, i <= 1000000000 -> x7.grownBy W (some gr) -> dB (fun b => b ≠ gr) W S A0 n0 c0 -> (∀ k ∈ S, k < N) -> aa W gr (iv Rk) 3 -> Rk.length = N -> (∀ k, k < N -> Rk.getD k 0 <= (i : Int)) -> Calls Tryz.prog 62 #[.pointer (some ⟨mb, 0, none⟩), .slice A0 n0 c0, .slice (some ⟨gr, 0, none⟩) N N, .int .i64 ((i : Int) + 1)] W (qp gr N ((i : Int) + 1) M S W)) := Lh fun S Rk i A0 n0 c0 W hi hg hS hlt hR hRl hRk => by
   have h7 := H7.out;exact zU _ mb gr N _ M S Rk _ (by omega) A0 n0 c0 W HN0.out.1 (by have := HN0.out; omega) (HMW.out W hg) (fun b hb => by omega) ⟨by omega, fun e => by have h1 : g = gr := Option.some.inj e; omega⟩ HM.out.1.nx HM.out.1.bit hS hlt hR hRl (fun k hk => by have := hRk k hk; omega)
  have HRD : Hid (∀ (L : List Nat) A0 c0 x W W0, x7.grownBy W (some gr) -> dB (fun b => W0 <= b) W L A0 L.length c0 -> L.Nodup -> (∀ k ∈ L, k < N) -> Calls Tryz.prog 61 #[.pointer (some ⟨mb, 0, none⟩), .slice A0 L.length c0, .int .i64 x] W (lq M x L qq W)) := Lh fun L A0 c0 x W W0 hg hL hnd hlt => by
   refine EI _ mb _ M L A0 L.length c0 qq x W (HMW.out W hg) (by have := HN0.out; omega) HM.out.1.nx HM.out.1.few HM.out.1.bit (hL.lt.mono fun b hb => hb.2) (fun k hk => by rw [<- HN0.out.1]; exact hlt k hk) ?_;have h1 := oJ N L hnd hlt;have h2 : L.length * qq <= 30001 * 30001 := Nat.mul_le_mul (by omega) HM.out.2.2.2.1;omega
  go_wp2_with fail
  go_loopg [7, 25] n2 (fun gq s7 s25 wr => ∃ (i : Nat) (now : List Nat) (A0 : Option Addr) (n0 c0 : Nat), i + gq = n2 /\ s25 = .int .i64 (i : Int) /\ s7 = .slice A0 n0 c0 /\ Hid (∃ Rk, dB (fun b => b ≠ gr) wr now A0 n0 c0 /\ (∀ k ∈ now, k < N) /\ now ≠ [] /\ aa wr gr (iv Rk) 3 /\ Rk.length = N /\ (∀ k, k < N -> Rk.getD k 0 <= (i : Int)) /\ x7.grownBy wr (some gr) /\ (Any M now (l.drop i) ↔ V = true)))
  case atStart =>
   refine ⟨0, [t0], _, _, _, by omega, rfl, rfl, Lh ⟨_, H7.out.2.2.1, fun k hk => ?_, by simp, H7.out.2.1, by simp, fun k hk => ?_, World.grownBy.refl _ _, HANY.out⟩⟩
   ·rw [List.mem_singleton.1 hk, HN0.out.1]; exact HM.out.2.1
   ·simp [List.getD, hk]
  case round =>
   obtain ⟨i, now, A0, n0, c0, hi, rfl, rfl, HI⟩ := hrel;obtain ⟨Rk, h1, h2, h3, h4, h5, h6, h7, h8⟩ := HI.out;have hi9 : i <= 1000000000 := by omega
   have HSC := Lh (HSP.out now Rk i A0 n0 c0 wr hi9 h7 h1 h2 h4 h5 h6);have HJ := Lh h8;have H77 := Lh h7;have HNW := Lh h3;clear h1 h2 h3 h4 h5 h6 h8 HI;have hrd := HL.out wr (fun b o hb => (HFAR.out wr h7).cell (p := ⟨b, o, none⟩) hb);clear h7
   by_cases hlt : i < n2
   ·obtain ⟨gg, rfl⟩ : ∃ g, gk = g + 1 := ⟨gk - 1, by omega⟩;have hil : i < l.length := by rw [<- HN2.out]; exact hlt
    obtain ⟨b, o, rfl, hcs⟩ := hrd.open (by intro e; have := congrArg List.length e; simp [iv] at this; rw [this] at hil; simp at hil);obtain ⟨x, hx⟩ : ∃ x, x = l[i] := ⟨_, rfl⟩;have hcx : wr.cell? ⟨b, o + i, none⟩ = some (.int .i64 x) := by rw [hx]; exact hcs i _ (by simp [iv, hil])
    have HDR : Hid (l.drop i = x :: l.drop (i + 1)) := Lh (by rw [hx]; exact List.drop_eq_getElem_cons hil);clear hx hcs hrd hil
    go_upto_region 11 with (first
      |((with_reducible refine HSC.out.mono ?_); rintro e w6 hp; obtain ⟨L6, A6, c6, Rk6, rfl, h1, h2, h3, h4, h5, h6, h7, h8⟩ := uH hp; have H6 := Lh (And.intro h2 (And.intro h5 (And.intro h6 (And.intro h7 (H77.out.trans h8))))); have HRC := Lh (HRD.out L6 A6 c6 x w6 _ (H77.out.trans h8) h1 h3 h4); clear hp h1 h2 h3 h4 h5 h6 h7 h8)
      |((with_reducible refine HRC.out.mono ?_); rintro e w8 hp; obtain ⟨R8, A8, n8, c8, rfl, h1, h2, h3, h4, h5⟩ := Ep hp; have hn8 := h1.len; subst hn8; have H8 := Lh (And.intro h1 (And.intro h2 (And.intro h3 h5))); clear hp h1 h2 h3 h4 h5))
    have HSTEP : Hid (Any M R8 (l.drop (i + 1)) ↔ V = true) := Lh (by
      have h1 := HJ.out;rw [HDR.out, any_cons H6.out.1 H8.out.2.1] at h1;exact h1)
    by_cases hR : R8 = []
    · have HF : Hid (V = false) := Lh (by
       cases V with
       | false => rfl
       | true => have h1 := HSTEP.out.2 rfl; rw [hR] at h1; exact absurd h1 Fh)
      have hR0 : R8.length = 0 := by rw [hR]; rfl
      have HB8 : Hid (Below w.heap.size w w8) := Lh ((HFAR.out w6 H6.out.2.2.2.2).trans (H8.out.2.2.2.mono (HFAR.out w6 H6.out.2.2.2.2).size));obtain ⟨nr, hnr⟩ : ∃ n, n = R8.length := ⟨_, rfl⟩;rw [<- hnr] at hR0 ⊢;clear hR hnr;subst hR0;go_wp2_with fail;go_ret;exact ⟨by have h := HF.out; subst h; rfl, HB8.out⟩
    · have hR0 : R8.length ≠ 0 := by intro e; exact hR (List.eq_nil_of_length_eq_zero e)
      obtain ⟨nr, hnr⟩ : ∃ n, n = R8.length := ⟨_, rfl⟩;have HNR := Lh hnr;rw [<- hnr] at hR0 ⊢;have e1 : ((nr : Int) == 0) = false := bF (by omega);have e2 : decide (nr = 0) = false := dF hR0;have e3 : decide ((nr : Int) = 0) = false := dF (by omega);have HRN : Hid (R8 ≠ []) := Lh hR;clear hR hR0 hnr;have HG8 : Hid (∃ Rk, dB (fun b => b ≠ gr) w8 R8 A8 nr c8 /\ (∀ k ∈ R8, k < N) /\ R8 ≠ [] /\ aa w8 gr (iv Rk) 3 /\ Rk.length = N /\ (∀ k, k < N -> Rk.getD k 0 <= ((i + 1 : Nat) : Int)) /\ x7.grownBy w8 (some gr) /\ (Any M R8 (l.drop (i + 1)) ↔ V = true)) := Lh (by
       have h6 := H6.out;have h8 := H8.out;have hgb : gr < w6.heap.size := h6.2.1.lt;exact ⟨Rk6, by rw [HNR.out]; exact h8.1.mono fun b hb => (by omega), fun k hk => by rw [HN0.out.1]; exact h8.2.2.1 k hk, HRN.out, h6.2.1.below h8.2.2.2 hgb, h6.2.2.1, fun k hk => by have := h6.2.2.2.1 k hk; push_cast; exact this, h6.2.2.2.2.trans ⟨h8.2.2.2.os, h8.2.2.2.tape, h8.2.2.2.output, h8.2.2.2.size, fun k hk _ => h8.2.2.2.block k hk⟩, HSTEP.out⟩)
      go_wp2_with fail
      go_roundg gg
      case rel => exact ⟨i + 1, R8, _, _, _, by omega, by go_num, rfl, HG8⟩
      case measure => omega
   ·obtain rfl : n2 = i := by omega
    have HDR : Hid (l.drop n2 = []) := Lh (by rw [HN2.out]; exact List.drop_length);have HCN : Hid (∀ (L : List Nat) A0 c0 W, dB (fun _ => True) W L A0 L.length c0 -> Calls Tryz.prog 63 #[.slice A0 L.length c0, .int .i64 0] W fun e w' => e = .returned (.bool ((nl L).contains 0)) /\ w' = W) := Lh fun L A0 c0 W h => by
      by_cases hl : L = []
      ·subst hl;have h1 := Tryz.slices_Contains_int_empty A0 c0 0 W;exact h1
      ·obtain ⟨b, o, e, hc⟩ := h.rd.open (j3 hl);subst e;have h1 := Tryz.slices_Contains_int b o L.length c0 (nl L) 0 W (by rw [tO]; exact Nat.le_refl _) (by have := h.cap; have := h.max; omega) (fun j hj => hc j _ (yG hj));rw [List.take_of_length_le (by rw [tO]; exact Nat.le_refl _)] at h1;exact h1
    clear hrd
    go_wp2_with (first
      |((with_reducible refine HSC.out.mono ?_); rintro e w6 hp; obtain ⟨L6, A6, c6, Rk6, rfl, h1, h2, h3, h4, h5, h6, h7, h8⟩ := uH hp; have H6 := Lh (And.intro h2 (H77.out.trans h8)); have HRC := Lh (HCN.out L6 A6 c6 w6 (h1.mono fun _ _ => trivial)); clear hp h1 h2 h3 h4 h5 h6 h7 h8)
      |((with_reducible refine HRC.out.mono ?_); rintro e w8 ⟨rfl, hw8⟩; have hw9 := hw8.symm; clear hw8; subst hw9))
    go_ret;refine ⟨?_, HFAR.out _ H6.out.2⟩;have h1 := HJ.out;rw [HDR.out, any_nil H6.out.1] at h1;have h2 : decide ((0 : Int) ∈ nl L6) = V := by
      rw [Bool.eq_iff_iff, <- h1];simp [nl]
    exact congrArg (fun v => Ending.returned (Value.bool v)) h2
end Go.Proofs.YtakcjlimbabbfaaGreatDoor
