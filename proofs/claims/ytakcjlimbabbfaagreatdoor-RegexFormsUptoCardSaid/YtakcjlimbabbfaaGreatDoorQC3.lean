/- Part of the proof of the laws of layer 7: what they share. -/
import Derived.Test.YtakcjlimbabbfaaGreatDoorQC2
set_option linter.unusedVariables false
set_option linter.unusedSimpArgs false
set_option maxRecDepth 1000000
set_option maxHeartbeats 8000000
namespace Go.Proofs.YtakcjlimbabbfaaGreatDoor
open Go.RowKit
open Alp
open Rgx
theorem ut {q : Nat -> Prop} {w : World} {g : Nat} {rs : List Rx} {xs : List Value} {T : TypeId} (k : Int) (hk : fM k) (h : aM q w xs rs) (hl : rs.length <= 1000000000) (hb : ae w g xs T) (hq : q g) : ak q w (.mk k [] rs) none 0 0 (pt g) rs.length rs.length :=
 ak.make hk (fun x hx => (by cases hx)) rfl (Nat.le_refl _) (Nat.zero_le _) (.inl rfl) (fun h => absurd rfl h) rfl (Nat.le_refl _) (by unfold maxLen; omega) (aM.e h fun j v hv => by rw [Nat.zero_add]; exact hb.cell hv) (fun _ b o e => by
  obtain ⟨rfl, rfl⟩ : g = b /\ 0 = o := by simpa using e
  exact hq)
theorem Ro (X : Lx) (hx : sU X) (N : Nat) (HA : xu X N) (q : Nat -> Prop) (Q : PS) (w : World) (jq : ∀ b, b < X.w0.heap.size -> q b) (h : bH X q Q w) (hk : Q.k = 2 \/ Q.k = 40) (ax : iP Q) (hN : X.s.length - Q.st < N + 1) : Calls Tryz.prog 155 #[.pointer (pt X.pb)] w (iI qb X q Q w) := by
 rcases hk with hk | hk
 ·exact P9 X hx q Q w jq h hk
 ·exact V4 X hx N HA q Q w jq h hk ax hN
theorem Tp (X : Lx) (hx : sU X) (N : Nat) (HA : xu X N) (q : Nat -> Prop) (Q : PS) (w : World) (jq : ∀ b, b < X.w0.heap.size -> q b) (rJ : ∀ b, q b -> b < w.heap.size) (h : bH X q Q w) (hk : Q.k = 2 \/ Q.k = 40) (ax : iP Q) (hN : X.s.length - Q.st < N + 1) : Calls Tryz.prog 130 #[.pointer (pt X.pb)] w (iI C8 X q Q w) := by
 have hlt := h.lts;have hs1 : (w.alloc zR).heap.size = w.heap.size + 1 := by simp
 have lT : Bw w (w.alloc zR) := ai _ _;have hb1 : ae (w.alloc zR) w.heap.size zL 25 := ae.at w zL _ 25 _ rfl rfl;have su := LH (∀ q Q W, bH X q Q W -> Cz 66 #[.pointer (pt X.pb)] W (vR X q Q W)) fun q Q W hp => CZ X hx q Q W hp
 have HATM := LH (Cz 155 #[.pointer (pt X.pb)] (w.alloc zR) (iI qb X q Q (w.alloc zR))) (Ro X hx N HA q Q (w.alloc zR) jq (h.below lT) hk ax hN);have HX := Lh (And.intro hlt (And.intro jq (And.intro rJ ax)));have HST := LH (∀ w2 r Q1 A4 n4 c4 B4 m4 d4, qb X Q r Q1 -> ak (fun b => (q b \/ (w.alloc zR).heap.size <= b) /\ b ≠ X.pb /\ b ≠ X.ab) w2 r A4 n4 c4 B4 m4 d4 -> bH X (fun b => q b \/ (w.alloc zR).heap.size <= b) Q1 w2 -> Kq X (w.alloc zR) w2 -> ae (w2.alloc zR) w2.heap.size zL 25 /\ ∀ W, aT (w2.alloc zR) W w2.heap.size (zV r.kind A4 n4 c4 B4 m4 d4) 25 -> (∃ a Q0, PR X 3 [] Q a Q0 /\ ∀ x Q2, PR X 2 [r] Q1 x Q2 -> PR X 2 [a] Q0 x Q2) /\ ak (fun b => (fun b => (q b \/ w.heap.size + 1 <= b) /\ b ≠ w2.heap.size) b /\ b ≠ X.pb /\ b ≠ X.ab) W r A4 n4 c4 B4 m4 d4 /\ bH X (fun b => (q b \/ w.heap.size + 1 <= b) /\ b ≠ w2.heap.size) Q1 W /\ Kq X (w.alloc zR) W /\ ae W w2.heap.size (zV r.kind A4 n4 c4 B4 m4 d4) 25 /\ iP Q1 /\ w2.heap.size < W.heap.size) fun w2 r Q1 A4 n4 c4 B4 m4 d4 g1 g2 g3 g4 => by
  rw [hs1] at g2 g3;refine ⟨ae.at w2 zL _ 25 _ rfl rfl, fun W hst => ?_⟩;have bq : Bw w2 W := hst.below (ai w2 _) (Nat.le_refl _);have hpm := (PR.mono g1 ax).1;exact ⟨⟨r, Q1, g1, fun x Q2 hh => hh⟩, (g2.lt7.below bq).mono fun b hb => ⟨⟨hb.1.1, by omega⟩, hb.1.2⟩, (g3.mono (q2 := (fun b => (q b \/ w.heap.size + 1 <= b) /\ b ≠ w2.heap.size)) fun b hb hbl => ⟨hb, by omega⟩).below bq, g4.tr (Kq.of_below bq), hst.1, hpm, hst.1.lt⟩
 have bK := Lh hb1;clear hx HA jq rJ h hk ax hN hlt hs1 lT hb1;go_enter Tryz.func130, Tryz.ntmps130
 go_wp2_with (first
  |((with_reducible refine HATM.out.mono ?_); rintro e w2 hp; obtain ⟨r, Q1, A4, n4, c4, B4, m4, d4, rfl, g1, g2, g3, g4⟩ := xC hp; have tV := Lh (HST.out w2 r Q1 A4 n4 c4 B4 m4 d4 g1 g2 g3 g4); have HK2 := Lh g4.size; clear hp g1 g2 g3 g4)
  |(refine wB rfl 25 (.tmp 3) (.tmp 5) rfl w2.heap.size 0 rfl (zV r.kind A4 n4 c4 B4 m4 d4) rfl tV.out.1 3 au ?_; intro x5 bz; have H5 := Lh (tV.out.2 x5 bz); clear bz))
 try simp only [Act.put]
 go_loopg [10] (X.s.length + 1) (fun gq s10 wr => ∃ (r : Rx) (Q1 : PS) (A4 : Option Addr) (n4 c4 : Nat) (B4 : Option Addr) (m4 d4 : Nat), X.s.length - Q1.st + 1 <= gq /\ Hid ((∃ a Q0, PR X 3 [] Q a Q0 /\ ∀ x Q2, PR X 2 [r] Q1 x Q2 -> PR X 2 [a] Q0 x Q2) /\ ak (fun b => (fun b => (q b \/ w.heap.size + 1 <= b) /\ b ≠ w2.heap.size) b /\ b ≠ X.pb /\ b ≠ X.ab) wr r A4 n4 c4 B4 m4 d4 /\ bH X (fun b => (q b \/ w.heap.size + 1 <= b) /\ b ≠ w2.heap.size) Q1 wr /\ Kq X (w.alloc zR) wr /\ ae wr w2.heap.size (zV r.kind A4 n4 c4 B4 m4 d4) 25 /\ iP Q1 /\ w2.heap.size < wr.heap.size))
 case atStart => exact ⟨r, Q1, A4, n4, c4, B4, m4, d4, by omega, H5⟩
 case round =>
  obtain ⟨r, Q1, A4, n4, c4, B4, m4, d4, hgk, HI⟩ := hrel;obtain ⟨gg, rfl⟩ : ∃ g, gk = g + 1 := ⟨gk - 1, by omega⟩;obtain ⟨k1, ji⟩ := eX Q1.k;obtain ⟨A, n, c, B, m, d, e1, e2⟩ := HI.out.2.2.1.c5;have rD := e1.cell (j := 1) rfl;rw [<- ji] at rD;have je := Lh ji;have hle := HI.out.2.2.1.hle;have hr1 : wr.rangeAt w2.heap.size 0 (zV r.kind A4 n4 c4 B4 m4 d4) := fun j u hu => by rw [Nat.zero_add]; exact HI.out.2.2.2.2.1.cell hu
  clear e1 e2 ji
  by_cases h42 : k1 = 42
  ·have hst : Q1.st < Q1.p := HI.out.2.2.2.2.2.1.2 (by rw [<- je.out]; omega) (by rw [<- je.out]; omega);have nD := LH (ae (wr.alloc (zC r.kind A4 n4 c4 B4 m4 d4)) w2.heap.size (zV r.kind A4 n4 c4 B4 m4 d4) 25 /\ ∀ W, aT (wr.alloc (zC r.kind A4 n4 c4 B4 m4 d4)) W w2.heap.size (zV 5 none 0 0 (pt wr.heap.size) 1 1) 25 -> bH X (fun b => (q b \/ w.heap.size + 1 <= b) /\ b ≠ w2.heap.size) Q1 W /\ ∀ W6, bH X (fun b => b < X.w0.heap.size \/ W.heap.size <= b) (cZ X Q1) W6 -> Kq X W W6 -> ∃ A5 n5 c5 B5 m5 d5, (∃ a Q0, PR X 3 [] Q a Q0 /\ ∀ x Q2, PR X 2 [(Rx.mk 5 [] [r])] (cZ X Q1) x Q2 -> PR X 2 [a] Q0 x Q2) /\ ak (fun b => (fun b => (q b \/ w.heap.size + 1 <= b) /\ b ≠ w2.heap.size) b /\ b ≠ X.pb /\ b ≠ X.ab) W6 (Rx.mk 5 [] [r]) A5 n5 c5 B5 m5 d5 /\ bH X (fun b => (q b \/ w.heap.size + 1 <= b) /\ b ≠ w2.heap.size) (cZ X Q1) W6 /\ Kq X (w.alloc zR) W6 /\ ae W6 w2.heap.size [.int .i64 (Rx.mk 5 [] [r]).kind, .slice A5 n5 c5, .slice B5 m5 d5] 25 /\ iP (cZ X Q1) /\ w2.heap.size < W6.heap.size) (by
     have hlt := HX.out.1;have hi := HI.out;have hsz : (wr.alloc (zC r.kind A4 n4 c4 B4 m4 d4)).heap.size = wr.heap.size + 1 := by simp
     refine ⟨hi.2.2.2.2.1.alloc _, fun W hst => ?_⟩;have bq : ae (wr.alloc (zC r.kind A4 n4 c4 B4 m4 d4)) wr.heap.size (zV r.kind A4 n4 c4 B4 m4 d4) 25 := ae.at wr _ _ 25 _ rfl rfl;have hk2 : w.heap.size + 1 <= w2.heap.size := by have := HK2.out; simp at this; omega
     have hrow := hst.other bq (by omega);have bO := (hi.2.1.lt7.below (ai wr (zC r.kind A4 n4 c4 B4 m4 d4))).grown (dG hst) (fun b hb e => hb.1.1.2 (Option.some.inj e));have hps := (hi.2.2.1.below (ai wr (zC r.kind A4 n4 c4 B4 m4 d4))).grown (dG hst) (by omega) (by omega) (by omega) (by omega) (by omega) (by omega) (fun b hb => hb.2);refine ⟨hps, fun W6 hp gJ => ⟨none, 0, 0, some ⟨wr.heap.size, 0, none⟩, 1, 1, ?_⟩⟩;obtain ⟨a, Q0, p1, p2⟩ := hi.1;have jq := HX.out.2.1;have rJ := HX.out.2.2.1;have hsW : W.heap.size = wr.heap.size + 1 := by rw [hst.2.2.1, hsz]
     have yM : Kq X (w.alloc zR) W := (hi.2.2.2.1.tr (Kq.of_below (ai wr (zC r.kind A4 n4 c4 B4 m4 d4)))).stored (by simp; omega) hst;have za : ak (fun b => (fun b => (q b \/ w.heap.size + 1 <= b) /\ b ≠ w2.heap.size) b /\ b ≠ X.pb /\ b ≠ X.ab) W (Rx.mk 5 [] [r]) none 0 0 (pt wr.heap.size) 1 1 := ut 5 (by constructor <;> decide) (aM.one (bO.mono fun b hb => hb.1).q) (by simp) hrow ⟨⟨.inr (by omega), by omega⟩, by omega, by omega⟩;refine ⟨⟨a, Q0, p1, fun x Q2 hh => p2 x Q2 (.star (by rw [<- je.out]; exact h42) hh)⟩, za.kq gJ (fun b hb => hb.2), hp.mono fun b hb _ => ?_, yM.tr gJ, gJ.blk hst.1 (by omega) (by omega), jw X Q1, by have := gJ.size; omega⟩
     rcases hb with hb | hb
     · exact ⟨.inl (jq b hb), by omega⟩
     · exact ⟨.inr (by omega), by omega⟩)
   subst h42
   go_wp2_with (first
     | (refine aG rfl (.tmp 3) rfl w2.heap.size (0) rfl r.kind A4 B4 n4 c4 m4 d4 hr1 ?_)
     | (refine wB rfl 25 (.tmp 3) (.tmp 16) rfl w2.heap.size 0 rfl (zV 5 none 0 0 (pt wr.heap.size) 1 1) rfl nD.out.1 3 au ?_; intro x5 bz; have H5 := Lh (nD.out.2 x5 bz); have HAD := Lh (su.out _ Q1 x5 H5.out.1); clear bz)
     | ((with_reducible refine HAD.out.mono ?_); rintro e x6 hp; obtain ⟨rfl, g1, g2⟩ := xR hp; have H6 := Lh (H5.out.2 x6 g1 g2); clear hp g1 g2))
   obtain ⟨A5, n5, c5, B5, m5, d5, hi5⟩ := H6.out
   go_roundg gg
   case rel => exact ⟨.mk 5 [] [r], cZ X Q1, A5, n5, c5, B5, m5, d5, by show X.s.length - Q1.p + 1 <= gg; omega, Lh hi5⟩
   case measure => omega
  by_cases h63 : k1 = 63
  ·have hst : Q1.st < Q1.p := HI.out.2.2.2.2.2.1.2 (by rw [<- je.out]; omega) (by rw [<- je.out]; omega);have nD := LH (ae (wr.alloc (.cells #[.int .i64 1, .slice none 0 0, .slice none 0 0, .int .i64 r.kind, .slice A4 n4 c4, .slice B4 m4 d4] 25)) w2.heap.size (zV r.kind A4 n4 c4 B4 m4 d4) 25 /\ ∀ W, aT (wr.alloc (.cells #[.int .i64 1, .slice none 0 0, .slice none 0 0, .int .i64 r.kind, .slice A4 n4 c4, .slice B4 m4 d4] 25)) W w2.heap.size (zV 4 none 0 0 (pt wr.heap.size) 2 2) 25 -> bH X (fun b => (q b \/ w.heap.size + 1 <= b) /\ b ≠ w2.heap.size) Q1 W /\ ∀ W6, bH X (fun b => b < X.w0.heap.size \/ W.heap.size <= b) (cZ X Q1) W6 -> Kq X W W6 -> ∃ A5 n5 c5 B5 m5 d5, (∃ a Q0, PR X 3 [] Q a Q0 /\ ∀ x Q2, PR X 2 [(Rx.mk 4 [] [Rx.mk 1 [] [], r])] (cZ X Q1) x Q2 -> PR X 2 [a] Q0 x Q2) /\ ak (fun b => (fun b => (q b \/ w.heap.size + 1 <= b) /\ b ≠ w2.heap.size) b /\ b ≠ X.pb /\ b ≠ X.ab) W6 (Rx.mk 4 [] [Rx.mk 1 [] [], r]) A5 n5 c5 B5 m5 d5 /\ bH X (fun b => (q b \/ w.heap.size + 1 <= b) /\ b ≠ w2.heap.size) (cZ X Q1) W6 /\ Kq X (w.alloc zR) W6 /\ ae W6 w2.heap.size [.int .i64 (Rx.mk 4 [] [Rx.mk 1 [] [], r]).kind, .slice A5 n5 c5, .slice B5 m5 d5] 25 /\ iP (cZ X Q1) /\ w2.heap.size < W6.heap.size) (by
     have hlt := HX.out.1;have hi := HI.out;have hsz : (wr.alloc (.cells #[.int .i64 1, .slice none 0 0, .slice none 0 0, .int .i64 r.kind, .slice A4 n4 c4, .slice B4 m4 d4] 25)).heap.size = wr.heap.size + 1 := by simp
     refine ⟨hi.2.2.2.2.1.alloc _, fun W hst => ?_⟩;have bq : ae (wr.alloc (.cells #[.int .i64 1, .slice none 0 0, .slice none 0 0, .int .i64 r.kind, .slice A4 n4 c4, .slice B4 m4 d4] 25)) wr.heap.size [.int .i64 1, .slice none 0 0, .slice none 0 0, .int .i64 r.kind, .slice A4 n4 c4, .slice B4 m4 d4] 25 := ae.at wr _ _ 25 _ rfl rfl;have hk2 : w.heap.size + 1 <= w2.heap.size := by have := HK2.out; simp at this; omega
     have hrow := hst.other bq (by omega);have bO := (hi.2.1.lt7.below (ai wr (.cells #[.int .i64 1, .slice none 0 0, .slice none 0 0, .int .i64 r.kind, .slice A4 n4 c4, .slice B4 m4 d4] 25))).grown (dG hst) (fun b hb e => hb.1.1.2 (Option.some.inj e));have hps := (hi.2.2.1.below (ai wr (.cells #[.int .i64 1, .slice none 0 0, .slice none 0 0, .int .i64 r.kind, .slice A4 n4 c4, .slice B4 m4 d4] 25))).grown (dG hst) (by omega) (by omega) (by omega) (by omega) (by omega) (by omega) (fun b hb => hb.2);refine ⟨hps, fun W6 hp gJ => ⟨none, 0, 0, some ⟨wr.heap.size, 0, none⟩, 2, 2, ?_⟩⟩;obtain ⟨a, Q0, p1, p2⟩ := hi.1;have jq := HX.out.2.1;have rJ := HX.out.2.2.1;have hsW : W.heap.size = wr.heap.size + 1 := by rw [hst.2.2.1, hsz]
     have yM : Kq X (w.alloc zR) W := (hi.2.2.2.1.tr (Kq.of_below (ai wr (.cells #[.int .i64 1, .slice none 0 0, .slice none 0 0, .int .i64 r.kind, .slice A4 n4 c4, .slice B4 m4 d4] 25)))).stored (by simp; omega) hst;have za : ak (fun b => (fun b => (q b \/ w.heap.size + 1 <= b) /\ b ≠ w2.heap.size) b /\ b ≠ X.pb /\ b ≠ X.ab) W (Rx.mk 4 [] [Rx.mk 1 [] [], r]) none 0 0 (pt wr.heap.size) 2 2 := ut 4 (by constructor <;> decide) (aM.app (aM.one (ak.flat _ W (K := 1) (by constructor <;> decide)).q) (aM.one (bO.mono fun b hb => hb.1).q)) (by simp) hrow ⟨⟨.inr (by omega), by omega⟩, by omega, by omega⟩;refine ⟨⟨a, Q0, p1, fun x Q2 hh => p2 x Q2 (.opt (by rw [<- je.out]; exact h63) hh)⟩, za.kq gJ (fun b hb => hb.2), hp.mono fun b hb _ => ?_, yM.tr gJ, gJ.blk hst.1 (by omega) (by omega), jw X Q1, by have := gJ.size; omega⟩
     rcases hb with hb | hb
     · exact ⟨.inl (jq b hb), by omega⟩
     · exact ⟨.inr (by omega), by omega⟩)
   subst h63
   go_wp2_with (first
     | (refine aG rfl (.tmp 3) rfl w2.heap.size (0) rfl r.kind A4 B4 n4 c4 m4 d4 hr1 ?_)
     | (refine wB rfl 25 (.tmp 3) (.tmp 22) rfl w2.heap.size 0 rfl (zV 4 none 0 0 (pt wr.heap.size) 2 2) rfl nD.out.1 3 au ?_; intro x5 bz; have H5 := Lh (nD.out.2 x5 bz); have HAD := Lh (su.out _ Q1 x5 H5.out.1); clear bz)
     | ((with_reducible refine HAD.out.mono ?_); rintro e x6 hp; obtain ⟨rfl, g1, g2⟩ := xR hp; have H6 := Lh (H5.out.2 x6 g1 g2); clear hp g1 g2))
   obtain ⟨A5, n5, c5, B5, m5, d5, hi5⟩ := H6.out
   go_roundg gg
   case rel => exact ⟨.mk 4 [] [.mk 1 [] [], r], cZ X Q1, A5, n5, c5, B5, m5, d5, by show X.s.length - Q1.p + 1 <= gg; omega, Lh hi5⟩
   case measure => omega
  have a1 : ((k1 : Int) == 42) = false := bF (by omega);have b1 : ((k1 : Int) == 63) = false := bF (by omega);have iq := LH (ae wr w.heap.size zL 25 /\ ∀ W, aT wr W w.heap.size (zV r.kind A4 n4 c4 B4 m4 d4) 25 -> iI C8 X q Q w (.returned (.agg #[.int .i64 r.kind, .slice A4 n4 c4, .slice B4 m4 d4])) W /\ ae W w.heap.size (zV r.kind A4 n4 c4 B4 m4 d4) 25) (by
   have hlt := HX.out.1;have hi := HI.out;obtain ⟨a, Q0, p1, p2⟩ := hi.1;refine ⟨hi.2.2.2.1.blk bK.out (by omega) (by omega), fun W hst => ⟨⟨r, Q1, A4, n4, c4, B4, m4, d4, rfl, ⟨a, Q0, p1, p2 r Q1 (.none (by rw [<- je.out]; exact h42) (by rw [<- je.out]; exact h63))⟩, ?_, ?_, ?_⟩, hst.1⟩⟩
   · exact (hi.2.1.grown (dG hst) (fun b hb e => by have h2 := Option.some.inj e; have h1 := HX.out.2.2.1 b; rcases hb.1.1 with h | h; (have := h1 h; omega); omega)).mono fun b hb => ⟨hb.1.1.imp id fun h => by omega, hb.2⟩
   · exact (bH.stored hlt hi.2.2.1 (Nat.le_refl _) hst (fun b hb => by have h1 := HX.out.2.2.1 b; rcases hb.1 with h | h; (have := h1 h; omega); omega)).mono fun b hb _ => hb.1.imp id fun h => by omega
   · exact ((Kq.of_below (ai w _)).tr hi.2.2.2.1).stored (Nat.le_refl _) hst)
  clear h42 h63
  go_wp2_with (first
   | (refine aG rfl (.tmp 3) rfl w2.heap.size (0) rfl r.kind A4 B4 n4 c4 m4 d4 hr1 ?_)
   | (refine wB rfl 25 (.tmp 2) (.tmp 11) rfl w.heap.size 0 rfl (zV r.kind A4 n4 c4 B4 m4 d4) rfl iq.out.1 3 au ?_; intro x5 bz; have bf := Lh (iq.out.2 x5 bz); clear bz))
  exact cK rfl w.heap.size rfl (C := (zV r.kind A4 n4 c4 B4 m4 d4)) (T := 25) bf.out.2 _ Tryz.underlying25 rfl au rfl bf.out.1
theorem OV {X : Lx} {w w1 : World} {base : Nat} {E : TypeId} {size n : Nat} {v : Value} {xs : List Value} (h : w.ownsRow base E size v n xs) (hk : Kq X w w1) (h1 : X.pb < base) (h2 : X.ab < base) : w1.ownsRow base E size v n xs := by
 obtain ⟨a, hb | ⟨g, cap, cells, e1, e2, e3, e4⟩⟩ := h
 ·exact ⟨a, .inl hb⟩
 ·have hg : g < w.heap.size := Array.getElem?_eq_some_iff.1 e3 |>.1;exact ⟨a, .inr ⟨g, cap, cells, e1, e2, (hk.block g hg (by omega) (by omega)).trans e3, e4⟩⟩
theorem bH.grownO {X : Lx} {q : Nat -> Prop} {Q : PS} {w w1 : World} (h : bH X q Q w) {G : Option Nat} (hg : w.grownBy w1 G) (hG : ∀ g, G = some g -> X.w0.heap.size <= g /\ g ≠ X.pb /\ g ≠ X.ab /\ g ≠ X.sb /\ g ≠ X.lb /\ g ≠ X.eb) (hq : ∀ b, q b -> some b ≠ G) : bH X q Q w1 := by
 cases G with
 |none => exact h.below ⟨hg.os, hg.tape, hg.output, hg.size, fun k hk => hg.block k hk (by simp)⟩
 |some g =>
  obtain ⟨a1, a2, a3, a4, a5, a6⟩ := hG g rfl;exact h.grown hg a1 a2 a3 a4 a5 a6 fun b hb e => hq b hb (by rw [e])
theorem Qr (X : Lx) (hx : sU X) (N : Nat) (HA : xu X N) (q : Nat -> Prop) (Q : PS) (w : World) (jq : ∀ b, b < X.w0.heap.size -> q b) (rJ : ∀ b, q b -> b < w.heap.size) (h : bH X q Q w) (ax : iP Q) (hN : X.s.length - Q.st < N + 1) : Calls Tryz.prog 99 #[.pointer (pt X.pb)] w (iI xP X q Q w) := by
 obtain ⟨i0, aZ, hz0, hz1, hz2⟩ := info_parts lG;have hlt := h.lts;have hs1 : (w.alloc zR).heap.size = w.heap.size + 1 := by simp
 have lT : Bw w (w.alloc zR) := ai _ _;have hb1 : ae (w.alloc zR) w.heap.size zL 25 := ae.at w zL _ 25 _ rfl rfl;have HREP := LH (∀ q Q w, (∀ b, b < X.w0.heap.size -> q b) -> (∀ b, q b -> b < w.heap.size) -> bH X q Q w -> (Q.k = 2 \/ Q.k = 40) -> iP Q -> X.s.length - Q.st < N + 1 -> Cz 130 #[.pointer (pt X.pb)] w (iI C8 X q Q w)) fun q Q w a b c d e f => Tp X hx N HA q Q w a b c d e f
 have HX := Lh (And.intro hlt (And.intro jq (And.intro rJ ax)));have HN := LH (X.s.length - Q.st < N + 1 /\ X.s.length <= 1000000) ⟨hN, hx.hs⟩;have bK := Lh hb1;have H1 := LH ((∀ x Q9, PR X 1 (([] : List Rx)) Q x Q9 -> PR X 1 [] Q x Q9) /\ aD (fun b => (q b \/ w.heap.size + 1 <= b) /\ b ≠ X.pb /\ b ≠ X.ab) (w.heap.size + 1) (.slice none 0 0) (([] : List Rx)) (w.alloc zR) /\ bH X (fun b => (q b \/ w.heap.size + 1 <= b) /\ some b ≠ Value.ownBlock (.slice none 0 0)) Q (w.alloc zR) /\ Kq X (w.alloc zR) (w.alloc zR) /\ iP Q /\ (([] : List Rx)).length + Q.st <= Q.st) ⟨fun x Q2 hh => hh, aD.nil _ _ _, (h.below lT).mono fun b hb _ => ⟨.inl hb, fun e => by cases e⟩, Kq.refl _ _, ax, by simp⟩;clear hx HA jq rJ h ax hN hlt hs1 lT hb1;go_enter Tryz.func99, Tryz.ntmps99;go_wp2_with fail
 go_loopg [3] (X.s.length + 1) (fun gq s3 wr => ∃ (rs : List Rx) (Q1 : PS), X.s.length - Q1.st + 1 <= gq /\ Hid ((∀ x Q9, PR X 1 (rs) Q1 x Q9 -> PR X 1 [] Q x Q9) /\ aD (fun b => (q b \/ w.heap.size + 1 <= b) /\ b ≠ X.pb /\ b ≠ X.ab) (w.heap.size + 1) s3 (rs) wr /\ bH X (fun b => (q b \/ w.heap.size + 1 <= b) /\ some b ≠ Value.ownBlock s3) Q1 wr /\ Kq X (w.alloc zR) wr /\ iP Q1 /\ (rs).length + Q.st <= Q1.st))
 case atStart => exact ⟨[], Q, by omega, H1⟩
 case round =>
  obtain ⟨rs, Q1, hgk, HI⟩ := hrel;obtain ⟨gg, rfl⟩ : ∃ g, gk = g + 1 := ⟨gk - 1, by omega⟩;obtain ⟨B5, d5, hv, J7, GJ, J9, _⟩ := HI.out.2.1.e;obtain ⟨N5, bD⟩ := eX rs.length;rw [<- bD] at hv J7;subst hv;have bB := Lh bD;obtain ⟨k1, ji⟩ := eX Q1.k;obtain ⟨A, n, c, B, m, d, e1, e2⟩ := HI.out.2.2.1.c5;have rD := e1.cell (j := 1) rfl;rw [<- ji] at rD;have je := Lh ji;have hle := HI.out.2.2.1.hle;have lQ : N5 <= 1000000 := by have := HI.out.2.2.2.2.2; have := HI.out.2.2.2.2.1.1; have := HN.out.2; omega
  clear e1 e2 ji J9 bD
  by_cases kF : k1 = 2 \/ k1 = 40
  ·have hst : Q1.st < Q1.p := HI.out.2.2.2.2.1.2 (by rw [<- je.out]; omega) (by rw [<- je.out]; omega);have AR := LH (w.heap.size + 1 <= wr.heap.size) (by have h1 := HI.out.2.2.2.1.size; simp at h1; exact h1);have HQ7 := LH (Cz 130 #[.pointer (pt X.pb)] wr (iI C8 X (fun b => (fun b => (q b \/ w.heap.size + 1 <= b) /\ some b ≠ Value.ownBlock (.slice B5 N5 d5)) b /\ b < wr.heap.size) Q1 wr)) (by
    obtain ⟨xs, hC, hO⟩ := HI.out.2.1;refine HREP.out _ Q1 wr (fun b hb => ⟨⟨.inl (HX.out.2.1 b hb), fun e => ?_⟩, ?_⟩) (fun b hb => hb.2) (HI.out.2.2.1.mono fun b hb hl => ⟨hb, hl⟩) (by rw [<- je.out]; exact kF) HI.out.2.2.2.2.1 (by have := HI.out.2.2.2.2.2; have := HN.out.1; omega)
    ·have h1 := (hO.lt b e.symm).1;have := HX.out.1.1;omega
    ·have := HX.out.1.1; have := AR.out; omega)
   have Bb := LH (∀ e w4, iI C8 X (fun b => (fun b => (q b \/ w.heap.size + 1 <= b) /\ some b ≠ Value.ownBlock (.slice B5 N5 d5)) b /\ b < wr.heap.size) Q1 wr e w4 -> ∃ r Q2 A4 n4 c4 B4 m4 d4 xs, e = .returned (.agg #[.int .i64 r.kind, .slice A4 n4 c4, .slice B4 m4 d4]) /\ (PR X 1 (rs ++ [r]) Q2 = PR X 1 (rs ++ [r]) Q2) /\ (∀ x Q3, PR X 1 (rs ++ [r]) Q2 x Q3 -> PR X 1 [] Q x Q3) /\ Q1.st < Q2.st /\ iP Q2 /\ w4.ownsRow (w.heap.size + 1) 25 3 (.slice B5 N5 d5) N5 xs /\ aM (fun b => (fun b => (q b \/ w.heap.size + 1 <= b) /\ b ≠ X.pb /\ b ≠ X.ab) b /\ some b ≠ Value.ownBlock (.slice B5 N5 d5)) w4 xs rs /\ ak (fun b => (fun b => (q b \/ w.heap.size + 1 <= b) /\ b ≠ X.pb /\ b ≠ X.ab) b /\ some b ≠ Value.ownBlock (.slice B5 N5 d5)) w4 r A4 n4 c4 B4 m4 d4 /\ bH X (fun b => (q b \/ w.heap.size + 1 <= b) /\ some b ≠ Value.ownBlock (.slice B5 N5 d5)) Q2 w4 /\ Kq X (w.alloc zR) w4) fun e w4 hh => by
    obtain ⟨r, Q2, A4, n4, c4, B4, m4, d4, rfl, ⟨a, Q0, p3, p2⟩, g2, g3, g4⟩ := xC hh;obtain ⟨xs, hC, hO⟩ := HI.out.2.1;have hlt := HX.out.1;have gJ : Q1.k = 2 \/ Q1.k = 40 := by rw [<- je.out]; exact kF
    have ax := HI.out.2.2.2.2.1;have m3 := p3.mono ax;have m2 := p2.mono m3.1;have ml := p3.atom_lt gJ ax;have Bc : ∀ b, wr.heap.size <= b -> some b ≠ Value.ownBlock (.slice B5 N5 d5) := fun b hb e => by
     have := (hO.lt b e.symm).2;omega
    rw [<- bB.out] at hO;refine ⟨r, Q2, A4, n4, c4, B4, m4, d4, xs, rfl, rfl, fun x Q3 hx3 => HI.out.1 x Q3 (.seqGo gJ p3 p2 hx3), by omega, m2.1, OV hO g4 (by omega) (by omega), (hC.lt.keep fun b o hb => g4.cell hb.2 hb.1.1.2.1 hb.1.1.2.2).mono fun b hb => hb.1, g2.mono fun b hb => ?_, g3.mono fun b hb _ => ?_, HI.out.2.2.2.1.tr g4⟩
    ·rcases hb.1 with hb1 | hb1
     ·exact ⟨⟨hb1.1.1, hb.2⟩, hb1.1.2⟩
     ·exact ⟨⟨.inr (by have := AR.out; omega), hb.2⟩, Bc b hb1⟩
    ·rcases hb with hb1 | hb1
     ·exact hb1.1
     ·exact ⟨.inr (by have := AR.out; omega), Bc b hb1⟩
   have mO := LH (∀ w4 r Q2 A4 n4 c4 B4 m4 d4 xs, (PR X 1 (rs ++ [r]) Q2 = PR X 1 (rs ++ [r]) Q2) /\ (∀ x Q3, PR X 1 (rs ++ [r]) Q2 x Q3 -> PR X 1 [] Q x Q3) /\ Q1.st < Q2.st /\ iP Q2 /\ w4.ownsRow (w.heap.size + 1) 25 3 (.slice B5 N5 d5) N5 xs /\ aM (fun b => (fun b => (q b \/ w.heap.size + 1 <= b) /\ b ≠ X.pb /\ b ≠ X.ab) b /\ some b ≠ Value.ownBlock (.slice B5 N5 d5)) w4 xs rs /\ ak (fun b => (fun b => (q b \/ w.heap.size + 1 <= b) /\ b ≠ X.pb /\ b ≠ X.ab) b /\ some b ≠ Value.ownBlock (.slice B5 N5 d5)) w4 r A4 n4 c4 B4 m4 d4 /\ bH X (fun b => (q b \/ w.heap.size + 1 <= b) /\ some b ≠ Value.ownBlock (.slice B5 N5 d5)) Q2 w4 /\ Kq X (w.alloc zR) w4 -> (w.heap.size + 1) <= (w4.alloc (zC r.kind A4 n4 c4 B4 m4 d4)).heap.size /\ ∀ v9 w9, w9.ownsRow (w.heap.size + 1) 25 3 v9 (N5 + 1) (xs ++ (zV r.kind A4 n4 c4 B4 m4 d4)) -> (w4.alloc (zC r.kind A4 n4 c4 B4 m4 d4)).grownBy w9 (Value.ownBlock (.slice B5 N5 d5)) -> (v9.ownBlock = Value.ownBlock (.slice B5 N5 d5) \/ v9.ownBlock = some (w4.alloc (zC r.kind A4 n4 c4 B4 m4 d4)).heap.size) -> (∀ x Q9, PR X 1 (rs ++ [r]) Q2 x Q9 -> PR X 1 [] Q x Q9) /\ aD (fun b => (q b \/ w.heap.size + 1 <= b) /\ b ≠ X.pb /\ b ≠ X.ab) (w.heap.size + 1) v9 (rs ++ [r]) w9 /\ bH X (fun b => (q b \/ w.heap.size + 1 <= b) /\ some b ≠ Value.ownBlock v9) Q2 w9 /\ Kq X (w.alloc zR) w9 /\ iP Q2 /\ (rs ++ [r]).length + Q.st <= Q2.st) fun w4 r Q2 A4 n4 c4 B4 m4 d4 xs hg => by
    obtain ⟨_, g1, g2, g3, g4, g5, g6, g7, g8⟩ := hg;have hlt := HX.out.1;have Dy := g8.size;simp at Dy;refine ⟨by simp; omega, fun v9 w9 hown hgr hat => ⟨g1, ?_, ?_, ?_, g3, ?_⟩⟩
    ·rw [bB.out] at hown;exact aD.app g5 (ai w4 _) (aM.one (g6.below (ai w4 _)).q) rfl hgr hat hown
    ·have vD := (g7.below (ai w4 (zC r.kind A4 n4 c4 B4 m4 d4))).mono (q2 := fun b => (fun b => (q b \/ w.heap.size + 1 <= b) /\ some b ≠ Value.ownBlock (.slice B5 N5 d5)) b /\ b < (w4.alloc (zC r.kind A4 n4 c4 B4 m4 d4)).heap.size) fun b hb hl => ⟨hb, hl⟩
     have hp9 := vD.grownO hgr (fun g e => by have h9 := (g4.lt g e).1; omega) (fun b hb => hb.1.2);exact hp9.mono fun b hb _ => ⟨hb.1.1, fun e => by
      rcases hat with h | h
      · rw [h] at e; exact hb.1.2 e
      · rw [h] at e; have := Option.some.inj e; omega⟩
    ·have k5 := g8.tr (Kq.of_below (ai w4 (zC r.kind A4 n4 c4 B4 m4 d4)));exact ⟨hgr.os.trans k5.os, hgr.tape.trans k5.tape, hgr.output.trans k5.output, Nat.le_trans k5.size hgr.size, fun k hk a b => (hgr.block k (Nat.lt_of_lt_of_le hk k5.size) (fun e => by have h9 := (g4.lt k e.symm).1; simp at hk; omega)).trans (k5.block k hk a b)⟩
    ·have := HI.out.2.2.2.2.2;simp;omega
   have hs1 : N5 + 1 <= maxLen := by unfold maxLen; omega
   have hs2 : (N5 + 1) * 56 <= 140737488355328 := by omega
   have HMS := LH (Q1.st < X.s.length /\ X.s.length - Q1.st + 1 <= gg + 1) ⟨by omega, hgk⟩
   rcases kF with h2 | h40
   ·subst h2
    go_wp2_with (first
     |((with_reducible refine HQ7.out.mono ?_); rintro e w4 hp; obtain ⟨r, Q2, A4, n4, c4, B4, m4, d4, xs, rfl, hg⟩ := Bb.out e w4 hp; have H4 := Lh hg; have xk := Lh (mO.out w4 r Q2 A4 n4 c4 B4 m4 d4 xs hg); have fJ := Lh xk.out.1; have iM := Lh xk.out.2; clear hp hg)
     |(at_builtin; refine gW rfl (.tmp 18) (.tmp 21) 23 23 rfl (w.heap.size + 1) 25 i0 _ 3 56 Tryz.underlying23 aZ hz0 hz1 hz2 rfl _ _ _ rfl (gu H4.out.2.2.2.2.1 (ai _ _)) _ 1 (zV r.kind A4 n4 c4 B4 m4 d4) rfl (jR hz1 _ _ _ _ _ _ _ _) hs1 hs2 fJ.out ?_; intro v9 w9 dJ dN fe; have aR := Lh (iM.out v9 w9 dJ dN fe); clear dJ dN fe))
    go_roundg gg
    case rel => exact ⟨rs ++ [r], Q2, by have := HMS.out; have := H4.out.2.2.1; omega, aR⟩
    case measure => omega
   ·subst h40
    go_wp2_with (first
     |((with_reducible refine HQ7.out.mono ?_); rintro e w4 hp; obtain ⟨r, Q2, A4, n4, c4, B4, m4, d4, xs, rfl, hg⟩ := Bb.out e w4 hp; have H4 := Lh hg; have xk := Lh (mO.out w4 r Q2 A4 n4 c4 B4 m4 d4 xs hg); have fJ := Lh xk.out.1; have iM := Lh xk.out.2; clear hp hg)
     |(at_builtin; refine gW rfl (.tmp 18) (.tmp 21) 23 23 rfl (w.heap.size + 1) 25 i0 _ 3 56 Tryz.underlying23 aZ hz0 hz1 hz2 rfl _ _ _ rfl (gu H4.out.2.2.2.2.1 (ai _ _)) _ 1 (zV r.kind A4 n4 c4 B4 m4 d4) rfl (jR hz1 _ _ _ _ _ _ _ _) hs1 hs2 fJ.out ?_; intro v9 w9 dJ dN fe; have aR := Lh (iM.out v9 w9 dJ dN fe); clear dJ dN fe))
    go_roundg gg
    case rel => exact ⟨rs ++ [r], Q2, by have := HMS.out; have := H4.out.2.2.1; omega, aR⟩
    case measure => omega
  ·have a1 : ((k1 : Int) == 2) = false := bF (by omega);have b1 : ((k1 : Int) == 40) = false := bF (by omega);have iq := LH (ae wr w.heap.size zL 25 /\ ∀ W, aT wr W w.heap.size (zV 3 none 0 0 B5 N5 d5) 25 -> iI xP X q Q w (.returned (.agg #[.int .i64 3, .slice none 0 0, .slice B5 N5 d5])) W /\ ae W w.heap.size (zV 3 none 0 0 B5 N5 d5) 25) (by
    have hlt := HX.out.1;have hi := HI.out;obtain ⟨B9, d9, wU, z1, z2, z3, z4⟩ := hi.2.1.e;simp only [Value.slice.injEq] at wU;obtain ⟨rfl, pM, rfl⟩ := wU;refine ⟨hi.2.2.2.1.blk bK.out (by omega) (by omega), fun W hst => ⟨⟨.mk 3 [] rs, Q1, none, 0, 0, B5, N5, d5, rfl, hi.1 _ _ (.seqEnd (by rw [<- je.out]; exact kF)), ?_, ?_, ?_⟩, hst.1⟩⟩
    ·have za : ak (fun b => (fun b => (q b \/ w.heap.size + 1 <= b) /\ b ≠ X.pb /\ b ≠ X.ab) b) wr (.mk 3 [] rs) none 0 0 B5 N5 d5 := ak.make (by constructor <;> decide) (fun x hx => (by cases hx)) rfl (Nat.le_refl _) (Nat.zero_le _) (.inl rfl) (fun h => absurd rfl h) pM (by rw [pM]; exact z1) z2 (z3.mono fun b hb => hb.1) (fun hne b o e => by
      obtain ⟨g, e2, h1, h2⟩ := z4 hne;rw [e] at e2;obtain ⟨rfl, _⟩ : b = g /\ o = 0 := by simpa using e2
      exact ⟨.inr h1, by omega, by omega⟩)
     exact (za.grown (dG hst) (fun b hb e => by have h2 := Option.some.inj e; have h1 := HX.out.2.2.1 b; rcases hb.1 with h | h; (have := h1 h; omega); omega)).mono fun b hb => ⟨hb.1.imp id fun h => by omega, hb.2⟩
    ·exact (bH.stored hlt hi.2.2.1 (Nat.le_refl _) hst (fun b hb => by have h1 := HX.out.2.2.1 b; rcases hb.1 with h | h; (have := h1 h; omega); omega)).mono fun b hb _ => hb.1.imp id fun h => by omega
    ·exact ((Kq.of_below (ai w _)).tr hi.2.2.2.1).stored (Nat.le_refl _) hst)
   clear kF
   go_wp2_with (refine wB rfl 25 (.tmp 2) (.tmp 24) rfl w.heap.size 0 rfl (zV 3 none 0 0 B5 N5 d5) rfl iq.out.1 3 au ?_; intro x5 bz; have bf := Lh (iq.out.2 x5 bz); clear bz)
   exact cK rfl w.heap.size rfl (C := (zV 3 none 0 0 B5 N5 d5)) (T := 25) bf.out.2 _ Tryz.underlying25 rfl au rfl bf.out.1
theorem T9 (X : Lx) (hx : sU X) (N : Nat) (HA : xu X N) (q : Nat -> Prop) (Q : PS) (w : World) (jq : ∀ b, b < X.w0.heap.size -> q b) (rJ : ∀ b, q b -> b < w.heap.size) (h : bH X q Q w) (ax : iP Q) (hN : X.s.length - Q.st < N + 1) : Calls Tryz.prog 67 #[.pointer (pt X.pb)] w (iI jD X q Q w) := by
 obtain ⟨i0, aZ, hz0, hz1, hz2⟩ := info_parts lG;have hlt := h.lts;have hs1 : (w.alloc zR).heap.size = w.heap.size + 1 := by simp
 have lT : Bw w (w.alloc zR) := ai _ _;have hb1 : ae (w.alloc zR) w.heap.size zL 25 := ae.at w zL _ 25 _ rfl rfl;have PQ := LH (∀ q Q w, (∀ b, b < X.w0.heap.size -> q b) -> (∀ b, q b -> b < w.heap.size) -> bH X q Q w -> iP Q -> X.s.length - Q.st < N + 1 -> Cz 99 #[.pointer (pt X.pb)] w (iI xP X q Q w)) fun q Q w a b c d e => Qr X hx N HA q Q w a b c d e
 have su := LH (∀ q Q W, bH X q Q W -> Cz 66 #[.pointer (pt X.pb)] W (vR X q Q W)) fun q Q W hp => CZ X hx q Q W hp
 have HX := Lh (And.intro hlt (And.intro jq (And.intro rJ ax)));have HN := LH (X.s.length - Q.st < N + 1 /\ X.s.length <= 1000000) ⟨hN, hx.hs⟩;have bK := Lh hb1;have oH := LH (Cz 99 #[.pointer (pt X.pb)] (w.alloc zR) (iI xP X q Q (w.alloc zR))) (PQ.out q Q (w.alloc zR) jq (fun b hb => by have := rJ b hb; omega) (h.below lT) ax hN);have HBEG := LH (∀ w2 r Q1 A4 n4 c4 B4 m4 d4, xP X Q r Q1 -> ak (fun b => (q b \/ (w.alloc zR).heap.size <= b) /\ b ≠ X.pb /\ b ≠ X.ab) w2 r A4 n4 c4 B4 m4 d4 -> bH X (fun b => q b \/ (w.alloc zR).heap.size <= b) Q1 w2 -> Kq X (w.alloc zR) w2 -> (∀ x Q9, PR X 0 ([r]) Q1 x Q9 -> jD X Q x Q9) /\ aD (fun b => (q b \/ w.heap.size + 1 <= b) /\ b ≠ X.pb /\ b ≠ X.ab) (w.heap.size + 1) (.slice (pt w2.heap.size) 1 1) ([r]) (w2.alloc (zC r.kind A4 n4 c4 B4 m4 d4)) /\ bH X (fun b => (q b \/ w.heap.size + 1 <= b) /\ some b ≠ Value.ownBlock (.slice (pt w2.heap.size) 1 1)) Q1 (w2.alloc (zC r.kind A4 n4 c4 B4 m4 d4)) /\ Kq X (w.alloc zR) (w2.alloc (zC r.kind A4 n4 c4 B4 m4 d4)) /\ iP Q1 /\ ([r]).length + Q.st <= PS.st Q1 + 1 /\ Q.st <= PS.st Q1) fun w2 r Q1 A4 n4 c4 B4 m4 d4 g1 g2 g3 g4 => by
  rw [hs1] at g2 g3;have hs2 := g4.size;rw [hs1] at hs2;have hm := PR.mono g1 ax;have hown : (w2.alloc (zC r.kind A4 n4 c4 B4 m4 d4)).ownsRow (w.heap.size + 1) 25 3 (.slice (pt w2.heap.size) 1 1) [r].length (zV r.kind A4 n4 c4 B4 m4 d4) := ⟨rfl, .inr ⟨w2.heap.size, 1, _, rfl, hs2, heap_alloc_new w2 _, Nat.le_refl _, by unfold maxLen; omega, rfl, rfl⟩⟩;exact ⟨fun x Q9 hh => ⟨r, Q1, g1, hh⟩, ⟨_, aM.one ((g2.lt7.mono (q := fun b => (fun b => (q b \/ w.heap.size + 1 <= b) /\ b ≠ X.pb /\ b ≠ X.ab) b /\ some b ≠ Value.ownBlock (.slice (pt w2.heap.size) 1 1)) fun b hb => ⟨hb.1, fun e => by have h1 : b = w2.heap.size := Option.some.inj e; omega⟩).below (ai w2 _)).q, hown⟩, (g3.mono (q2 := (fun b => (q b \/ w.heap.size + 1 <= b) /\ some b ≠ Value.ownBlock (.slice (pt w2.heap.size) 1 1))) fun b hb hl => ⟨hb, fun e => by have h1 : b = w2.heap.size := Option.some.inj e; omega⟩).below (ai w2 _), g4.tr (Kq.of_below (ai w2 _)), hm.1, by have := hm.2; simp; omega, hm.2⟩
 clear hx HA jq rJ h ax hN hlt hs1 lT hb1;go_enter Tryz.func67, Tryz.ntmps67
 go_wp2_with ((with_reducible refine oH.out.mono ?_); rintro e w2 hp; obtain ⟨r, Q1, A4, n4, c4, B4, m4, d4, rfl, g1, g2, g3, g4⟩ := xC hp; have H1 := Lh (HBEG.out w2 r Q1 A4 n4 c4 B4 m4 d4 g1 g2 g3 g4); clear hp g1 g2 g3 g4)
 go_loopg [3] (X.s.length + 1) (fun gq s3 wr => ∃ (rs : List Rx) (Q1 : PS), X.s.length - Q1.st + 1 <= gq /\ Hid ((∀ x Q9, PR X 0 (rs) Q1 x Q9 -> jD X Q x Q9) /\ aD (fun b => (q b \/ w.heap.size + 1 <= b) /\ b ≠ X.pb /\ b ≠ X.ab) (w.heap.size + 1) s3 (rs) wr /\ bH X (fun b => (q b \/ w.heap.size + 1 <= b) /\ some b ≠ Value.ownBlock s3) Q1 wr /\ Kq X (w.alloc zR) wr /\ iP Q1 /\ (rs).length + Q.st <= PS.st Q1 + 1 /\ Q.st <= PS.st Q1))
 case atStart => exact ⟨[r], Q1, by omega, H1⟩
 case round =>
  obtain ⟨rs, Q1, hgk, HI⟩ := hrel;obtain ⟨gg, rfl⟩ : ∃ g, gk = g + 1 := ⟨gk - 1, by omega⟩;obtain ⟨B5, d5, hv, J7, GJ, J9, _⟩ := HI.out.2.1.e;obtain ⟨N5, bD⟩ := eX rs.length;rw [<- bD] at hv J7;subst hv;have bB := Lh bD;obtain ⟨k1, ji⟩ := eX Q1.k;obtain ⟨A, n, c, B, m, d, e1, e2⟩ := HI.out.2.2.1.c5;have rD := e1.cell (j := 1) rfl;rw [<- ji] at rD;have je := Lh ji;have hle := HI.out.2.2.1.hle;have lQ : N5 <= 1000002 := by have := HI.out.2.2.2.2.2.1; have := HI.out.2.2.2.2.1.1; have := HN.out.2; omega
  clear e1 e2 ji J9 bD
  by_cases kF : k1 = 124
  ·have hst : Q1.st < Q1.p := HI.out.2.2.2.2.1.2 (by rw [<- je.out]; omega) (by rw [<- je.out]; omega);have AR := LH (w.heap.size + 1 <= wr.heap.size) (by have h1 := HI.out.2.2.2.1.size; simp at h1; exact h1);have HAD := Lh (su.out _ Q1 wr HI.out.2.2.1);have HQ7 := LH (∀ w3, bH X (fun b => b < X.w0.heap.size \/ wr.heap.size <= b) (cZ X Q1) w3 -> Kq X wr w3 -> Cz 99 #[.pointer (pt X.pb)] w3 (iI xP X (fun b => (b < X.w0.heap.size \/ wr.heap.size <= b) /\ b < w3.heap.size) (cZ X Q1) w3)) fun w3 hp gJ => by
    refine PQ.out _ (cZ X Q1) w3 (fun b hb => ⟨.inl hb, ?_⟩) (fun b hb => hb.2) (hp.mono fun b hb hl => ⟨hb, hl⟩) (jw X Q1) (by show X.s.length - Q1.p < N + 1; have := HI.out.2.2.2.2.2.2; have := HN.out.1; omega);have := HX.out.1.1; have := AR.out; have := gJ.size; omega
   have Bb := LH (∀ w3 e w4, Kq X wr w3 -> iI xP X (fun b => (b < X.w0.heap.size \/ wr.heap.size <= b) /\ b < w3.heap.size) (cZ X Q1) w3 e w4 -> ∃ r Q2 A4 n4 c4 B4 m4 d4 xs, e = .returned (.agg #[.int .i64 r.kind, .slice A4 n4 c4, .slice B4 m4 d4]) /\ (∀ x Q9, PR X 0 (rs ++ [r]) Q2 x Q9 -> jD X Q x Q9) /\ Q1.st < Q2.st /\ iP Q2 /\ w4.ownsRow (w.heap.size + 1) 25 3 (.slice B5 N5 d5) N5 xs /\ aM (fun b => (fun b => (q b \/ w.heap.size + 1 <= b) /\ b ≠ X.pb /\ b ≠ X.ab) b /\ some b ≠ Value.ownBlock (.slice B5 N5 d5)) w4 xs rs /\ ak (fun b => (fun b => (q b \/ w.heap.size + 1 <= b) /\ b ≠ X.pb /\ b ≠ X.ab) b /\ some b ≠ Value.ownBlock (.slice B5 N5 d5)) w4 r A4 n4 c4 B4 m4 d4 /\ bH X (fun b => (q b \/ w.heap.size + 1 <= b) /\ some b ≠ Value.ownBlock (.slice B5 N5 d5)) Q2 w4 /\ Kq X (w.alloc zR) w4) fun w3 e w4 hk3 hh => by
    obtain ⟨r, Q2, A4, n4, c4, B4, m4, d4, rfl, p3, g2, g3, g4⟩ := xC hh;obtain ⟨xs, hC, hO⟩ := HI.out.2.1;have hlt := HX.out.1;have gJ : Q1.k = 124 := by rw [<- je.out]; exact kF
    have m3 := PR.mono p3 (jw X Q1);have hpp : (cZ X Q1).st = Q1.p := rfl;have hs3 := hk3.size;have Bc : ∀ b, (b < X.w0.heap.size \/ wr.heap.size <= b) -> some b ≠ Value.ownBlock (.slice B5 N5 d5) := fun b hb e => by
     have := hO.lt b e.symm;omega
    have AB := hk3.tr g4;rw [<- bB.out] at hO;have oK : ∀ b, ((fun b => (b < X.w0.heap.size \/ wr.heap.size <= b) /\ b < w3.heap.size) b \/ w3.heap.size <= b) -> (q b \/ w.heap.size + 1 <= b) /\ some b ≠ Value.ownBlock (.slice B5 N5 d5) := fun b hb => by
     have hz := AR.out
     rcases hb with hb1 | hb1
     · rcases hb1.1 with hb2 | hb2
       ·exact ⟨.inl (HX.out.2.1 b hb2), Bc b (.inl hb2)⟩
       ·exact ⟨.inr (by omega), Bc b (.inr hb2)⟩
     · exact ⟨.inr (by omega), Bc b (.inr (by omega))⟩
    exact ⟨r, Q2, A4, n4, c4, B4, m4, d4, xs, rfl, fun x Q9 hx9 => HI.out.1 x Q9 (.altGo gJ p3 hx9), by have := m3.2; omega, m3.1, OV hO AB (by omega) (by omega), (hC.lt.keep fun b o hb => AB.cell hb.2 hb.1.1.2.1 hb.1.1.2.2).mono fun b hb => hb.1, g2.mono fun b hb => ⟨⟨(oK b hb.1).1, hb.2⟩, (oK b hb.1).2⟩, g3.mono fun b hb _ => oK b hb, HI.out.2.2.2.1.tr AB⟩
   have mO := LH (∀ w4 r Q2 A4 n4 c4 B4 m4 d4 xs, (∀ x Q9, PR X 0 (rs ++ [r]) Q2 x Q9 -> jD X Q x Q9) /\ Q1.st < Q2.st /\ iP Q2 /\ w4.ownsRow (w.heap.size + 1) 25 3 (.slice B5 N5 d5) N5 xs /\ aM (fun b => (fun b => (q b \/ w.heap.size + 1 <= b) /\ b ≠ X.pb /\ b ≠ X.ab) b /\ some b ≠ Value.ownBlock (.slice B5 N5 d5)) w4 xs rs /\ ak (fun b => (fun b => (q b \/ w.heap.size + 1 <= b) /\ b ≠ X.pb /\ b ≠ X.ab) b /\ some b ≠ Value.ownBlock (.slice B5 N5 d5)) w4 r A4 n4 c4 B4 m4 d4 /\ bH X (fun b => (q b \/ w.heap.size + 1 <= b) /\ some b ≠ Value.ownBlock (.slice B5 N5 d5)) Q2 w4 /\ Kq X (w.alloc zR) w4 -> (w.heap.size + 1) <= (w4.alloc (zC r.kind A4 n4 c4 B4 m4 d4)).heap.size /\ ∀ v9 w9, w9.ownsRow (w.heap.size + 1) 25 3 v9 (N5 + 1) (xs ++ (zV r.kind A4 n4 c4 B4 m4 d4)) -> (w4.alloc (zC r.kind A4 n4 c4 B4 m4 d4)).grownBy w9 (Value.ownBlock (.slice B5 N5 d5)) -> (v9.ownBlock = Value.ownBlock (.slice B5 N5 d5) \/ v9.ownBlock = some (w4.alloc (zC r.kind A4 n4 c4 B4 m4 d4)).heap.size) -> (∀ x Q9, PR X 0 (rs ++ [r]) Q2 x Q9 -> jD X Q x Q9) /\ aD (fun b => (q b \/ w.heap.size + 1 <= b) /\ b ≠ X.pb /\ b ≠ X.ab) (w.heap.size + 1) v9 (rs ++ [r]) w9 /\ bH X (fun b => (q b \/ w.heap.size + 1 <= b) /\ some b ≠ Value.ownBlock v9) Q2 w9 /\ Kq X (w.alloc zR) w9 /\ iP Q2 /\ (rs ++ [r]).length + Q.st <= PS.st Q2 + 1 /\ Q.st <= PS.st Q2) fun w4 r Q2 A4 n4 c4 B4 m4 d4 xs hg => by
    obtain ⟨g1, g2, g3, g4, g5, g6, g7, g8⟩ := hg;have hlt := HX.out.1;have Dy := g8.size;simp at Dy;refine ⟨by simp; omega, fun v9 w9 hown hgr hat => ⟨g1, ?_, ?_, ?_, g3, ?_, ?_⟩⟩
    ·rw [bB.out] at hown;exact aD.app g5 (ai w4 _) (aM.one (g6.below (ai w4 _)).q) rfl hgr hat hown
    ·have vD := (g7.below (ai w4 (zC r.kind A4 n4 c4 B4 m4 d4))).mono (q2 := fun b => (fun b => (q b \/ w.heap.size + 1 <= b) /\ some b ≠ Value.ownBlock (.slice B5 N5 d5)) b /\ b < (w4.alloc (zC r.kind A4 n4 c4 B4 m4 d4)).heap.size) fun b hb hl => ⟨hb, hl⟩
     have hp9 := vD.grownO hgr (fun g e => by have h9 := (g4.lt g e).1; omega) (fun b hb => hb.1.2);exact hp9.mono fun b hb _ => ⟨hb.1.1, fun e => by
       rcases hat with h | h
       ·rw [h] at e; exact hb.1.2 e
       ·rw [h] at e; have := Option.some.inj e; omega⟩
    ·have k5 := g8.tr (Kq.of_below (ai w4 (zC r.kind A4 n4 c4 B4 m4 d4)));exact ⟨hgr.os.trans k5.os, hgr.tape.trans k5.tape, hgr.output.trans k5.output, Nat.le_trans k5.size hgr.size, fun k hk a b => (hgr.block k (Nat.lt_of_lt_of_le hk k5.size) (fun e => by have h9 := (g4.lt k e.symm).1; simp at hk; omega)).trans (k5.block k hk a b)⟩
    ·have := HI.out.2.2.2.2.2.1;simp;omega
    ·have := HI.out.2.2.2.2.2.2;omega
   have hs1 : N5 + 1 <= maxLen := by unfold maxLen; omega
   have hs2 : (N5 + 1) * 56 <= 140737488355328 := by omega
   have HMS := LH (Q1.st < X.s.length /\ X.s.length - Q1.st + 1 <= gg + 1) ⟨by omega, hgk⟩;subst kF
   go_wp2_with (first
    |((with_reducible refine HAD.out.mono ?_); rintro e w3 hp; obtain ⟨rfl, g1, g2⟩ := xR hp; have HS3 := Lh (HQ7.out w3 g1 g2); have ma := Lh g2; clear hp g1 g2)
    |((with_reducible refine HS3.out.mono ?_); rintro e w4 hp; obtain ⟨r, Q2, A4, n4, c4, B4, m4, d4, xs, rfl, hg⟩ := Bb.out w3 e w4 ma.out hp; have H4 := Lh hg; have xk := Lh (mO.out w4 r Q2 A4 n4 c4 B4 m4 d4 xs hg); have fJ := Lh xk.out.1; have iM := Lh xk.out.2; clear hp hg)
    |(at_builtin; refine gW rfl (.tmp 15) (.tmp 18) 23 23 rfl (w.heap.size + 1) 25 i0 _ 3 56 Tryz.underlying23 aZ hz0 hz1 hz2 rfl _ _ _ rfl (gu H4.out.2.2.2.1 (ai _ _)) _ 1 (zV r.kind A4 n4 c4 B4 m4 d4) rfl (jR hz1 _ _ _ _ _ _ _ _) hs1 hs2 fJ.out ?_; intro v9 w9 dJ dN fe; have aR := Lh (iM.out v9 w9 dJ dN fe); clear dJ dN fe))
   go_roundg gg
   case rel => exact ⟨rs ++ [r], Q2, by have := HMS.out; have := H4.out.2.1; omega, aR⟩
   case measure => omega
  ·have b1 : ((k1 : Int) == 124) = false := bF (by omega);have iq := LH (ae wr w.heap.size zL 25 /\ ∀ W, aT wr W w.heap.size (zV 4 none 0 0 B5 N5 d5) 25 -> iI jD X q Q w (.returned (.agg #[.int .i64 4, .slice none 0 0, .slice B5 N5 d5])) W /\ ae W w.heap.size (zV 4 none 0 0 B5 N5 d5) 25) (by
    have hlt := HX.out.1;have hi := HI.out;obtain ⟨B9, d9, wU, z1, z2, z3, z4⟩ := hi.2.1.e;simp only [Value.slice.injEq] at wU;obtain ⟨rfl, pM, rfl⟩ := wU;refine ⟨hi.2.2.2.1.blk bK.out (by omega) (by omega), fun W hst => ⟨⟨.mk 4 [] rs, Q1, none, 0, 0, B5, N5, d5, rfl, hi.1 _ _ (.altEnd (by rw [<- je.out]; exact kF)), ?_, ?_, ?_⟩, hst.1⟩⟩
    ·have za : ak (fun b => (fun b => (q b \/ w.heap.size + 1 <= b) /\ b ≠ X.pb /\ b ≠ X.ab) b) wr (.mk 4 [] rs) none 0 0 B5 N5 d5 := ak.make (by constructor <;> decide) (fun x hx => (by cases hx)) rfl (Nat.le_refl _) (Nat.zero_le _) (.inl rfl) (fun h => absurd rfl h) pM (by rw [pM]; exact z1) z2 (z3.mono fun b hb => hb.1) (fun hne b o e => by
       obtain ⟨g, e2, h1, h2⟩ := z4 hne;rw [e] at e2;obtain ⟨rfl, _⟩ : b = g /\ o = 0 := by simpa using e2
       exact ⟨.inr h1, by omega, by omega⟩)
     exact (za.grown (dG hst) (fun b hb e => by have h2 := Option.some.inj e; have h1 := HX.out.2.2.1 b; rcases hb.1 with h | h; (have := h1 h; omega); omega)).mono fun b hb => ⟨hb.1.imp id fun h => by omega, hb.2⟩
    ·exact (bH.stored hlt hi.2.2.1 (Nat.le_refl _) hst (fun b hb => by have h1 := HX.out.2.2.1 b; rcases hb.1 with h | h; (have := h1 h; omega); omega)).mono fun b hb _ => hb.1.imp id fun h => by omega
    ·exact ((Kq.of_below (ai w _)).tr hi.2.2.2.1).stored (Nat.le_refl _) hst)
   clear kF
   go_wp2_with (refine wB rfl 25 (.tmp 2) (.tmp 21) rfl w.heap.size 0 rfl (zV 4 none 0 0 B5 N5 d5) rfl iq.out.1 3 au ?_; intro x5 bz; have bf := Lh (iq.out.2 x5 bz); clear bz)
   exact cK rfl w.heap.size rfl (C := (zV 4 none 0 0 B5 N5 d5)) (T := 25) bf.out.2 _ Tryz.underlying25 rfl au rfl bf.out.1
theorem Qy {R : Lx -> PS -> Rx -> PS -> Prop} {X : Lx} {q q2 : Nat -> Prop} {Q : PS} {w : World} {e : Ending} {w' : World} (h : iI R X q Q w e w') (hq : ∀ b, q b -> q2 b) : iI R X q2 Q w e w' := by
 obtain ⟨r, Q1, A, n, c, B, m, d, rfl, g1, g2, g3, g4⟩ := xC h;exact ⟨r, Q1, A, n, c, B, m, d, rfl, g1, g2.mono fun b hb => ⟨hb.1.imp (hq b) id, hb.2⟩, g3.mono fun b hb _ => hb.imp (hq b) id, g4⟩
theorem Nj (X : Lx) (hx : sU X) : ∀ N, xu X N
 |0 => fun q Q w _ _ _ h => absurd h (Nat.not_lt_zero _)
 |N + 1 => fun q Q w h1 h2 h3 h4 => (T9 X hx N (Nj X hx N) (fun b => q b /\ b < w.heap.size) Q w (fun b hb => ⟨h1 b hb, by have := h2.hb.size; omega⟩) (fun b hb => hb.2) (h2.mono fun b hb hl => ⟨hb, hl⟩) h3 h4).mono fun e w' h => Qy h fun b hb => hb.1
def IP (s : Alp.B) (A : Option Addr) (n c : Nat) (B : Option Addr) (m d : Nat) (w : World) (e : Ending) (w' : World) : Prop := e = .returned (.func (.func 97) #[] #[.pointer (pt w.heap.size), .pointer (pt (w.heap.size + 1 + 1 + 1)), .pointer (pt (w.heap.size + 1)), .pointer (pt (w.heap.size + 1 + 1))]) /\ w' = ((((w.alloc (.cells #[.string (tb s)] 9)).alloc (.cells #[.slice A n c] 39)).alloc (.cells #[.slice B m d] 40)).alloc (.cells #[.int .i64 0] 3))
theorem SS {s : Alp.B} {A : Option Addr} {n c : Nat} {B : Option Addr} {m d : Nat} {w : World} {e : Ending} {w' : World} (h : IP s A n c B m d w e w') : e = .returned (.func (.func 97) #[] #[.pointer (pt w.heap.size), .pointer (pt (w.heap.size + 1 + 1 + 1)), .pointer (pt (w.heap.size + 1)), .pointer (pt (w.heap.size + 1 + 1))]) /\ w' = ((((w.alloc (.cells #[.string (tb s)] 9)).alloc (.cells #[.slice A n c] 39)).alloc (.cells #[.slice B m d] 40)).alloc (.cells #[.int .i64 0] 3)) := h
theorem QR (s : Alp.B) (A : Option Addr) (n c : Nat) (B : Option Addr) (m d : Nat) (w : World) : Calls Tryz.prog 65 #[.string (tb s), .slice A n c, .slice B m d] w (IP s A n c B m d w) := by
 go_enter Tryz.func65, Tryz.ntmps65;go_wp2_with fail;go_ret;exact ⟨rfl, rfl⟩
namespace Rgx
theorem Lj (L : List Lt) (S : List fZ) (s : Alp.B) : az (fA L S s).2.1 = 1 := by
 have h0 : ∀ (k : Int) (l : List Int), az (.mk k l []) = 1 := fun k l => by rw [az, aj]; rfl
 match s with
 |[] => exact h0 _ _
 |c :: t =>
  rw [F5]
  split
  ·exact h0 _ _
  ·split
   ·exact h0 _ _
   ·split
    ·exact h0 _ _
    ·split
     ·exact h0 _ _
     ·split
      ·unfold jY
       split
       ·exact h0 _ _
       ·split
        ·exact h0 _ _
        ·split
         ·exact h0 _ _
         ·split
          ·exact h0 _ _
          ·exact h0 _ _
      ·unfold uw
       split
       ·exact h0 _ _
       ·exact h0 _ _
theorem PR.cnt {X : Lx} {t : Nat} {ks : List Rx} {Q : PS} {x : Rx} {Q1 : PS} (h : PR X t ks Q x Q1) : iP Q -> az Q.x = 1 -> az x + 2 * (Q.st : Int) <= aj ks + (if t <= 1 then 1 else 0) + 2 * (Q1.st : Int) /\ az Q1.x = 1 := by
 have ha : ∀ Q, (cZ X Q).st = Q.p := fun _ => rfl
 have zl : ∀ Q, az (cZ X Q).x = 1 := fun Q => Lj X.L X.S (X.s.drop Q.p)
 have DL : ∀ Q, (vM Q).st = Q.st := fun _ => rfl
 have hc : ∀ (k : Int) (l : List Int) (ks : List Rx), az (.mk k l ks) = 1 + aj ks := fun k l ks => by rw [az]
 have h1 : ∀ r : Rx, aj [r] = az r := fun r => by rw [aj, aj]; omega
 have PL : ∀ (ks : List Rx) (r : Rx), aj (ks ++ [r]) = aj ks + az r := fun ks r => by
  induction ks with
  |nil => rw [List.nil_append, h1, aj]; omega
  |cons y ys ih => rw [List.cons_append, aj, ih, aj]; omega
 have hnil : aj [] = 0 := by rw [aj]
 induction h with
 |altGo k1 p2 p3 bV ih3 =>
  intro hq hx;have g2 := bV (jw X _) (zl _);have m2 := p2.mono (jw X _);have g3 := ih3 m2.1 g2.2;have hp := hq.2 (by omega) (by omega);rw [ha, hnil] at g2;rw [PL] at g3;refine ⟨?_, g3.2⟩;have a := g2.1;have b := g3.1;simp only [Nat.le_refl, Nat.zero_le, if_true] at a b ⊢;omega
 |altEnd k1 => exact fun hq hx => ⟨by rw [hc]; simp; omega, hx⟩
 |seqGo k1 p2 p3 p4 bV ih3 ih4 =>
  intro hq hx;have g2 := bV hq hx;have m2 := p2.mono hq;have g3 := ih3 m2.1 g2.2;have m3 := p3.mono m2.1;have g4 := ih4 m3.1 g3.2;rw [hnil] at g2;rw [h1] at g3;rw [PL] at g4;refine ⟨?_, g4.2⟩;have a := g2.1;have b := g3.1;have c := g4.1;simp at a b c ⊢;omega
 |seqEnd k1 => exact fun hq hx => ⟨by rw [hc]; simp; omega, hx⟩
 |star k1 p2 bV =>
  intro hq hx;have g2 := bV (jw X _) (zl _);have hp := hq.2 (by omega) (by omega);rw [ha, h1, hc, h1] at g2;refine ⟨?_, g2.2⟩;have a := g2.1;rw [h1];simp at a ⊢;omega
 |opt k1 p2 bV =>
  intro hq hx;have g2 := bV (jw X _) (zl _);have hp := hq.2 (by omega) (by omega);rw [ha, h1, hc, aj, h1, hc, hnil] at g2;refine ⟨?_, g2.2⟩;have a := g2.1;rw [h1];simp at a ⊢;omega
 |none k1 k2 => exact fun hq hx => ⟨by rw [h1]; simp, hx⟩
 |atom k1 =>
  intro hq hx;have hp := hq.2 (by omega) (by omega);refine ⟨?_, zl _⟩;rw [hx, hnil, ha];simp;omega
 |paren k1 p2 p3 k4 bV ih3 =>
  intro hq hx;have g2 := bV (jw X _) (zl _);have m2 := p2.mono (jw X _);have g3 := ih3 m2.1 g2.2;have m3 := p3.mono m2.1;have hp := hq.2 (by omega) (by omega);rw [ha, hnil] at g2;rw [h1] at g3;refine ⟨?_, zl _⟩;have a := g2.1;have b := g3.1;rw [hnil];have hm3 := m3.1.1;rw [ha];simp at a b ⊢;omega
 |bad k1 p2 p3 k4 bV ih3 =>
  intro hq hx;have g2 := bV (jw X _) (zl _);have m2 := p2.mono (jw X _);have g3 := ih3 m2.1 g2.2;have m3 := p3.mono m2.1;have hp := hq.2 (by omega) (by omega);rw [ha, hnil] at g2;rw [h1] at g3;refine ⟨?_, g3.2⟩;have a := g2.1;have b := g3.1;rw [hnil];rw [DL];simp at a b ⊢;omega
end Rgx
namespace Rgx
def rf (X : Lx) (x : Rx) (v : Int) : Prop := ∃ r Q1, jD X (cZ X (⟨0, .mk 0 [] [], 0, 0⟩ : PS)) r Q1 /\ (Q1.k = 1 -> x = bP r /\ v = -1) /\ (Q1.k ≠ 1 -> x = .mk 0 [] [] /\ v = Q1.st)
end Rgx
def vN (V : Bool) (L : List Lt) (S : List fZ) (s : Alp.B) (w : World) (e : Ending) (w' : World) : Prop := ∃ x v A n c B m d, e = .returned (.tuple #[.agg #[.int .i64 x.kind, .slice A n c, .slice B m d], .int .i64 v]) /\ ak (fun b => w.heap.size <= b) w' x A n c B m d /\ Bw w w' /\ (V = false -> x = .mk 0 [] [] /\ v = 0) /\ (V = true -> 1024 < s.length -> x = .mk 0 [] [] /\ v = 1024) /\ (V = true -> s.length <= 1024 -> ∃ X : Lx, X.L = L /\ X.S = S /\ X.s = s /\ rf X x v)
theorem Si (L : List Lt) (S : List fZ) (A B : Option Addr) (n c m d : Nat) (s : Alp.B) (AP : s.length <= 9223372036854775807) (V : Bool) (w : World) (hn : n = L.length) (hc : n <= c) (hm : c <= 9223372036854775807) (hS : iU w S B m d) (hL : Rd w A (lv L)) (kr : V = true -> n <= 60 /\ ∀ l ∈ L, l.text.length <= 1000000) (hT : DB w) (gK : ∀ W, Bw w W -> Calls Tryz.prog 43 #[.slice A n c] W (aU W V)) (hV : V = false) : Calls Tryz.prog 32 #[.string (tb s), .slice A n c, .slice B m d] w (vN V L S s w) := by
 subst hV;have iJ := LH (Cz 43 #[.slice A n c] (w.alloc zR) (aU (w.alloc zR) false)) (gK _ (ai _ _));have hb1 : ae (w.alloc zR) w.heap.size zL 25 := ae.at w zL _ 25 _ rfl rfl;have lW := LH (∀ w2, Below (w.alloc zR).heap.size (w.alloc zR) w2 -> ae w2 w.heap.size zL 25 /\ ∀ W, aT w2 W w.heap.size zL 25 -> vN false L S s w (.returned (.tuple #[.agg #[.int .i64 0, .slice none 0 0, .slice none 0 0], .int .i64 0])) W /\ ae W w.heap.size zL 25) fun w2 hb => ⟨hb1.below hb hb1.lt, fun W hst => ⟨⟨.mk 0 [] [], 0, none, 0, 0, none, 0, 0, rfl, ak.flat _ W (by constructor <;> decide), hst.below (ah (ai w _) hb) (Nat.le_refl _), fun _ => ⟨rfl, rfl⟩, fun h => (by cases h), fun h => (by cases h)⟩, hst.1⟩⟩
 clear hn hc hm hS hL kr hT gK hb1;go_enter Tryz.func32, Tryz.ntmps32
 go_wp2_with (first
  |((with_reducible refine iJ.out.mono ?_); rintro e w2 hp; obtain ⟨rfl, hb⟩ := aV hp; have H2 := Lh (lW.out w2 hb); clear hp hb)
  |(refine wB rfl 25 (.tmp 6) (.tmp 13) rfl w.heap.size 0 rfl zL rfl H2.out.1 3 au ?_; intro x5 bz; have bf := Lh (H2.out.2 x5 bz); clear bz))
 exact gX rfl w.heap.size rfl (C := zL) (T := 25) bf.out.2 _ Tryz.underlying25 rfl au rfl (.int .i64 0) rfl bf.out.1
theorem UI (L : List Lt) (S : List fZ) (A B : Option Addr) (n c m d : Nat) (s : Alp.B) (AP : s.length <= 9223372036854775807) (V : Bool) (w : World) (hn : n = L.length) (hc : n <= c) (hm : c <= 9223372036854775807) (hS : iU w S B m d) (hL : Rd w A (lv L)) (kr : V = true -> n <= 60 /\ ∀ l ∈ L, l.text.length <= 1000000) (hT : DB w) (gK : ∀ W, Bw w W -> Calls Tryz.prog 43 #[.slice A n c] W (aU W V)) (hV : V = true) (hl : 1024 < s.length) : Calls Tryz.prog 32 #[.string (tb s), .slice A n c, .slice B m d] w (vN V L S s w) := by
 subst hV;have iJ := LH (Cz 43 #[.slice A n c] (w.alloc zR) (aU (w.alloc zR) true)) (gK _ (ai _ _));have hb1 : ae (w.alloc zR) w.heap.size zL 25 := ae.at w zL _ 25 _ rfl rfl;have lW := LH (∀ w2, Below (w.alloc zR).heap.size (w.alloc zR) w2 -> ae w2 w.heap.size zL 25 /\ ∀ W, aT w2 W w.heap.size zL 25 -> vN true L S s w (.returned (.tuple #[.agg #[.int .i64 0, .slice none 0 0, .slice none 0 0], .int .i64 1024])) W /\ ae W w.heap.size zL 25) fun w2 hb => ⟨hb1.below hb hb1.lt, fun W hst => ⟨⟨.mk 0 [] [], 1024, none, 0, 0, none, 0, 0, rfl, ak.flat _ W (by constructor <;> decide), hst.below (ah (ai w _) hb) (Nat.le_refl _), fun h => (by cases h), fun _ _ => ⟨rfl, rfl⟩, fun _ h => absurd hl (by omega)⟩, hst.1⟩⟩
 have hsz : (tb s).size = s.length := kI s;clear hn hc hm hS hL kr hT gK hb1;have a2 : decide ((1024 : Int) < (s.length : Int)) = true := dT (by omega);go_enter Tryz.func32, Tryz.ntmps32
 go_wp2_with (first
  |((with_reducible refine iJ.out.mono ?_); rintro e w2 hp; obtain ⟨rfl, hb⟩ := aV hp; have H2 := Lh (lW.out w2 hb); clear hp hb)
  |(refine wB rfl 25 (.tmp 6) (.tmp 17) rfl w.heap.size 0 rfl zL rfl H2.out.1 3 au ?_; intro x5 bz; have bf := Lh (H2.out.2 x5 bz); clear bz))
 exact gX rfl w.heap.size rfl (C := zL) (T := 25) bf.out.2 _ Tryz.underlying25 rfl au rfl (.int .i64 1024) rfl bf.out.1
theorem P8 (L : List Lt) (S : List fZ) (A B : Option Addr) (n c m d : Nat) (s : Alp.B) (AP : s.length <= 9223372036854775807) (V : Bool) (w : World) (hn : n = L.length) (hc : n <= c) (hm : c <= 9223372036854775807) (hS : iU w S B m d) (hL : Rd w A (lv L)) (kr : V = true -> n <= 60 /\ ∀ l ∈ L, l.text.length <= 1000000) (hT : DB w) (gK : ∀ W, Bw w W -> Calls Tryz.prog 43 #[.slice A n c] W (aU W V)) (hV : V = true) (hl : s.length <= 1024) : Calls Tryz.prog 32 #[.string (tb s), .slice A n c, .slice B m d] w (vN V L S s w) := by
 subst hV;have iJ := LH (Cz 43 #[.slice A n c] (w.alloc zR) (aU (w.alloc zR) true)) (gK _ (ai _ _));have iL := LH (∀ w2, Cz 65 #[.string (tb s), .slice A n c, .slice B m d] w2 (IP s A n c B m d w2)) (QR s A n c B m d);have hb1 : ae (w.alloc zR) w.heap.size zL 25 := ae.at w zL _ 25 _ rfl rfl;have bK := Lh hb1;have HLX := LH (∀ w2, Below (w.alloc zR).heap.size (w.alloc zR) w2 -> sU (⟨L, S, s, A, n, c, B, m, d, w2, w2.heap.size, w2.heap.size + 1 + 1 + 1, w2.heap.size + 1, w2.heap.size + 1 + 1, w2.heap.size + 1 + 1 + 1 + 1⟩ : Lx)) fun w2 hb => by
  have fq : Bw w w2 := ah (ai w _) hb;exact ⟨by show s.length <= _; omega, hn, hc, hm, hS.below fq, hL.below fq, (kr rfl).2, (kr rfl).1, hT.below fq, by show w2.heap.size <= w2.heap.size + 1 + 1 + 1; omega, by show w2.heap.size <= (w2.heap.size + 1 + 1 + 1 + 1); omega, by refine ⟨?_, ?_, ?_, ?_, ?_, ?_, ?_⟩ <;> (dsimp only; omega)⟩
 have HST4 := LH (∀ w2, Below (w.alloc zR).heap.size (w.alloc zR) w2 -> ae (((((w2.alloc (.cells #[.string (tb s)] 9)).alloc (.cells #[.slice A n c] 39)).alloc (.cells #[.slice B m d] 40)).alloc (.cells #[.int .i64 0] 3)).alloc (.cells #[.nilFunc, .int .u8 0, .int .i64 0, .int .i64 0, .slice none 0 0, .slice none 0 0] 82)) (w2.heap.size + 1 + 1 + 1 + 1) [.nilFunc, .int .u8 0, .int .i64 0, .int .i64 0, .slice none 0 0, .slice none 0 0] 82 /\ ∀ x4, aT (((((w2.alloc (.cells #[.string (tb s)] 9)).alloc (.cells #[.slice A n c] 39)).alloc (.cells #[.slice B m d] 40)).alloc (.cells #[.int .i64 0] 3)).alloc (.cells #[.nilFunc, .int .u8 0, .int .i64 0, .int .i64 0, .slice none 0 0, .slice none 0 0] 82)) x4 (w2.heap.size + 1 + 1 + 1 + 1) [.func (.func 97) #[] #[.pointer (pt w2.heap.size), .pointer (pt (w2.heap.size + 1 + 1 + 1)), .pointer (pt (w2.heap.size + 1)), .pointer (pt (w2.heap.size + 1 + 1))], .int .u8 0, .int .i64 0, .int .i64 0, .slice none 0 0, .slice none 0 0] 82 -> bH (⟨L, S, s, A, n, c, B, m, d, w2, w2.heap.size, w2.heap.size + 1 + 1 + 1, w2.heap.size + 1, w2.heap.size + 1 + 1, w2.heap.size + 1 + 1 + 1 + 1⟩ : Lx) (fun b => b < w2.heap.size) (⟨0, .mk 0 [] [], 0, 0⟩ : PS) x4 /\ Bw w2 x4) fun w2 hb => by
  refine ⟨ae.at ((((w2.alloc (.cells #[.string (tb s)] 9)).alloc (.cells #[.slice A n c] 39)).alloc (.cells #[.slice B m d] 40)).alloc (.cells #[.int .i64 0] 3)) [.nilFunc, .int .u8 0, .int .i64 0, .int .i64 0, .slice none 0 0, .slice none 0 0] _ 82 _ rfl (by simp), fun x4 hst => ?_⟩;have iB : Bw w2 (((((w2.alloc (.cells #[.string (tb s)] 9)).alloc (.cells #[.slice A n c] 39)).alloc (.cells #[.slice B m d] 40)).alloc (.cells #[.int .i64 0] 3)).alloc (.cells #[.nilFunc, .int .u8 0, .int .i64 0, .int .i64 0, .slice none 0 0, .slice none 0 0] 82)) := aF (aF (aF (aF (ai w2 _) _) _) _) _;have hb4 := hst.below iB (by omega);have k1 : ae x4 w2.heap.size [.string (tb s)] 9 := hst.other (((((ae.at w2 [.string (tb s)] _ 9 _ rfl rfl).alloc _).alloc _).alloc _).alloc _) (by omega);have k2 : ae x4 (w2.heap.size + 1) [.slice A n c] 39 := hst.other ((((ae.at (w2.alloc (.cells #[.string (tb s)] 9)) [.slice A n c] _ 39 _ rfl (by simp)).alloc _).alloc _).alloc _) (by omega);have k3 : ae x4 (w2.heap.size + 1 + 1) [.slice B m d] 40 := hst.other (((ae.at ((w2.alloc (.cells #[.string (tb s)] 9)).alloc (.cells #[.slice A n c] 39)) [.slice B m d] _ 40 _ rfl (by simp)).alloc _).alloc _) (by omega);have k4 : ae x4 (w2.heap.size + 1 + 1 + 1) [.int .i64 0] 3 := hst.other ((ae.at (((w2.alloc (.cells #[.string (tb s)] 9)).alloc (.cells #[.slice A n c] 39)).alloc (.cells #[.slice B m d] 40)) [.int .i64 0] _ 3 _ rfl (by simp)).alloc _) (by omega);exact ⟨⟨hb4, Nat.zero_le _, k1.cell (j := 0) rfl, k4, k2.cell (j := 0) rfl, k3.cell (j := 0) rfl, none, 0, 0, none, 0, 0, hst.1, ak.flat _ x4 (by constructor <;> decide)⟩, hb4⟩
 have su := LH (∀ w2 W, Below (w.alloc zR).heap.size (w.alloc zR) w2 -> bH (⟨L, S, s, A, n, c, B, m, d, w2, w2.heap.size, w2.heap.size + 1 + 1 + 1, w2.heap.size + 1, w2.heap.size + 1 + 1, w2.heap.size + 1 + 1 + 1 + 1⟩ : Lx) (fun b => b < w2.heap.size) (⟨0, .mk 0 [] [], 0, 0⟩ : PS) W -> Cz 66 #[.pointer (pt (w2.heap.size + 1 + 1 + 1 + 1))] W (vR (⟨L, S, s, A, n, c, B, m, d, w2, w2.heap.size, w2.heap.size + 1 + 1 + 1, w2.heap.size + 1, w2.heap.size + 1 + 1, w2.heap.size + 1 + 1 + 1 + 1⟩ : Lx) (fun b => b < w2.heap.size) (⟨0, .mk 0 [] [], 0, 0⟩ : PS) W)) fun w2 W hb hp => CZ (⟨L, S, s, A, n, c, B, m, d, w2, w2.heap.size, w2.heap.size + 1 + 1 + 1, w2.heap.size + 1, w2.heap.size + 1 + 1, w2.heap.size + 1 + 1 + 1 + 1⟩ : Lx) (HLX.out w2 hb) _ (⟨0, .mk 0 [] [], 0, 0⟩ : PS) W hp
 have fK := LH (∀ (w2 x4 W : World), Below (w.alloc zR).heap.size (w.alloc zR) w2 -> bH (⟨L, S, s, A, n, c, B, m, d, w2, w2.heap.size, w2.heap.size + 1 + 1 + 1, w2.heap.size + 1, w2.heap.size + 1 + 1, w2.heap.size + 1 + 1 + 1 + 1⟩ : Lx) (fun b => b < w2.heap.size \/ x4.heap.size <= b) (cZ (⟨L, S, s, A, n, c, B, m, d, w2, w2.heap.size, w2.heap.size + 1 + 1 + 1, w2.heap.size + 1, w2.heap.size + 1 + 1, w2.heap.size + 1 + 1 + 1 + 1⟩ : Lx) (⟨0, .mk 0 [] [], 0, 0⟩ : PS)) W -> Cz 67 #[.pointer (pt (w2.heap.size + 1 + 1 + 1 + 1))] W (iI jD (⟨L, S, s, A, n, c, B, m, d, w2, w2.heap.size, w2.heap.size + 1 + 1 + 1, w2.heap.size + 1, w2.heap.size + 1 + 1, w2.heap.size + 1 + 1 + 1 + 1⟩ : Lx) (fun b => b < w2.heap.size \/ x4.heap.size <= b) (cZ (⟨L, S, s, A, n, c, B, m, d, w2, w2.heap.size, w2.heap.size + 1 + 1 + 1, w2.heap.size + 1, w2.heap.size + 1 + 1, w2.heap.size + 1 + 1 + 1 + 1⟩ : Lx) (⟨0, .mk 0 [] [], 0, 0⟩ : PS)) W)) fun w2 x4 W hb hp => LJ (Nj (⟨L, S, s, A, n, c, B, m, d, w2, w2.heap.size, w2.heap.size + 1 + 1 + 1, w2.heap.size + 1, w2.heap.size + 1 + 1, w2.heap.size + 1 + 1 + 1 + 1⟩ : Lx) (HLX.out w2 hb) (s.length + 1)) (fun b hb => .inl hb) hp (jw _ _) (by show s.length - 0 < s.length + 1; omega)
 have E5 := LH (∀ (w2 x4 x5 x6 : World) (r : Rx) (Q1 : PS) (A4 : Option Addr) (n4 c4 : Nat) (B4 : Option Addr) (m4 d4 : Nat), Below (w.alloc zR).heap.size (w.alloc zR) w2 -> Bw w2 x4 -> Kq (⟨L, S, s, A, n, c, B, m, d, w2, w2.heap.size, w2.heap.size + 1 + 1 + 1, w2.heap.size + 1, w2.heap.size + 1 + 1, w2.heap.size + 1 + 1 + 1 + 1⟩ : Lx) x4 x5 -> jD (⟨L, S, s, A, n, c, B, m, d, w2, w2.heap.size, w2.heap.size + 1 + 1 + 1, w2.heap.size + 1, w2.heap.size + 1 + 1, w2.heap.size + 1 + 1 + 1 + 1⟩ : Lx) (cZ (⟨L, S, s, A, n, c, B, m, d, w2, w2.heap.size, w2.heap.size + 1 + 1 + 1, w2.heap.size + 1, w2.heap.size + 1 + 1, w2.heap.size + 1 + 1 + 1 + 1⟩ : Lx) (⟨0, .mk 0 [] [], 0, 0⟩ : PS)) r Q1 -> ak (fun b => ((b < w2.heap.size \/ x4.heap.size <= b) \/ x5.heap.size <= b) /\ b ≠ (w2.heap.size + 1 + 1 + 1 + 1) /\ b ≠ w2.heap.size + 1 + 1 + 1) x6 r A4 n4 c4 B4 m4 d4 -> bH (⟨L, S, s, A, n, c, B, m, d, w2, w2.heap.size, w2.heap.size + 1 + 1 + 1, w2.heap.size + 1, w2.heap.size + 1 + 1, w2.heap.size + 1 + 1 + 1 + 1⟩ : Lx) (fun b => (b < w2.heap.size \/ x4.heap.size <= b) \/ x5.heap.size <= b) Q1 x6 -> Kq (⟨L, S, s, A, n, c, B, m, d, w2, w2.heap.size, w2.heap.size + 1 + 1 + 1, w2.heap.size + 1, w2.heap.size + 1 + 1, w2.heap.size + 1 + 1 + 1 + 1⟩ : Lx) x5 x6 -> ae (x6.alloc zR) x6.heap.size zL 25 /\ ∀ x7, aT (x6.alloc zR) x7 x6.heap.size (zV r.kind A4 n4 c4 B4 m4 d4) 25 -> (∃ v u2 u3 u4, ae x7 (w2.heap.size + 1 + 1 + 1 + 1) [v, .int .u8 (Q1.k : Int), .int .i64 (Q1.st : Int), u2, u3, u4] 82) /\ aI x7 r A4 n4 c4 B4 m4 d4 /\ ae x7 x6.heap.size (zV r.kind A4 n4 c4 B4 m4 d4) 25 /\ ae x7 w.heap.size zL 25 /\ Bw w x7 /\ az r <= 1000000000000 /\ w.heap.size < x6.heap.size /\ Q1.st <= s.length) fun w2 x4 x5 x6 r Q1 A4 n4 c4 B4 m4 d4 hb h4 h5 g1 g2 g3 g4 => by
  refine ⟨ae.at x6 zL _ 25 _ rfl rfl, fun x7 hst => ?_⟩;have hx := HLX.out w2 hb;have jf : Bw x6 x7 := hst.below (ai x6 _) (Nat.le_refl _);have eB : Bw w2 x6 := Kq.below hx g4 (Kq.below hx h5 h4);have fq : Bw w w2 := ah (ai w _) hb;have mq : Bw w2 x7 := eB.trans (jf.mono eB.size);obtain ⟨Ax, nx, cx, Bx, mx, dx, e1, e2⟩ := (g3.below jf).c5;have hlw : w.heap.size < w2.heap.size := by have := hb.size; simp at this; omega
  obtain ⟨r0, Q0, p1, p2⟩ := g1;have m1 := p1.mono (jw _ _);have m2 := p2.mono m1.1;have k1 := p1.cnt (jw _ _) (Lj _ _ _);have k2 := p2.cnt m1.1 k1.2;have hle := g3.hle;refine ⟨⟨_, _, _, _, e1⟩, g2.o.below jf, hst.1, ((bK.out.below hb bK.out.lt).below (mq.mono (Nat.le_refl _)) (bK.out.below hb bK.out.lt).lt), fq.trans (mq.mono fq.size), ?_, by have := eB.size; omega, Nat.le_trans m2.1.1 hle⟩;have a := k1.1;have b := k2.1;have hst0 : (cZ (⟨L, S, s, A, n, c, B, m, d, w2, w2.heap.size, w2.heap.size + 1 + 1 + 1, w2.heap.size + 1, w2.heap.size + 1 + 1, w2.heap.size + 1 + 1 + 1 + 1⟩ : Lx) (⟨0, .mk 0 [] [], 0, 0⟩ : PS)).st = 0 := rfl;have l8 : ∀ y : Rx, aj [y] = az y := fun y => by rw [aj, aj]; omega
  have hcn : aj [] = 0 := by rw [aj]
  rw [hst0, hcn] at a;rw [l8] at b;have h9 : Q1.st <= s.length := Nat.le_trans m2.1.1 hle;simp at a b;omega
 have hsz : (tb s).size = s.length := kI s;have a2 : decide ((1024 : Int) < (s.length : Int)) = false := dF (by omega);have HC := LH (n <= c /\ c <= 9223372036854775807 /\ DB w) ⟨hc, hm, hT⟩;clear hn hS hL kr hT gK hb1;go_enter Tryz.func32, Tryz.ntmps32
 go_upto_region 8 with (first
  |((with_reducible refine iJ.out.mono ?_); rintro e w2 hp; obtain ⟨rfl, hb⟩ := aV hp; have H2 := Lh hb; clear hp hb)
  |((with_reducible refine (iL.out w2).mono ?_); rintro e w3 hp; obtain ⟨rfl, rfl⟩ := SS hp; clear hp; have HS4 := Lh (HST4.out w2 H2.out))
  |(refine wB rfl 82 (.tmp 8) (.tmp 22) rfl (w2.heap.size + 1 + 1 + 1 + 1) 0 rfl [.func (.func 97) #[] #[.pointer (pt w2.heap.size), .pointer (pt (w2.heap.size + 1 + 1 + 1)), .pointer (pt (w2.heap.size + 1)), .pointer (pt (w2.heap.size + 1 + 1))], .int .u8 0, .int .i64 0, .int .i64 0, .slice none 0 0, .slice none 0 0] rfl HS4.out.1 6 Xe ?_; intro x4 wM; have H4 := Lh (HS4.out.2 x4 wM); clear wM)
  |((with_reducible refine (su.out w2 x4 H2.out H4.out.1).mono ?_); rintro e x5 hp; obtain ⟨rfl, g1, g2⟩ := xR hp; have H5 := Lh (And.intro g1 g2); clear hp g1 g2)
  |((with_reducible refine (fK.out w2 x4 x5 H2.out H5.out.1).mono ?_); rintro e x6 hp; obtain ⟨r, Q1, A4, n4, c4, B4, m4, d4, rfl, g1, g2, g3, g4⟩ := xC hp; have H6 := Lh (E5.out w2 x4 x5 x6 r Q1 A4 n4 c4 B4 m4 d4 H2.out H4.out.2 H5.out.2 g1 g2 g3 g4); have HR := Lh g1; clear hp g1 g2 g3 g4)
  |(refine wB rfl 25 (.tmp 9) (.tmp 24) rfl x6.heap.size 0 rfl (zV r.kind A4 n4 c4 B4 m4 d4) rfl H6.out.1 3 au ?_; intro x7 rQ; have H7 := Lh (H6.out.2 x7 rQ); clear rQ))
 (try simp only [Act.put]);obtain ⟨fv, u2, u3, u4, hpb⟩ := H7.out.1;have rD := hpb.cell (j := 1) rfl;have hca := hpb.cell (j := 2) rfl;clear hpb;obtain ⟨k1, ji⟩ := eX Q1.k;obtain ⟨s1, hs1⟩ := eX Q1.st;rw [<- ji] at rD;rw [<- hs1] at hca;have je := LH (k1 = Q1.k /\ s1 = Q1.st) ⟨ji, hs1⟩;have hr7 : x7.rangeAt x6.heap.size 0 (zV r.kind A4 n4 c4 B4 m4 d4) := fun j u hu => by rw [Nat.zero_add]; exact H7.out.2.2.1.cell hu
 by_cases hk : k1 = 1
 ·have vB := LH (Cz 19 #[.agg #[.int .i64 r.kind, .slice A4 n4 c4, .slice B4 m4 d4]] x7 (dB (fun _ => False) x7 (bP r))) (FJ (HC.out.2.2.below H7.out.2.2.2.2.1) r H7.out.2.2.2.2.2.1 H7.out.2.1);obtain ⟨K8, aX⟩ := eX ((bP r).kind);have lW := LH (∀ e x8, dB (fun _ => False) x7 (bP r) e x8 -> ∃ A8 n8 c8 B8 m8 d8, e = .returned (.agg #[.int .i64 K8, .slice A8 n8 c8, .slice B8 m8 d8]) /\ ae x8 w.heap.size zL 25 /\ ∀ x9, aT x8 x9 w.heap.size (zV K8 A8 n8 c8 B8 m8 d8) 25 -> vN true L S s w (.returned (.tuple #[.agg #[.int .i64 K8, .slice A8 n8 c8, .slice B8 m8 d8], .int .i64 (-1)])) x9 /\ ae x9 w.heap.size (zV K8 A8 n8 c8 B8 m8 d8) 25) fun e x8 hh => by
   obtain ⟨A8, n8, c8, B8, m8, d8, rfl, q1, q2⟩ := hh;have h7 := H7.out;have hs7 : w.heap.size < x7.heap.size := h7.2.2.2.1.lt;have aK := h7.2.2.2.2.1.trans (q2.mono h7.2.2.2.2.1.size);refine ⟨A8, n8, c8, B8, m8, d8, by rw [aX], h7.2.2.2.1.below q2 hs7, fun x9 hst => ⟨⟨bP r, -1, A8, n8, c8, B8, m8, d8, by rw [aX], ?_, hst.below aK (Nat.le_refl _), fun h => (by cases h), fun _ h => absurd h (by omega), fun _ _ => ⟨(⟨L, S, s, A, n, c, B, m, d, w2, w2.heap.size, w2.heap.size + 1 + 1 + 1, w2.heap.size + 1, w2.heap.size + 1 + 1, w2.heap.size + 1 + 1 + 1 + 1⟩ : Lx), rfl, rfl, rfl, r, Q1, HR.out, fun _ => ⟨rfl, rfl⟩, fun h => absurd (by rw [<- je.out.1]; exact hk) h⟩⟩, hst.1⟩⟩;exact (q1.grown (dG hst) (fun b hb e => by have := Option.some.inj e; rcases hb with hb | hb; (cases hb); omega)).mono fun b hb => by rcases hb with hb | hb; (cases hb); omega
  subst hk;clear ji hs1 aX
  go_wp2_with (first
   | (refine aG rfl (.tmp 9) rfl x6.heap.size (0) rfl r.kind A4 B4 n4 c4 m4 d4 hr7 ?_)
   | ((with_reducible refine vB.out.mono ?_); rintro e x8 hp; obtain ⟨A8, n8, c8, B8, m8, d8, rfl, q1⟩ := lW.out e x8 hp; have H8 := Lh q1; clear hp q1)
   | (refine wB rfl 25 (.tmp 6) (.tmp 34) rfl w.heap.size 0 rfl (zV K8 A8 n8 c8 B8 m8 d8) rfl H8.out.1 3 au ?_; intro x9 ag; have aR := Lh (H8.out.2 x9 ag); clear ag))
  exact gX rfl w.heap.size rfl (C := (zV K8 A8 n8 c8 B8 m8 d8)) (T := 25) aR.out.2 _ Tryz.underlying25 rfl au rfl (.int .i64 (-1)) rfl aR.out.1
 ·have b1 : ((k1 : Int) != 1) = true := by simp; omega
  have iT := LH (∀ W : World, W.heap = x7.heap -> W.cell? ⟨(w2.heap.size + 1 + 1 + 1 + 1), 2, none⟩ = some (.int .i64 (s1 : Int))) fun W h => (R6 h _).trans hca
  have HZ7 := Lh H7.out.2.2.2.1;have lW := LH (∀ x9, aT x7.drew x9 w.heap.size zL 25 -> vN true L S s w (.returned (.tuple #[.agg #[.int .i64 0, .slice none 0 0, .slice none 0 0], .int .i64 (s1 : Int)])) x9 /\ ae x9 w.heap.size zL 25 /\ x9.cell? ⟨(w2.heap.size + 1 + 1 + 1 + 1), 2, none⟩ = some (.int .i64 (s1 : Int))) fun x9 hst => by
   have h7 := H7.out;refine ⟨⟨.mk 0 [] [], s1, none, 0, 0, none, 0, 0, rfl, ak.flat _ x9 (by constructor <;> decide), hst.below (ah h7.2.2.2.2.1 (below_drewN (Below.refl _ _) 1)) (Nat.le_refl _), fun h => (by cases h), fun _ h => absurd h (by omega), fun _ _ => ⟨(⟨L, S, s, A, n, c, B, m, d, w2, w2.heap.size, w2.heap.size + 1 + 1 + 1, w2.heap.size + 1, w2.heap.size + 1 + 1, w2.heap.size + 1 + 1 + 1 + 1⟩ : Lx), rfl, rfl, rfl, r, Q1, HR.out, fun h => absurd (by rw [je.out.1]; exact h) hk, fun _ => ⟨rfl, by rw [je.out.2]⟩⟩⟩, hst.1, ?_⟩;exact hst.cell (by have := H2.out.size; simp at this; omega) hca
  clear ji hs1 hk;go_wp2_with fail;refine wp_region_held_drew (S := fun w' => w'.cell? ⟨(w2.heap.size + 1 + 1 + 1 + 1), 2, none⟩ = some (.int .i64 (s1 : Int))) (by kernel_rfl) (iT.out _ rfl) (fun cO => ?_);refine dP 0 ?_;refine dP 1 ?_;refine dP 2 ?_;refine wpAnyH_take (i := 3) (oi := { dst := some 32, op := Op.load 3 (Operand.tmp 31), type := 3, pos := "pattern.go:37", after := #[{ on := 2, ground := Ground.data }, { on := 4, ground := Ground.gcOnly Departure.lateStores }], guard := none }) (v := ?_) rfl (by kernel_rfl) (by kernel_rfl) (by kernel_rfl) (fun _ _ _ h => h) (Or.inl ⟨by rfl, ?_⟩) (by assumption) ?_
  rotate_left
  ·(intro w' hSw; (try dsimp only at hSw); go_simp; try with_reducible rfl)
  (try simp only [Act.put, pP]);refine wpAnyH_ready (rs := [4]) (by kernel_rfl) (by simp) ?_;refine AllReadyH.cons (o := ⟨none, .store 25 (.tmp 6) (.tmp 29), 0, _, _, none⟩) rfl (fun K0 hK => ?_) AllReadyH.nil
  refine GA rfl 25 (.tmp 6) (.tmp 29) rfl w.heap.size rfl zL rfl HZ7.out au rfl (by simp [Value.oneCell']) ?_;intro x9 ag;have aR := Lh (lW.out x9 ag);clear ag;refine hK.out _ _ aR.out.2.2 (fun hS1 => ?_);clear hK K0 cO;(try simp only [Act.put, pP]);refine dP 5 ?_;refine wpAnyH_done (by kernel_rfl) ?_ _;go_wp2_with fail;exact gX rfl w.heap.size rfl (C := zL) (T := 25) aR.out.2.1 _ Tryz.underlying25 rfl au rfl (.int .i64 (s1 : Int)) rfl aR.out.1
theorem UW (L : List Lt) (S : List fZ) (A B : Option Addr) (n c m d : Nat) (s : Alp.B) (AP : s.length <= 9223372036854775807) (V : Bool) (w : World) (hn : n = L.length) (hc : n <= c) (hm : c <= 9223372036854775807) (hS : iU w S B m d) (hL : Rd w A (lv L)) (kr : V = true -> n <= 60 /\ ∀ l ∈ L, l.text.length <= 1000000) (hT : DB w) (gK : ∀ W, Bw w W -> Calls Tryz.prog 43 #[.slice A n c] W (aU W V)) : Calls Tryz.prog 32 #[.string (tb s), .slice A n c, .slice B m d] w (vN V L S s w) := by
 cases V with
 |false => exact Si L S A B n c m d s AP false w hn hc hm hS hL kr hT gK rfl
 |true =>
  by_cases hl : 1024 < s.length
  ·exact UI L S A B n c m d s AP true w hn hc hm hS hL kr hT gK rfl hl
  ·exact P8 L S A B n c m d s AP true w hn hc hm hS hL kr hT gK rfl (by omega)
namespace Rgx
theorem ML {X Y : Lx} (hL : X.L = Y.L) (hS : X.S = Y.S) (hs : X.s = Y.s) (Q : PS) : cZ X Q = cZ Y Q := by unfold cZ; rw [hL, hS, hs]
theorem PR.same {X Y : Lx} (hL : X.L = Y.L) (hS : X.S = Y.S) (hs : X.s = Y.s) {t : Nat} {ks : List Rx} {Q : PS} {x : Rx} {Q1 : PS} (h : PR X t ks Q x Q1) : PR Y t ks Q x Q1 := by
 have ha := ML hL hS hs
 induction h with
 |altGo k1 p2 p3 bV ih3 => rw [ha] at bV; exact .altGo k1 bV ih3
 |altEnd k1 => exact .altEnd k1
 |seqGo k1 p2 p3 p4 bV ih3 ih4 => exact .seqGo k1 bV ih3 ih4
 |seqEnd k1 => exact .seqEnd k1
 |star k1 p2 bV => rw [ha] at bV; exact .star k1 bV
 |opt k1 p2 bV => rw [ha] at bV; exact .opt k1 bV
 |none k1 k2 => exact .none k1 k2
 |atom k1 => rw [ha]; exact .atom k1
 |paren k1 p2 p3 k4 bV ih3 => rw [ha] at bV ⊢; exact .paren k1 bV ih3 k4
 |bad k1 p2 p3 k4 bV ih3 => rw [ha] at bV; exact .bad k1 bV ih3 k4
theorem jD.same {X Y : Lx} (hL : X.L = Y.L) (hS : X.S = Y.S) (hs : X.s = Y.s) {Q Q1 : PS} {x : Rx} (h : jD X Q x Q1) : jD Y Q x Q1 := by
 obtain ⟨r, Q0, p1, p2⟩ := h;exact ⟨r, Q0, p1.same hL hS hs, p2.same hL hS hs⟩
theorem jD.one {X : Lx} {Q Q1 Q2 : PS} {x y : Rx} (h : jD X Q x Q1) (k : jD X Q y Q2) : x = y /\ Q1 = Q2 := by
 obtain ⟨r, Q0, p1, p2⟩ := h;obtain ⟨r', Q0', p1', p2'⟩ := k;obtain ⟨rfl, rfl⟩ := p1.one p1';exact p2.one p2'
theorem rf.same {X Y : Lx} (hL : X.L = Y.L) (hS : X.S = Y.S) (hs : X.s = Y.s) {x : Rx} {v : Int} (h : rf X x v) : rf Y x v := by
 obtain ⟨r, Q1, h1, h2, h3⟩ := h;rw [ML hL hS hs] at h1;exact ⟨r, Q1, h1.same hL hS hs, h2, h3⟩
end Rgx
structure gH (pb : Nat) (v : Value) (A : Option Addr) (n c : Nat) (fl : Bool) (t : Alp.B) (w : World) : Prop where
 box : ae w pb [.slice A n c, v, .bool fl] 92
 row : w.ownsRow (pb + 1) 5 1 v t.length (bs t)
theorem gH.lt {pb : Nat} {v : Value} {A : Option Addr} {n c : Nat} {fl : Bool} {t : Alp.B} {w : World} (h : gH pb v A n c fl t w) : pb < w.heap.size /\ ∀ g, v.ownBlock = some g -> pb < g /\ g < w.heap.size := ⟨h.box.lt, fun g hg => by have := h.row.lt g hg; omega⟩
theorem gH.below {pb : Nat} {v : Value} {A : Option Addr} {n c : Nat} {fl : Bool} {t : Alp.B} {w w1 : World} (h : gH pb v A n c fl t w) (hb : Bw w w1) : gH pb v A n c fl t w1 := ⟨h.box.below hb h.box.lt, gu h.row hb⟩
theorem gH.app {pb : Nat} {v v5 : Value} {A : Option Addr} {n c : Nat} {fl : Bool} {t ys : Alp.B} {w x w5 : World} (h : gH pb v A n c fl t w) (hb : Bw w x) (hown : w5.ownsRow (pb + 1) 5 1 v5 (t.length + ys.length) (bs t ++ bs ys)) (hg : x.grownBy w5 v.ownBlock) (hat : v5.ownBlock = v.ownBlock \/ v5.ownBlock = some x.heap.size) : ae w5 pb [.slice A n c, v, .bool fl] 92 /\ ∀ w9, aT w5 w9 pb [.slice A n c, v5, .bool fl] 92 -> gH pb v5 A n c fl (t ++ ys) w9 /\ Kp pb v w w9 /\ Nw w v v5 := by
 have hlt := h.lt;have hx := hb.size;have Kt : ae w5 pb [.slice A n c, v, .bool fl] 92 := (hg.block pb (by omega) (fun e => by have := hlt.2 pb e.symm; omega)).trans (h.box.below hb h.box.lt);refine ⟨Kt, fun w9 hst => ⟨⟨hst.1, ?_⟩, ?_, ?_⟩⟩
 ·have ho5 : v5.ownBlock ≠ some pb := fun e => by have := (hown.lt pb e).1; omega
  have h1 := hown.kept (row := some pb) (dG hst) (.inr ho5);rw [List.length_append, show bs (t ++ ys) = bs t ++ bs ys by simp [bs]];exact h1
 ·exact ⟨hst.2.2.2.1.trans (hg.os.trans hb.os), hst.2.2.2.2.1.trans (hg.tape.trans hb.tape), hst.2.2.2.2.2.trans (hg.output.trans hb.output), by rw [hst.2.2.1]; have := hg.size; omega, fun k hk h1 h2 => (hst.2.1 k h1).trans ((hg.block k (by omega) h2).trans (hb.block k hk))⟩
 ·exact hat.imp id fun h => ⟨_, h, hx⟩
def aW (pb : Nat) (v : Value) (A : Option Addr) (n c : Nat) (fl : Bool) (t : Alp.B) (w : World) (e : Ending) (w' : World) : Prop := e = .returned (.tuple #[]) /\ ∃ v', gH pb v' A n c fl t w' /\ Kp pb v w w' /\ Nw w v v'
theorem oW {pb : Nat} {v : Value} {A : Option Addr} {n c : Nat} {fl : Bool} {t : Alp.B} {w w' : World} {e : Ending} (h : aW pb v A n c fl t w e w') : e = .returned (.tuple #[]) /\ ∃ v', gH pb v' A n c fl t w' /\ Kp pb v w w' /\ Nw w v v' := h
theorem KC : (Tryz.prog.info? 45).map (·.size) = some 1 := by kernel_rfl
theorem mH {pb : Nat} {v : Value} {A : Option Addr} {n c : Nat} {fl : Bool} {t : Alp.B} (w : World) (h : gH pb v A n c fl t w) (b : UInt8) (ht : t.length <= 1000000000) : Calls Tryz.prog 107 #[.pointer (pt pb), .int .u8 (b.toNat : Int)] w (aW pb v A n c fl (t ++ [b]) w) := by
 obtain ⟨i0, aZ, hz0, hz1, hz2⟩ := info_parts KF;obtain ⟨B5, d5, hv, _⟩ := Rd.of_own h.row;obtain ⟨N5, bD⟩ := eX t.length;rw [<- bD] at hv;subst hv;obtain ⟨x, hx⟩ := eX (b.toNat : Int);have hb0 : w.cell? ⟨pb, 1, none⟩ = some (.slice B5 N5 d5) := h.box.cell (j := 1) rfl;have HO := LH (w.ownsRow (pb + 1) 5 1 (.slice B5 N5 d5) N5 (bs t) /\ pb < w.heap.size) ⟨by have h1 := h.row; rwa [<- bD] at h1, h.lt.1⟩;have iM := LH (∀ v5 w5, w5.ownsRow (pb + 1) 5 1 v5 (N5 + 1) (bs t ++ [.int .u8 x]) -> (w.alloc (.cells #[.int .u8 x] 5)).grownBy w5 (Value.slice B5 N5 d5).ownBlock -> (v5.ownBlock = (Value.slice B5 N5 d5).ownBlock \/ v5.ownBlock = some (w.alloc (.cells #[.int .u8 x] 5)).heap.size) -> ae w5 pb [.slice A n c, .slice B5 N5 d5, .bool fl] 92 /\ ∀ w9, aT w5 w9 pb [.slice A n c, v5, .bool fl] 92 -> aW pb (.slice B5 N5 d5) A n c fl (t ++ [b]) w (.returned (.tuple #[])) w9) fun v5 w5 hown hg hat => by
  rw [bD, hx] at hown;have h1 := h.app (ys := [b]) (ai w _) hown hg hat;exact ⟨h1.1, fun w9 hst => ⟨rfl, v5, h1.2 w9 hst⟩⟩
 have hs1 : N5 + 1 <= maxLen := by unfold maxLen; omega
 have hs2 : (N5 + 1) * 1 <= 140737488355328 := by omega
 rw [<- hx];clear h bD hx;go_enter Tryz.func107, Tryz.ntmps107
 go_wp2_with (first
  |(at_builtin; refine gW rfl (.tmp 8) (.tmp 10) 45 45 rfl (pb + 1) 5 i0 _ 1 1 Tryz.underlying45 aZ hz0 hz1 hz2 rfl _ _ _ rfl (gu HO.out.1 (ai _ _)) _ 1 [.int .u8 x] rfl (FD Tryz.underlying45 hz1 w (.int .u8 x) 5 rfl) hs1 hs2 (by have := HO.out.2; simp; omega) ?_; intro v9 w9 dJ dN fe; obtain ⟨A6, c6, fD, _⟩ := Rd.of_own dJ; subst fD; have aR := Lh (iM.out _ _ dJ dN fe); clear dJ dN fe)
  |(refine xA rfl 45 (.tmp 13) (.tmp 11) rfl pb 1 rfl A6 (N5 + 1) c6 rfl aR.out.1 (by simp) KC ?_; intro w8 oz; have bM := Lh (aR.out.2 w8 oz); clear oz))
 go_end0;exact bM.out
def qj (r : Rx) (N : Nat) : Bool := decide (r.syms.length = 1 /\ r.syms.getD 0 0 < (N : Int))
theorem Jo (r : Rx) (A B : Option Addr) (n c m d : Nat) (w : World) (h : aI w r A n c B m d) (pb : Nat) (AL : Option Addr) (N cN : Nat) (hp : w.cell? ⟨pb, 0, none⟩ = some (.slice AL N cN)) : Calls Tryz.prog 136 #[.pointer (pt pb), .agg #[.int .i64 r.kind, .slice A n c, .slice B m d]] w (aU w (qj r N)) := by
 obtain ⟨K, hK⟩ := eX r.kind;obtain ⟨V, hV⟩ := eX (qj r N);have yS := h.nlen;rw [<- hK, <- hV]
 by_cases n1 : n = 1
 ·subst n1;obtain ⟨x, hx⟩ : ∃ x, r.syms = [x] := by
   match hq : r.syms, yS with
   |[x], _ => exact ⟨x, rfl⟩
  obtain ⟨b, o, rfl, hcs⟩ := h.syms.open (by rw [hx]; simp [iv]);have h3 := hcs 0 (.int .i64 x) (by rw [hx]; rfl);rw [Nat.add_zero] at h3;have gN : ae (w.alloc (zC K (some ⟨b, o, none⟩) 1 c B m d)) w.heap.size (zV K (some ⟨b, o, none⟩) 1 c B m d) 25 := ae.at w _ _ 25 _ rfl rfl;have jH : Bw w (w.alloc (zC K (some ⟨b, o, none⟩) 1 c B m d)) := ai _ _;have jo := LH ((fun w' => w'.cell? ⟨w.heap.size, 1, none⟩ = some (.slice (some ⟨b, o, none⟩) 1 c) /\ w'.cell? ⟨b, o, none⟩ = some (.int .i64 x) /\ w'.cell? ⟨pb, 0, none⟩ = some (.slice AL N cN)) (w.alloc (zC K (some ⟨b, o, none⟩) 1 c B m d)).drew) ⟨gN.cell (j := 1) rfl, (jH.cell (p := ⟨b, o, none⟩) (World.block_lt_of_cell? w _ h3)).trans h3, (jH.cell (p := ⟨pb, 0, none⟩) (World.block_lt_of_cell? w _ hp)).trans hp⟩;have HVD := LH (V = decide (x < (N : Int))) (by rw [hV]; unfold qj; rw [hx]; simp);have kZ := Lh jH;clear h hK hV yS hx hcs h3 hp gN jH;go_enter Tryz.func136, Tryz.ntmps136;go_wp2_with fail;refine wp_region_held_drew (S := fun w' => w'.cell? ⟨w.heap.size, 1, none⟩ = some (.slice (some ⟨b, o, none⟩) 1 c) /\ w'.cell? ⟨b, o, none⟩ = some (.int .i64 x) /\ w'.cell? ⟨pb, 0, none⟩ = some (.slice AL N cN)) (by kernel_rfl) (jo.out) (fun cO => ?_);refine bJ 0 ?_;refine bJ 1 ?_;refine bJ 2 ?_;refine bJ 3 ?_;refine bJ 4 ?_;refine bJ 5 ?_;refine bJ 6 ?_;refine bJ 7 ?_;refine bJ 8 ?_;refine bJ 9 ?_;refine bJ 10 ?_;refine bJ 11 ?_;refine bJ 12 ?_;refine bJ 13 ?_;refine bJ 14 ?_;refine bJ 15 ?_;refine bJ 16 ?_;refine wpAnyH_done (by kernel_rfl) ?_ _;go_wp2_with fail;go_ret;exact ⟨by rw [HVD.out]; rfl, ah kZ.out (below_drewN (Below.refl _ _) 1)⟩
 ·have fV := LH (V = false) (by rw [hV]; unfold qj; rw [<- yS]; simp [n1]);have e2 : ((n : Int) == 1) = false := bF (by omega);have gN : ae (w.alloc (zC K A n c B m d)) w.heap.size (zV K A n c B m d) 25 := ae.at w _ _ 25 _ rfl rfl;have jH : Bw w (w.alloc (zC K A n c B m d)) := ai _ _;have jo := LH ((fun w' => w'.cell? ⟨w.heap.size, 1, none⟩ = some (.slice A n c)) (w.alloc (zC K A n c B m d)).drew) (gN.cell (j := 1) rfl);have kZ := Lh jH;clear h hK hV yS hp gN jH n1;go_enter Tryz.func136, Tryz.ntmps136;go_wp2_with fail;refine wp_region_held_drew (S := fun w' => w'.cell? ⟨w.heap.size, 1, none⟩ = some (.slice A n c)) (by kernel_rfl) (jo.out) (fun cO => ?_);refine dP 0 ?_;refine dP 1 ?_;refine dP 2 ?_;refine dP 3 ?_;refine dP 4 ?_;refine wS 5 ?_;refine wS 6 ?_;refine wS 7 ?_;refine wS 8 ?_;refine wS 9 ?_;refine wS 10 ?_;refine wS 11 ?_;refine wS 12 ?_;refine wS 13 ?_;refine wS 14 ?_;refine dP 15 ?_;refine dP 16 ?_;refine wpAnyH_done (by kernel_rfl) ?_ _;go_wp2_with fail;go_ret;exact ⟨by rw [fV.out]; rfl, ah kZ.out (below_drewN (Below.refl _ _) 1)⟩
namespace Rgx
theorem Kp.grown {mb G : Nat} {v : Value} {w w1 w2 : World} (h : Kp mb v w w1) (hg : w1.grownBy w2 (some G)) (hG : w.heap.size <= G \/ G = mb \/ v.ownBlock = some G) : Kp mb v w w2 := ⟨hg.os.trans h.os, hg.tape.trans h.tape, hg.output.trans h.output, Nat.le_trans h.size hg.size, fun k hk hm ho => (hg.block k (Nat.lt_of_lt_of_le hk h.size) (fun e => by
 obtain rfl := Option.some.inj e
 rcases hG with hG | hG | hG
 ·omega
 ·exact hm hG
 ·exact ho hG.symm)).trans (h.block k hk hm ho)⟩
theorem Nw.of {w w1 : World} {v v1 : Value} (h : Nw w1 v v1) (hs : w.heap.size <= w1.heap.size) : Nw w v v1 := h.imp id fun ⟨g, e, hg⟩ => ⟨g, e, Nat.le_trans hs hg⟩
theorem Nw.ne {w : World} {v v1 : Value} (h : Nw w v v1) {b : Nat} (hb : b < w.heap.size) (hv : v.ownBlock ≠ some b) : v1.ownBlock ≠ some b := fun e => by
 rcases h with h | ⟨g, h, hg⟩
 ·exact hv (h.symm.trans e)
 ·rw [h] at e; obtain rfl := Option.some.inj e; omega
theorem bZ.len {q : Nat -> Prop} {mb : Nat} {v : Value} {M : List St} {w : World} (h : bZ q mb v M w) : ∃ B d, v = .slice B M.length d /\ M.length <= d /\ d <= maxLen := by
 obtain ⟨xs, _, hO⟩ := h.row;obtain ⟨B, d, e, _, h2, h3⟩ := Rd.of_own hO;exact ⟨B, d, e, h2, h3⟩
theorem bZ.at {q : Nat -> Prop} {mb g k dd : Nat} {M : List St} {w : World} {nn : Nat} (h : bZ q mb (.slice (pt g) nn dd) M w) (hk : k < M.length) : ∃ A n c, w.cell? ⟨g, k * 2, none⟩ = some (.int .u64 ((M[k].1 : Nat) : Int)) /\ w.cell? ⟨g, k * 2 + 1, none⟩ = some (.slice A n c) /\ gy (fun b => q b /\ b ≠ mb /\ some b ≠ some g) w M[k].2 A n c := by
 obtain ⟨xs, hC, hO⟩ := h.row;obtain ⟨A, n, c, e1, e2, e3⟩ := hC.2 k hk;obtain ⟨B, d, e, _⟩ := Rd.of_own hO;rw [Value.slice.injEq] at e;obtain ⟨_, rfl, _⟩ := e;exact ⟨A, n, c, (hO.cellAt (k * 2) (by omega)).trans e1, (hO.cellAt (k * 2 + 1) (by omega)).trans e2, e3⟩
theorem bZ.place {q : Nat -> Prop} {mb : Nat} {v : Value} {M : List St} {w : World} (h : bZ q mb v M w) (hM : M ≠ []) : ∃ g d, v = .slice (pt g) M.length d /\ mb < g /\ g < w.heap.size /\ M.length <= d /\ d <= maxLen := by
 obtain ⟨xs, hC, hO⟩ := h.row
 rcases hO.2 with ⟨e, e2⟩ | ⟨g, cap, cur, e, hbg, hg, hn, hm, _⟩
 ·exact absurd (List.eq_nil_of_length_eq_zero e2) hM
 ·exact ⟨g, cap, e, by omega, (Array.getElem?_eq_some_iff.1 hg).1, hn, hm⟩
theorem bZ.store {q : Nat -> Prop} {mb g k dd nn b : Nat} {M : List St} {w : World} (h : bZ q mb (.slice (pt g) nn dd) M w) (hk : k < M.length) (hb : M[k].1 = b) {l : List Nat} {A : Option Addr} {n c : Nat} (hn : gy (fun b => q b /\ b ≠ mb /\ some b ≠ some g) w l A n c) : bZ q mb (.slice (pt g) nn dd) (M.set k (b, l)) (w.setCell ⟨g, k * 2 + 1, none⟩ (.slice A n c)) /\ w.grownBy (w.setCell ⟨g, k * 2 + 1, none⟩ (.slice A n c)) (some g) := by
 obtain ⟨xs, hC, hO⟩ := h.row;obtain ⟨B, d, e, _⟩ := Rd.of_own hO;rw [Value.slice.injEq] at e;obtain ⟨_, rfl, _⟩ := e;have hst := hO.stored (k * 2 + 1) (.slice A n c);have AQ := h.lt;have hk2 : ∀ bb o, (q bb /\ bb ≠ mb /\ some bb ≠ some g) /\ bb < w.heap.size -> (w.setCell ⟨g, k * 2 + 1, none⟩ (.slice A n c)).cell? ⟨bb, o, none⟩ = w.cell? ⟨bb, o, none⟩ := fun bb o hp => World.cell?_of_block (hst.2.block bb hp.2 hp.1.2.2)
 refine ⟨⟨h.box.set_other ⟨g, k * 2 + 1, none⟩ _ (by have := (AQ.2 g rfl).1; show mb ≠ g; omega), xs.set (k * 2 + 1) (.slice A n c), ((hC.lt.keep hk2).mono fun b hp => hp.1).set hk hb ((hn.lt.keep hk2).mono fun b hp => hp.1), ?_⟩, hst.2⟩;rw [List.length_set];exact hst.1
end Rgx
theorem CP {q : Nat -> Prop} {mb : Nat} {v : Value} {M' : List St} {t : Nat} {w w0 w' : World} {e : Ending} (hb : Bw w0 w) (h : jV q mb v M' t w e w') : jV q mb v M' t w0 e w' := by
 obtain ⟨v', he, h1, h2, h3⟩ := h;exact ⟨v', he, h1, (Kp.of_below hb).tr (Nw.refl _ _) h2, h3.of hb.size⟩
def lZ (r : Rx) : Int := az r * az r
theorem FX (r : Rx) : az r <= lZ r /\ 1 <= lZ r := by
 have h1 := fQ r;have h2 : az r * 1 <= az r * az r := Int.mul_le_mul_of_nonneg_left h1 (by omega);unfold lZ;omega
theorem Ms {r : Rx} (h : lZ r <= 1000000000) : az r <= 31623 := by
 refine Classical.byContradiction fun h1 => ?_
 have h2 : (31624 : Int) * 31624 <= az r * az r := Int.mul_le_mul (by omega) (by omega) (by omega) (by have := fQ r; omega);unfold lZ at h;omega
theorem Mq {r y : Rx} {a : Int} (ha : 0 <= a) (h : az y + a + 1 <= az r) : lZ y + a + 1 <= lZ r := by
 have hy := fQ y;have h1 : (az y + a + 1) * (az y + a + 1) <= az r * az r := Int.mul_le_mul h h (by omega) (by omega);have h2 : (az y + a + 1) * (az y + a + 1) = az y * az y + (az y * (a + 1) + (a + 1) * (az y + a + 1)) := by rw [Int.add_assoc, Int.add_mul, Int.mul_add, Int.add_assoc]
 have h3 : 0 <= az y * (a + 1) := Int.mul_nonneg (by omega) (by omega);have h4 : (a + 1) * 1 <= (a + 1) * (az y + a + 1) := Int.mul_le_mul_of_nonneg_left (by omega) (by omega);unfold lZ;omega
def qR (r : Rx) : Prop := ∀ (q : Nat -> Prop) (mb : Nat) (v : Value) (M : List St) (w : World) (K : Int) (A B : Option Addr) (n c m d t2 : Nat), K = r.kind -> (∀ b, w.heap.size <= b -> q b) -> bZ q mb v M w -> t2 < M.length -> (M.length : Int) + lZ r <= 1000000000 -> ak (fun b => b ≠ mb /\ some b ≠ v.ownBlock) w r A n c B m d -> Calls Tryz.prog 60 #[.pointer (pt mb), .agg #[.int .i64 K, .slice A n c, .slice B m d], .int .i64 (t2 : Int)] w (jV q mb v (aN M t2 r).1 (aN M t2 r).2 w)
theorem Gu {r : Rx} (h : qR r) {q : Nat -> Prop} {mb : Nat} {v : Value} {M : List St} {w : World} {K : Int} {A B : Option Addr} {n c m d t2 : Nat} (hK : K = r.kind) (hq : ∀ b, w.heap.size <= b -> q b) (hM : bZ q mb v M w) (ht : t2 < M.length) (hc : (M.length : Int) + lZ r <= 1000000000) (hr : ak (fun b => b ≠ mb /\ some b ≠ v.ownBlock) w r A n c B m d) : Calls Tryz.prog 60 #[.pointer (pt mb), .agg #[.int .i64 K, .slice A n c, .slice B m d], .int .i64 (t2 : Int)] w (jV q mb v (aN M t2 r).1 (aN M t2 r).2 w) := h q mb v M w K A B n c m d t2 hK hq hM ht hc hr
theorem NZ {P : Program} {w : World} {ops : Array Oper} {o : Oper} {a : Act} {KK : Act -> World -> Prop} {Q : Exit -> Act -> World -> Prop} {E : Prop} (hgd : o.guard = none) (s x : Operand) (t tx : TypeId)
  (ho : o.op = .call { callee := .builtin .append, args := #[s, x], argTypes := #[t, tx] })
  (e : TypeId) (i : TypeInfo) (z : Value) (size bytes : Nat) (ht : P.underlying t = some (.slice e)) (hi : P.info? e = some i) (hz : i.zero = some z) (hsize : i.size = size) (hby : i.bytes = bytes) (hzs : z.cells.size = size)
  (b : Addr) (n cc : Nat) (olds : List Value) (hs : a.eval s = .slice (some b) n cc) (hlo : olds.length = n * size) (holds : ∀ j u, olds[j]? = some u -> w.cell? (b.add j) = some u)
  (y : Value) (m : Nat) (news : List Value) (hx : a.eval x = y) (jl : Src P i.size tx y m news w) (hm : 0 < m) (WQ : cc < n + m) (h63 : n + m <= maxLen) (hbytes : (n + m) * bytes <= 140737488355328)
  (h : ∀ cap w', w'.ownsRow w.heap.size e size (.slice (pt w.heap.size) (n + m) cap) (n + m) (olds ++ news) -> Bw w w' -> w.heap.size < w'.heap.size -> KK (a.put o.dst (.slice (pt w.heap.size) (n + m) cap)) w') :
  if Region.wanted o (yielded ops a.tmps) = true then Oper.wp P o a w KK Q else E := by
 subst hsize; subst hby
 rw [if_pos (by simp [Region.wanted, hgd])];have hr := run_append_grow_src (P := P) (ty := o.type) w t tx e i z ht hi hz (some b) n cc olds (run_firstCells_some w.drew i.size n b n cc olds hlo (by simpa using holds)) y m news jl WQ (by unfold maxLen at h63; omega) (growslice_fits (by omega) hbytes);unfold Oper.wp execOp;simp only [ho, resolve, invoke, builtin, Sem.run_bind, Sem.run_pure, Result.andThen_ok, List.map_toArray, List.map_cons, List.map_nil, hs, hx, hr];have hlen : (olds ++ news).length = (n + m) * i.size := by rw [List.length_append, hlo, jl.newsLen, <- Nat.add_mul]
 have xn := grownCap_ge w (n + m) cc e;refine h _ _ ⟨hlen, .inr ⟨w.heap.size, _, _, rfl, Nat.le_refl _, heap_alloc_new w.drew _, xn, grownCap_le_maxLen w (n + m) cc e h63, ?_, ?_⟩⟩ ⟨rfl, rfl, rfl, by simp, fun k hk => Below.heap_alloc w.drew _ k hk⟩ (by simp)
 ·simp only [Array.size_append, List.size_toArray, size_zeroCells, hzs, hlen, <- Nat.add_mul]
  congr 1
  omega
 ·simp only [Array.toList_append];rw [<- hlen];exact List.take_left
theorem xL {w W : World} {mb t2 : Nat} {v : Value} {K : Int} {A B : Option Addr} {n c m d : Nat} (hl : mb < w.heap.size /\ ∀ g, v.ownBlock = some g -> mb < g /\ g < w.heap.size) (h : Kp mb v (((w.alloc (.cells #[.pointer (pt mb)] 107)).alloc (zC K A n c B m d)).alloc (.cells #[.int .i64 (t2 : Int)] 3)) W) : ae W w.heap.size [.pointer (pt mb)] 107 /\ ae W (w.heap.size + 1) (zV K A n c B m d) 25 /\ ae W (w.heap.size + 1 + 1) [.int .i64 (t2 : Int)] 3 := by
 have h1 : ae (((w.alloc (.cells #[.pointer (pt mb)] 107)).alloc (zC K A n c B m d)).alloc (.cells #[.int .i64 (t2 : Int)] 3)) w.heap.size [.pointer (pt mb)] 107 := ((ae.at w [.pointer (pt mb)] _ 107 _ rfl rfl).alloc _).alloc _;have h2 : ae (((w.alloc (.cells #[.pointer (pt mb)] 107)).alloc (zC K A n c B m d)).alloc (.cells #[.int .i64 (t2 : Int)] 3)) (w.heap.size + 1) (zV K A n c B m d) 25 := (ae.at (w.alloc (.cells #[.pointer (pt mb)] 107)) (zV K A n c B m d) _ 25 _ rfl (by simp)).alloc _;have h3 : ae (((w.alloc (.cells #[.pointer (pt mb)] 107)).alloc (zC K A n c B m d)).alloc (.cells #[.int .i64 (t2 : Int)] 3)) (w.heap.size + 1 + 1) [.int .i64 (t2 : Int)] 3 := ae.at ((w.alloc (.cells #[.pointer (pt mb)] 107)).alloc (zC K A n c B m d)) [.int .i64 (t2 : Int)] _ 3 _ rfl (by simp);have hne : ∀ b, w.heap.size <= b -> b ≠ mb /\ some b ≠ v.ownBlock := fun b hb => ⟨by omega, fun e => by have := (hl.2 b e.symm).2; omega⟩
 exact ⟨h.blk h1 (hne _ (by omega)).1 (hne _ (by omega)).2, h.blk h2 (hne _ (by omega)).1 (hne _ (by omega)).2, h.blk h3 (hne _ (by omega)).1 (hne _ (by omega)).2⟩
theorem l5 {w W0 W : World} {mb : Nat} {v v1 : Value} {x : Rx} {A B : Option Addr} {n c m d : Nat} (h : ak (fun b => b ≠ mb /\ some b ≠ v.ownBlock) w x A n c B m d) (hb : Bw w W0) (hk : Kp mb v W0 W) (hn : Nw W0 v v1) : ak (fun b => b ≠ mb /\ some b ≠ v1.ownBlock) W x A n c B m d := by
 have h1 := h.lt7.keep (W := W) fun b o hp => (World.cell?_of_block ((hk.block b (Nat.lt_of_lt_of_le hp.2 hb.size) hp.1.1 hp.1.2).trans (hb.block b hp.2)))
 refine h1.mono fun b hp => ⟨hp.1.1, fun e => ?_⟩
 rcases hn with hn | ⟨g, hg, hl⟩
 ·exact hp.1.2 (e.trans hn)
 ·rw [hg] at e; obtain rfl := Option.some.inj e; have h1 := hp.2; have h2 := hb.size; omega
theorem NV {P : Program} {w : World} {ops : Array Oper} {o : Oper} {a : Act} {KK : Act -> World -> Prop} {Q : Exit -> Act -> World -> Prop} {E : Prop} (hgd : o.guard = none) (ty : TypeId) (x y : Operand) (ho : o.op = .store ty x y)
  (g j : Nat) (hx : a.eval x = .pointer (some ⟨g, j, none⟩)) (u : Value) (hu : u.cells = #[u]) (D8 : u.oneCell' = true) (hy : a.eval y = u) (hc : (w.cell? ⟨g, j, none⟩).isSome = true) (hf : w.frozen? ⟨g, j, none⟩ = false) (hi : (P.info? ty).map (·.size) = some 1)
  (h : KK (a.put o.dst undef) (w.setCell ⟨g, j, none⟩ u)) : if Region.wanted o (yielded ops a.tmps) = true then Oper.wp P o a w KK Q else E := by
 rw [if_pos (by simp [Region.wanted, hgd])];have hst := run_storeCells_cells (P := P) g j [u] 0 w (fun i hi => by
    have h0 : i = 0 := by simpa using hi
    subst h0; exact hc) (fun i hi => by
    have h0 : i = 0 := by simpa using hi
    subst h0; exact hf) (fun v hv => by
    have hv' : v = u := by simpa using hv
    subst hv'; exact D8)
 have hrun : (Instr.storeAt ty (.pointer (some ⟨g, j, none⟩)) u).run P w = .ok () (w.setCell ⟨g, j, none⟩ u) := by
  cases hq : P.info? ty with
  | none => simp [hq] at hi
  | some i =>
    have hi' : i.size = 1 := by simpa [hq] using hi
    have hst' : (storeCells ⟨g, j, none⟩ [u] 0).run P w = .ok () (w.setCell ⟨g, j, none⟩ u) := hst;simp [Instr.storeAt, Instr.sureAddr, storeVar, sizeOf, typeInfo, hq, hi', hu, hst']
 unfold Oper.wp execOp;simp only [ho, hx, hy, Sem.run_bind, Sem.run_pure, Result.andThen_ok, hrun];exact h
theorem Rgx.bZ.frozen {q : Nat -> Prop} {mb g dd : Nat} {M : List St} {w : World} {nn : Nat} (h : bZ q mb (.slice (pt g) nn dd) M w) (j : Nat) : w.frozen? ⟨g, j, none⟩ = false := by
 obtain ⟨xs, hC, hO⟩ := h.row;obtain ⟨B, d, e, _⟩ := Rd.of_own hO;rw [Value.slice.injEq] at e;obtain ⟨_, rfl, _⟩ := e;exact hO.frozenAt j
theorem LQ {P : Program} {w : World} {ops : Array Oper} {o : Oper} {a : Act} {KK : Act -> World -> Prop} {Q : Exit -> Act -> World -> Prop} {E : Prop} (hgd : o.guard = none) (ty : TypeId) (x y : Operand) (ho : o.op = .store ty x y)
  (g j : Nat) (hx : a.eval x = .pointer (some ⟨g, j, none⟩)) (u : Value) (hu : u.cells = #[u]) (D8 : u.oneCell' = true) (hy : a.eval y = u) {C : List Value} {T : TypeId} (hb : ae w g C T) (hj : j < C.length) (hi : (P.info? ty).map (·.size) = some 1)
  (h : ∀ w1, aT w w1 g (C.set j u) T -> KK (a.put o.dst undef) w1) : if Region.wanted o (yielded ops a.tmps) = true then Oper.wp P o a w KK Q else E := by
 rw [if_pos (by simp [Region.wanted, hgd])];have hst := run_storeCells_cells (P := P) g j [u] 0 w (fun i hi => by
    have h0 : i = 0 := by simpa using hi
    subst h0; exact (hb.there j 1 (by omega) 0 (by omega)).1) (fun i hi => by
    have h0 : i = 0 := by simpa using hi
    subst h0; exact (hb.there j 1 (by omega) 0 (by omega)).2) (fun v hv => by
    have hv' : v = u := by simpa using hv
    subst hv'; exact D8)
 have hrun : (Instr.storeAt ty (.pointer (some ⟨g, j, none⟩)) u).run P w = .ok () (w.setCell ⟨g, j, none⟩ u) := by
  cases hq : P.info? ty with
  | none => simp [hq] at hi
  | some i =>
    have hi' : i.size = 1 := by simpa [hq] using hi
    have hst' : (storeCells ⟨g, j, none⟩ [u] 0).run P w = .ok () (w.setCell ⟨g, j, none⟩ u) := hst;simp [Instr.storeAt, Instr.sureAddr, storeVar, sizeOf, typeInfo, hq, hi', hu, hst']
 unfold Oper.wp execOp;simp only [ho, hx, hy, Sem.run_bind, Sem.run_pure, Result.andThen_ok, hrun];exact h _ (aT.of_setCell hb j _)
theorem WL {ns : List Nat} {i m t : Nat} (hl : ns.length = i) (hi : i < m) : (iv (nl (ns ++ List.replicate (m - i) 0))).set i (.int .i64 (t : Int)) = iv (nl ((ns ++ [t]) ++ List.replicate (m - (i + 1)) 0)) := by
 subst hl;have e : List.replicate (m - ns.length) 0 = 0 :: List.replicate (m - (ns.length + 1)) 0 := by
  rw [show m - ns.length = (m - (ns.length + 1)) + 1 by omega, List.replicate_succ]
 rw [e];simp only [nl, iv, List.map_append, List.map_cons];rw [List.set_append_right _ _ (by simp)];simp
theorem Sy {ns : List Nat} {i m : Nat} (hl : ns.length = i) (hi : i < m) : (iv (nl (ns ++ List.replicate (m - i) 0)))[i]? = some (.int .i64 0) := by
 subst hl;simp only [nl, iv, List.map_append];rw [List.getElem?_append_right (by simp)];simp [List.getElem?_replicate];omega
theorem nx_len {ns : List Nat} {i m : Nat} (hl : ns.length = i) (hi : i <= m) : (iv (nl (ns ++ List.replicate (m - i) 0))).length = m := by simp [nl, iv]; omega
theorem NR (n : Nat) (hn : n <= 1000000) (w : World) : (Instr.makeSlice 22 (.int .i64 (n : Int)) (.int .i64 (n : Int))).run Tryz.prog w = .ok (.slice (pt w.heap.size) n n) (w.alloc (.cells (iv (List.replicate n 0)).toArray 3)) := by
 obtain ⟨i0, aZ, hz0, hz1, hz2⟩ := info_parts BK;have h := run_make (P := Tryz.prog) w 22 3 i0 _ Tryz.underlying22 aZ hz0 .i64 .i64 (n : Int) (n : Int) (by omega) (Int.le_refl _) (by rw [hz2]; omega) (by omega);have e : madeCells (Value.int .i64 0).cells n = (iv (List.replicate n 0)).toArray := by
  apply Array.ext
  ·simp [iv, madeCells]
  ·intro i h1 h2;simp [madeCells, iv, Value.cells, Nat.mod_one]
 simpa [hz1, e] using h
theorem Te (r : Rx) (hv : aC r = true) (hseq : r.kind = 3 -> qR r) (ih : ∀ x ∈ r.kids, qR x) : qR r := by
 intro q mb v M w K A B n c m d t2 hK hq hM ht hc h
 by_cases k3 : K = 3
 ·exact hseq (hK.symm.trans k3) q mb v M w K A B n c m d t2 hK hq hM ht hc h
 obtain ⟨j0, sG, nP, iG, gY⟩ := info_parts BK;have HX := LH (ak (fun b => b ≠ mb /\ some b ≠ v.ownBlock) w r A n c B m d /\ K = r.kind /\ aC r = true) ⟨h, hK, hv⟩;have HQ := Lh hq;have lD := Lh hc;have HT := Lh ht;have dH := Lh ih;have dQ := LH (ae (((w.alloc (.cells #[.pointer (pt mb)] 107)).alloc (zC K A n c B m d)).alloc (.cells #[.int .i64 (t2 : Int)] 3)) w.heap.size [.pointer (pt mb)] 107 /\ ae (((w.alloc (.cells #[.pointer (pt mb)] 107)).alloc (zC K A n c B m d)).alloc (.cells #[.int .i64 (t2 : Int)] 3)) (w.heap.size + 1) (zV K A n c B m d) 25 /\ ae (((w.alloc (.cells #[.pointer (pt mb)] 107)).alloc (zC K A n c B m d)).alloc (.cells #[.int .i64 (t2 : Int)] 3)) (w.heap.size + 1 + 1) [.int .i64 (t2 : Int)] 3 /\ Bw w (((w.alloc (.cells #[.pointer (pt mb)] 107)).alloc (zC K A n c B m d)).alloc (.cells #[.int .i64 (t2 : Int)] 3))) ⟨((ae.at w [.pointer (pt mb)] _ 107 _ rfl rfl).alloc _).alloc _, (ae.at (w.alloc (.cells #[.pointer (pt mb)] 107)) (zV K A n c B m d) _ 25 _ rfl (by simp)).alloc _, ae.at ((w.alloc (.cells #[.pointer (pt mb)] 107)).alloc (zC K A n c B m d)) [.int .i64 (t2 : Int)] _ 3 _ rfl (by simp), aF (aF (ai _ _) _) _⟩;have tJ := LH (w.heap.size <= (((w.alloc (.cells #[.pointer (pt mb)] 107)).alloc (zC K A n c B m d)).alloc (.cells #[.int .i64 (t2 : Int)] 3)).heap.size) dQ.out.2.2.2.size;have jG := LH (mb < w.heap.size /\ ∀ g, v.ownBlock = some g -> mb < g /\ g < w.heap.size) hM.lt;have yx := LH (bZ q mb v M (((w.alloc (.cells #[.pointer (pt mb)] 107)).alloc (zC K A n c B m d)).alloc (.cells #[.int .i64 (t2 : Int)] 3))) (hM.below dQ.out.2.2.2)
 clear hseq ih h hK hq hM ht hc hv
 by_cases k1 : K = 1
 ·skip
  have hc3 := (dQ.out).1.cell (j := 0) rfl;have BF := (dQ.out).2.1.cell (j := 0) rfl;have EI := (dQ.out).2.1.cell (j := 1) rfl;have wO := (dQ.out).2.1.cell (j := 2) rfl;have wN := (dQ.out).2.2.1.cell (j := 0) rfl;have pJ : (K == 1) = true := bT (by omega);have HL := LH (aN M t2 r = (M, t2)) (by rw [qf, if_pos (by rw [<- HX.out.2.1]; exact k1)]);have HR := LH (jV q mb v (aN M t2 r).1 (aN M t2 r).2 w (.returned (.int .i64 (t2 : Int))) (((w.alloc (.cells #[.pointer (pt mb)] 107)).alloc (zC K A n c B m d)).alloc (.cells #[.int .i64 (t2 : Int)] 3))) (by rw [HL.out]; exact ⟨v, rfl, yx.out, Kp.of_below dQ.out.2.2.2, Nw.refl _ _⟩);clear k1;go_enter Tryz.func60, Tryz.ntmps60;go_wp2_with fail;go_ret;exact HR.out
 ·by_cases k2 : K = 2
  ·skip
   have hc3 := (dQ.out).1.cell (j := 0) rfl;have BF := (dQ.out).2.1.cell (j := 0) rfl;have EI := (dQ.out).2.1.cell (j := 1) rfl;have wO := (dQ.out).2.1.cell (j := 2) rfl;have wN := (dQ.out).2.2.1.cell (j := 0) rfl;have pJ : (K == 1) = false := bF (by omega);have sF : (K == 2) = true := bT (by omega);have HL := LH (aN M t2 r = (M ++ [(jK r.syms, [t2])], M.length)) (by rw [qf, if_neg (by rw [<- HX.out.2.1]; exact k1), if_pos (by rw [<- HX.out.2.1]; exact k2)]);have iT := LH (∀ W, Below (((w.alloc (.cells #[.pointer (pt mb)] 107)).alloc (zC K A n c B m d)).alloc (.cells #[.int .i64 (t2 : Int)] 3)).heap.size (((w.alloc (.cells #[.pointer (pt mb)] 107)).alloc (zC K A n c B m d)).alloc (.cells #[.int .i64 (t2 : Int)] 3)) W -> (fun w' => w'.cell? ⟨w.heap.size, 0, none⟩ = some (.pointer (pt mb)) /\ w'.cell? ⟨(w.heap.size + 1), 1, none⟩ = some (.slice A n c) /\ w'.cell? ⟨(w.heap.size + 1 + 1), 0, none⟩ = some (.int .i64 (t2 : Int))) W) fun W hb => by
    have h1 := xL (A := A) (B := B) (n := n) (c := c) (m := m) (d := d) (K := K) (t2 := t2) jG.out (Kp.of_below hb);exact ⟨h1.1.cell (j := 0) rfl, h1.2.1.cell (j := 1) rfl, h1.2.2.cell (j := 0) rfl⟩
   have Pp := LH (∀ W, Below (((w.alloc (.cells #[.pointer (pt mb)] 107)).alloc (zC K A n c B m d)).alloc (.cells #[.int .i64 (t2 : Int)] 3)).heap.size (((w.alloc (.cells #[.pointer (pt mb)] 107)).alloc (zC K A n c B m d)).alloc (.cells #[.int .i64 (t2 : Int)] 3)) W -> Cz 91 #[.slice A n c] W fun e w' => e = .returned (.int .u64 (jK r.syms : Nat)) /\ Bw W w') fun W hb => Jr r.syms A n c HX.out.1.o.nlen HX.out.1.o.ncap HX.out.1.o.cmax (Ce HX.out.2.2) W ((HX.out.1.o.below (ah dQ.out.2.2.2 hb)).syms)
   have PT := LH (∀ W g, Below (((w.alloc (.cells #[.pointer (pt mb)] 107)).alloc (zC K A n c B m d)).alloc (.cells #[.int .i64 (t2 : Int)] 3)).heap.size (((w.alloc (.cells #[.pointer (pt mb)] 107)).alloc (zC K A n c B m d)).alloc (.cells #[.int .i64 (t2 : Int)] 3)) W -> (((w.alloc (.cells #[.pointer (pt mb)] 107)).alloc (zC K A n c B m d)).alloc (.cells #[.int .i64 (t2 : Int)] 3)).heap.size <= g -> ae W g [.int .i64 (t2 : Int)] 3 -> Cz 59 #[.pointer (pt mb), .int .u64 (jK r.syms : Nat), .slice (pt g) 1 1] W (jV q mb v (M ++ [(jK r.syms, [t2])]) M.length W)) fun W g hb hg gN => BQ W (fun b h => HQ.out b (Nat.le_trans tJ.out (Nat.le_trans hb.size h))) (yx.out.below hb) _ [t2] (pt g) 1 1 (gy.of_blk (l := [t2]) gN (by simp) ⟨HQ.out g (Nat.le_trans tJ.out hg), by have h1 := jG.out.1; have h2 := tJ.out; omega, fun e => by have h1 := (jG.out.2 g e.symm).2; have h2 := tJ.out; omega⟩) (by have := lD.out; have := FX r; omega)
   clear k1 k2;go_enter Tryz.func60, Tryz.ntmps60;go_wp2_with fail;refine wp_region_held_drew (S := fun w' => w'.cell? ⟨w.heap.size, 0, none⟩ = some (.pointer (pt mb)) /\ w'.cell? ⟨(w.heap.size + 1), 1, none⟩ = some (.slice A n c) /\ w'.cell? ⟨(w.heap.size + 1 + 1), 0, none⟩ = some (.int .i64 (t2 : Int))) (by kernel_rfl) (iT.out _ (below_drewN (Below.refl _ _) 1)) (fun cO => ?_);refine bJ 0 ?_;refine bJ 1 ?_;refine bJ 2 ?_;refine bJ 4 ?_;refine wpAnyH_ready (rs := [3, 5]) (by kernel_rfl) (by simp) ?_;refine wA rfl (fun K0 hK => ?_) (wA rfl (fun K0 hK => ?_) AllReadyH.nil)
   ·skip
    go_simp;go_at_call 91;refine (Pp.out _ (below_drewN (Below.refl _ _) 1)).mono ?_;rintro e w5 ⟨rfl, bq⟩;have oF := LH (Below (((w.alloc (.cells #[.pointer (pt mb)] 107)).alloc (zC K A n c B m d)).alloc (.cells #[.int .i64 (t2 : Int)] 3)).heap.size (((w.alloc (.cells #[.pointer (pt mb)] 107)).alloc (zC K A n c B m d)).alloc (.cells #[.int .i64 (t2 : Int)] 3)) w5) (ah (below_drewN (Below.refl _ _) 1) bq);clear bq;refine hK.out _ _ (iT.out _ oF.out) (fun hS1 => ?_);clear hK K0 cO;(try simp only [Act.put, pP]);refine wpAnyH_ready (rs := [5]) (by kernel_rfl) (by simp) ?_;refine wA rfl (fun K0 hK => ?_) AllReadyH.nil
    go_simp;have dw := LH (Below (((w.alloc (.cells #[.pointer (pt mb)] 107)).alloc (zC K A n c B m d)).alloc (.cells #[.int .i64 (t2 : Int)] 3)).heap.size (((w.alloc (.cells #[.pointer (pt mb)] 107)).alloc (zC K A n c B m d)).alloc (.cells #[.int .i64 (t2 : Int)] 3)) (w5.alloc (.cells #[.int .i64 (t2 : Int)] 3))) (aF oF.out _);refine hK.out _ _ (iT.out _ dw.out) (fun dh => ?_);clear hK K0 hS1;(try simp only [Act.put, pP]);refine wpAnyH_ready (rs := [6]) (by kernel_rfl) (by simp) ?_;refine wA rfl (fun K0 hK => ?_) AllReadyH.nil
    go_simp;go_at_call 59;refine (PT.out (w5.alloc (.cells #[.int .i64 (t2 : Int)] 3)) w5.heap.size dw.out oF.out.size (ae.at w5 _ _ 3 _ rfl rfl)).mono ?_;rintro e w7 hp;obtain ⟨v7, rfl, h1, h2, h3⟩ := sS hp;have HR := LH (jV q mb v (aN M t2 r).1 (aN M t2 r).2 w (.returned (.int .i64 (M.length : Int))) w7) (by rw [HL.out]; exact CP (ah dQ.out.2.2.2 dw.out) ⟨v7, rfl, h1, h2, h3⟩);have yh := LH ((fun w' => w'.cell? ⟨w.heap.size, 0, none⟩ = some (.pointer (pt mb)) /\ w'.cell? ⟨(w.heap.size + 1), 1, none⟩ = some (.slice A n c) /\ w'.cell? ⟨(w.heap.size + 1 + 1), 0, none⟩ = some (.int .i64 (t2 : Int))) w7) (by
     have h4 := xL (A := A) (B := B) (n := n) (c := c) (m := m) (d := d) (K := K) (t2 := t2) jG.out ((Kp.of_below dw.out).tr (Nw.refl _ _) h2);exact ⟨h4.1.cell (j := 0) rfl, h4.2.1.cell (j := 1) rfl, h4.2.2.cell (j := 0) rfl⟩)
    clear hp h1 h2 h3;refine hK.out _ _ yh.out (fun kV => ?_);clear hK K0 dh;(try simp only [Act.put, pP]);refine bJ 7 ?_;refine wpAnyH_done (by kernel_rfl) ?_ _;go_wp2_with fail;go_ret;exact HR.out
   ·skip
    go_simp;have Dz := LH (Below (((w.alloc (.cells #[.pointer (pt mb)] 107)).alloc (zC K A n c B m d)).alloc (.cells #[.int .i64 (t2 : Int)] 3)).heap.size (((w.alloc (.cells #[.pointer (pt mb)] 107)).alloc (zC K A n c B m d)).alloc (.cells #[.int .i64 (t2 : Int)] 3)) ((((w.alloc (.cells #[.pointer (pt mb)] 107)).alloc (zC K A n c B m d)).alloc (.cells #[.int .i64 (t2 : Int)] 3)).alloc (.cells #[.int .i64 (t2 : Int)] 3)).drew /\ ae ((((w.alloc (.cells #[.pointer (pt mb)] 107)).alloc (zC K A n c B m d)).alloc (.cells #[.int .i64 (t2 : Int)] 3)).alloc (.cells #[.int .i64 (t2 : Int)] 3)).drew ((w.heap.size + 1 + 1) + 1) [.int .i64 (t2 : Int)] 3) ⟨(ai _ _).drew, ae.at (((w.alloc (.cells #[.pointer (pt mb)] 107)).alloc (zC K A n c B m d)).alloc (.cells #[.int .i64 (t2 : Int)] 3)) _ _ 3 _ rfl (by simp)⟩;refine hK.out _ _ (iT.out _ Dz.out.1) (fun hS1 => ?_);clear hK K0 cO;(try simp only [Act.put, pP]);refine wpAnyH_ready (rs := [3]) (by kernel_rfl) (by simp) ?_;refine wA rfl (fun K0 hK => ?_) AllReadyH.nil
    go_simp;go_at_call 91;refine (Pp.out _ Dz.out.1).mono ?_;rintro e w5 ⟨rfl, bq⟩;have dw := LH (Below (((w.alloc (.cells #[.pointer (pt mb)] 107)).alloc (zC K A n c B m d)).alloc (.cells #[.int .i64 (t2 : Int)] 3)).heap.size (((w.alloc (.cells #[.pointer (pt mb)] 107)).alloc (zC K A n c B m d)).alloc (.cells #[.int .i64 (t2 : Int)] 3)) w5) (ah Dz.out.1 bq);have yl := LH (ae w5 ((w.heap.size + 1 + 1) + 1) [.int .i64 (t2 : Int)] 3) (Dz.out.2.below bq Dz.out.2.lt);clear bq;refine hK.out _ _ (iT.out _ dw.out) (fun dh => ?_);clear hK K0 hS1;(try simp only [Act.put, pP]);refine wpAnyH_ready (rs := [6]) (by kernel_rfl) (by simp) ?_;refine wA rfl (fun K0 hK => ?_) AllReadyH.nil
    go_simp;go_at_call 59;refine (PT.out w5 ((w.heap.size + 1 + 1) + 1) dw.out (by simp) yl.out).mono ?_;rintro e w7 hp;obtain ⟨v7, rfl, h1, h2, h3⟩ := sS hp;have HR := LH (jV q mb v (aN M t2 r).1 (aN M t2 r).2 w (.returned (.int .i64 (M.length : Int))) w7) (by rw [HL.out]; exact CP (ah dQ.out.2.2.2 dw.out) ⟨v7, rfl, h1, h2, h3⟩);have yh := LH ((fun w' => w'.cell? ⟨w.heap.size, 0, none⟩ = some (.pointer (pt mb)) /\ w'.cell? ⟨(w.heap.size + 1), 1, none⟩ = some (.slice A n c) /\ w'.cell? ⟨(w.heap.size + 1 + 1), 0, none⟩ = some (.int .i64 (t2 : Int))) w7) (by
     have h4 := xL (A := A) (B := B) (n := n) (c := c) (m := m) (d := d) (K := K) (t2 := t2) jG.out ((Kp.of_below dw.out).tr (Nw.refl _ _) h2);exact ⟨h4.1.cell (j := 0) rfl, h4.2.1.cell (j := 1) rfl, h4.2.2.cell (j := 0) rfl⟩)
    clear hp h1 h2 h3;refine hK.out _ _ yh.out (fun kV => ?_);clear hK K0 dh;(try simp only [Act.put, pP]);refine bJ 7 ?_;refine wpAnyH_done (by kernel_rfl) ?_ _;go_wp2_with fail;go_ret;exact HR.out
  ·by_cases k4 : K = 4
   ·skip
    have hc3 := (dQ.out).1.cell (j := 0) rfl;have BF := (dQ.out).2.1.cell (j := 0) rfl;have EI := (dQ.out).2.1.cell (j := 1) rfl;have wO := (dQ.out).2.1.cell (j := 2) rfl;have wN := (dQ.out).2.2.1.cell (j := 0) rfl;have pJ : (K == 1) = false := bF (by omega);have sF : (K == 2) = false := bF (by omega);have uG : (K == 3) = false := bF (by omega);have yD : (K == 4) = true := bT (by omega);have HL := LH (aN M t2 r = ((bL M t2 r.kids).1 ++ [(0, (bL M t2 r.kids).2)], (bL M t2 r.kids).1.length)) (by rw [qf, if_neg (by rw [<- HX.out.2.1]; exact k1), if_neg (by rw [<- HX.out.2.1]; exact k2), if_neg (by rw [<- HX.out.2.1]; exact k3), if_pos (by rw [<- HX.out.2.1]; exact k4)]);have ve : m <= 1000000 := by have h1 := lD.out; have h2 := vZ r; have h3 := HX.out.1.o.mlen; have h4 := Ms (r := r) (by omega); omega
    have wE := fun W => NR m (by omega) W
    have rH := LH (((w.heap.size + 1 + 1) + 1) < ((((w.alloc (.cells #[.pointer (pt mb)] 107)).alloc (zC K A n c B m d)).alloc (.cells #[.int .i64 (t2 : Int)] 3)).alloc (.cells (iv (List.replicate m 0)).toArray 3)).heap.size /\ (((w.alloc (.cells #[.pointer (pt mb)] 107)).alloc (zC K A n c B m d)).alloc (.cells #[.int .i64 (t2 : Int)] 3)).heap.size = ((w.heap.size + 1 + 1) + 1)) ⟨by simp, by simp⟩;clear k1 k2 k3 k4;go_enter Tryz.func60, Tryz.ntmps60;go_wp2_with fail
    go_loopg [49] m (fun g s49 wr => ∃ (i : Nat) (v1 : Value), i + g = m /\ s49 = .int .i64 (i : Int) /\ Hid (bZ (fun b => q b /\ b ≠ ((w.heap.size + 1 + 1) + 1)) mb v1 (bL M t2 (r.kids.take i)).1 wr /\ Kp mb v (((w.alloc (.cells #[.pointer (pt mb)] 107)).alloc (zC K A n c B m d)).alloc (.cells #[.int .i64 (t2 : Int)] 3)) wr /\ Nw ((((w.alloc (.cells #[.pointer (pt mb)] 107)).alloc (zC K A n c B m d)).alloc (.cells #[.int .i64 (t2 : Int)] 3)).alloc (.cells (iv (List.replicate m 0)).toArray 3)) v v1 /\ ae wr ((w.heap.size + 1 + 1) + 1) (iv (nl ((bL M t2 (r.kids.take i)).2 ++ List.replicate (m - i) 0))) 3))
    case atStart => exact ⟨0, v, by omega, rfl, Lh ⟨(yx.out.mono (q2 := fun b => q b /\ b ≠ ((w.heap.size + 1 + 1) + 1)) fun b hb hl => ⟨hb, by have := rH.out.2; omega⟩).below (ai _ _), Kp.of_below (ai _ _), Nw.refl _ _, by
     have h1 := ae.at (((w.alloc (.cells #[.pointer (pt mb)] 107)).alloc (zC K A n c B m d)).alloc (.cells #[.int .i64 (t2 : Int)] 3)) (iv (List.replicate m 0)) _ 3 _ rfl rH.out.2.symm;have e : nl ((bL M t2 (r.kids.take 0)).2 ++ List.replicate (m - 0) 0) = List.replicate m 0 := by rw [List.take_zero, bL]; simp [nl]
     rw [e]; exact h1⟩⟩
    case round =>
     obtain ⟨i, v1, hi, rfl, HI⟩ := hrel;have dw := Lh (xL (A := A) (B := B) (n := n) (c := c) (m := m) (d := d) (K := K) (t2 := t2) jG.out HI.out.2.1);have hc3 := (dw.out).1.cell (j := 0) rfl;have BF := (dw.out).2.1.cell (j := 0) rfl;have EI := (dw.out).2.1.cell (j := 1) rfl;have wO := (dw.out).2.1.cell (j := 2) rfl;have wN := (dw.out).2.2.cell (j := 0) rfl
     by_cases hlt : i < m
     ·obtain ⟨gg, rfl⟩ : ∃ g, gk = g + 1 := ⟨gk - 1, by omega⟩;have gD := LH (((((w.alloc (.cells #[.pointer (pt mb)] 107)).alloc (zC K A n c B m d)).alloc (.cells #[.int .i64 (t2 : Int)] 3)).alloc (.cells (iv (List.replicate m 0)).toArray 3)).heap.size <= wr.heap.size /\ ((w.heap.size + 1 + 1) + 1) < wr.heap.size) (by have h1 := HI.out.2.2.2.lt; have h2 := rH.out; constructor; (rw [World.size_alloc]; omega); omega);have HV1 := LH (v1.ownBlock ≠ some ((w.heap.size + 1 + 1) + 1) /\ ∀ g, v1.ownBlock = some g -> g < wr.heap.size) ⟨HI.out.2.2.1.ne rH.out.1 (fun e => by have := (jG.out.2 _ e).2; omega), fun g hg => (HI.out.1.lt.2 g hg).2⟩;have bR := LH (i < r.kids.length) (by rw [<- HX.out.1.o.mlen]; exact hlt);obtain ⟨b, o, hB⟩ := HX.out.1.kids.1.place (by have := bR.out; omega);have hpb := HX.out.1.kids.2 (List.ne_nil_of_length_pos (by have := bR.out; omega)) b o hB;subst hB;obtain ⟨A2, n2, c2, B2, m2, d2, hrg, ax⟩ := HX.out.1.kids.1.kid bR.out;obtain ⟨y, hy⟩ := eX (av r.kids i);rw [<- hy] at hrg ax;obtain ⟨Ky, bi⟩ := eX y.kind;rw [<- bi] at hrg;have bY : y ∈ r.kids := by rw [hy]; exact gU bR.out
      have aP := LH (wr.rangeAt b (o + i * 3) (zV Ky A2 n2 c2 B2 m2 d2)) fun j u hu => by
       have h1 := hrg j u hu;have hbl : b < w.heap.size := World.block_lt_of_cell? w _ h1;exact (HI.out.2.1.cell (by have := tJ.out; show b < _; omega) hpb.1 hpb.2).trans ((dQ.out.2.2.2.cell (p := ⟨b, o + i * 3 + j, none⟩) hbl).trans h1)
      have uN := LH (qR y /\ Ky = y.kind /\ ak (fun b => b ≠ mb /\ some b ≠ v1.ownBlock) wr y A2 n2 c2 B2 m2 d2 /\ (bL M t2 (r.kids.take (i + 1))) = ((aN (bL M t2 (r.kids.take i)).1 t2 y).1, (bL M t2 (r.kids.take i)).2 ++ [(aN (bL M t2 (r.kids.take i)).1 t2 y).2]) /\ t2 < (bL M t2 (r.kids.take i)).1.length /\ (((bL M t2 (r.kids.take i)).1.length : Nat) : Int) + lZ y <= 1000000000 /\ (bL M t2 (r.kids.take i)).2.length = i) ⟨dH.out y bY, bi, l5 ax dQ.out.2.2.2 HI.out.2.1 (HI.out.2.2.1.of (by have h1 := rH.out.1; have h2 := rH.out.2; omega)), by rw [GD bR.out, KQ M t2, <- hy], Nat.lt_of_lt_of_le HT.out (wm _ _ _).len, by
       have h1 := Gv (r.kids.take i) M t2;have h2 := zB bR.out;have h3 := vU (rs := r.kids) (i + 1);have h4 := fP r;have h5 := lD.out;have h6 := iF (r.kids.take i);have h7 := Mq (r := r) (y := y) (a := aj (r.kids.take i)) h6 (by rw [hy, gI bR.out]; omega);omega, by rw [FW, List.length_take]; have := bR.out; omega⟩
      have wO : wr.cell? ⟨(w.heap.size + 1), 2, none⟩ = some (.slice (some ⟨b, o, none⟩) m d) := wO;have DI := LH (∀ w4, ae w4 wr.heap.size (zV Ky A2 n2 c2 B2 m2 d2) 25 -> Bw wr w4 -> (qR y /\ Ky = y.kind /\ ak (fun b => b ≠ mb /\ some b ≠ v1.ownBlock) w4 y A2 n2 c2 B2 m2 d2 /\ (∀ b, w4.heap.size <= b -> q b /\ b ≠ ((w.heap.size + 1 + 1) + 1)) /\ bZ (fun b => q b /\ b ≠ ((w.heap.size + 1 + 1) + 1)) mb v1 (bL M t2 (r.kids.take i)).1 w4 /\ t2 < (bL M t2 (r.kids.take i)).1.length /\ (((bL M t2 (r.kids.take i)).1.length : Nat) : Int) + lZ y <= 1000000000) /\ (fun w' => w'.cell? ⟨w.heap.size, 0, none⟩ = some (.pointer (pt mb)) /\ w'.rangeAt wr.heap.size 0 (zV Ky A2 n2 c2 B2 m2 d2) /\ w'.cell? ⟨(w.heap.size + 1 + 1), 0, none⟩ = some (.int .i64 (t2 : Int))) w4) fun w4 hb4 hbl => ⟨⟨uN.out.1, uN.out.2.1, uN.out.2.2.1.below hbl, fun b hb => ⟨HQ.out b (by have h1 := gD.out.2; have h2 := hbl.size; omega), by have h1 := gD.out.2; have h2 := hbl.size; omega⟩, HI.out.1.below hbl, uN.out.2.2.2.2.1, uN.out.2.2.2.2.2.1⟩, (dw.out.1.below hbl dw.out.1.lt).cell (j := 0) rfl, aS hb4, (dw.out.2.2.below hbl dw.out.2.2.lt).cell (j := 0) rfl⟩
      have rX := LH (∀ w4, ae w4 wr.heap.size (zV Ky A2 n2 c2 B2 m2 d2) 25 -> Bw wr w4 -> ∀ w7 v7, bZ (fun b => q b /\ b ≠ ((w.heap.size + 1 + 1) + 1)) mb v7 (aN (bL M t2 (r.kids.take i)).1 t2 y).1 w7 -> Kp mb v1 w4 w7 -> Nw w4 v1 v7 -> ∀ t7, t7 = (aN (bL M t2 (r.kids.take i)).1 t2 y).2 -> bZ (fun b => q b /\ b ≠ ((w.heap.size + 1 + 1) + 1)) mb v7 (aN (bL M t2 (r.kids.take i)).1 t2 y).1 w7 /\ Kp mb v (((w.alloc (.cells #[.pointer (pt mb)] 107)).alloc (zC K A n c (some ⟨b, o, none⟩) m d)).alloc (.cells #[.int .i64 (t2 : Int)] 3)) w7 /\ Nw ((((w.alloc (.cells #[.pointer (pt mb)] 107)).alloc (zC K A n c (some ⟨b, o, none⟩) m d)).alloc (.cells #[.int .i64 (t2 : Int)] 3)).alloc (.cells (iv (List.replicate m 0)).toArray 3)) v v7 /\ ae w7 ((w.heap.size + 1 + 1) + 1) (iv (nl ((bL M t2 (r.kids.take i)).2 ++ List.replicate (m - i) 0))) 3 /\ t7 = (aN (bL M t2 (r.kids.take i)).1 t2 y).2 /\ (fun w' => w'.cell? ⟨w.heap.size, 0, none⟩ = some (.pointer (pt mb)) /\ w'.rangeAt wr.heap.size 0 (zV Ky A2 n2 c2 B2 m2 d2) /\ w'.cell? ⟨(w.heap.size + 1 + 1), 0, none⟩ = some (.int .i64 (t2 : Int))) w7) fun w4 hb4 hbl w7 v7 h1 h2 h3 t7 uW => by
       have hs := hbl.size;have hw := gD.out;have hk : Kp mb v (((w.alloc (.cells #[.pointer (pt mb)] 107)).alloc (zC K A n c (some ⟨b, o, none⟩) m d)).alloc (.cells #[.int .i64 (t2 : Int)] 3)) w7 := HI.out.2.1.tr (HI.out.2.2.1.of (by have h1 := rH.out.1; have h2 := rH.out.2; omega)) ((Kp.of_below hbl).tr (Nw.refl _ _) h2);have mq := xL (A := A) (B := some ⟨b, o, none⟩) (n := n) (c := c) (m := m) (d := d) (K := K) (t2 := t2) jG.out hk;refine ⟨h1, hk, HI.out.2.2.1.tr (by omega) h3, h2.blk (HI.out.2.2.2.below hbl HI.out.2.2.2.lt) (by have := jG.out.1; omega) (fun e => HV1.out.1 e.symm), uW, mq.1.cell (j := 0) rfl, aS (h2.blk hb4 (by have := jG.out.1; omega) (fun e => by have := HV1.out.2 _ e.symm; omega)), mq.2.2.cell (j := 0) rfl⟩
      have HSTO := LH (∀ w7 v7 t7 w9, (bZ (fun b => q b /\ b ≠ ((w.heap.size + 1 + 1) + 1)) mb v7 (aN (bL M t2 (r.kids.take i)).1 t2 y).1 w7 /\ Kp mb v (((w.alloc (.cells #[.pointer (pt mb)] 107)).alloc (zC K A n c (some ⟨b, o, none⟩) m d)).alloc (.cells #[.int .i64 (t2 : Int)] 3)) w7 /\ Nw ((((w.alloc (.cells #[.pointer (pt mb)] 107)).alloc (zC K A n c (some ⟨b, o, none⟩) m d)).alloc (.cells #[.int .i64 (t2 : Int)] 3)).alloc (.cells (iv (List.replicate m 0)).toArray 3)) v v7 /\ ae w7 ((w.heap.size + 1 + 1) + 1) (iv (nl ((bL M t2 (r.kids.take i)).2 ++ List.replicate (m - i) 0))) 3 /\ t7 = (aN (bL M t2 (r.kids.take i)).1 t2 y).2 /\ (fun w' => w'.cell? ⟨w.heap.size, 0, none⟩ = some (.pointer (pt mb)) /\ w'.rangeAt wr.heap.size 0 (zV Ky A2 n2 c2 B2 m2 d2) /\ w'.cell? ⟨(w.heap.size + 1 + 1), 0, none⟩ = some (.int .i64 (t2 : Int))) w7) -> aT w7 w9 ((w.heap.size + 1 + 1) + 1) ((iv (nl ((bL M t2 (r.kids.take i)).2 ++ List.replicate (m - i) 0))).set i (.int .i64 (t7 : Int))) 3 -> (bZ (fun b => q b /\ b ≠ ((w.heap.size + 1 + 1) + 1)) mb v7 (bL M t2 (r.kids.take (i + 1))).1 w9 /\ Kp mb v (((w.alloc (.cells #[.pointer (pt mb)] 107)).alloc (zC K A n c (some ⟨b, o, none⟩) m d)).alloc (.cells #[.int .i64 (t2 : Int)] 3)) w9 /\ Nw ((((w.alloc (.cells #[.pointer (pt mb)] 107)).alloc (zC K A n c (some ⟨b, o, none⟩) m d)).alloc (.cells #[.int .i64 (t2 : Int)] 3)).alloc (.cells (iv (List.replicate m 0)).toArray 3)) v v7 /\ ae w9 ((w.heap.size + 1 + 1) + 1) (iv (nl ((bL M t2 (r.kids.take (i + 1))).2 ++ List.replicate (m - (i + 1)) 0))) 3) /\ (fun w' => w'.cell? ⟨w.heap.size, 0, none⟩ = some (.pointer (pt mb)) /\ w'.rangeAt wr.heap.size 0 (zV Ky A2 n2 c2 B2 m2 d2) /\ w'.cell? ⟨(w.heap.size + 1 + 1), 0, none⟩ = some (.int .i64 (t2 : Int))) w9) fun w7 v7 t7 w9 h hst => by
       have hw := gD.out;refine ⟨⟨?_, h.2.1.grown (dG hst) (.inl (by have := rH.out.2; omega)), h.2.2.1, ?_⟩, (World.cell?_of_block (hst.2.1 _ (by show w.heap.size ≠ _; omega))).trans h.2.2.2.2.2.1, fun j u hu => (World.cell?_of_block (hst.2.1 _ (by show wr.heap.size ≠ _; omega))).trans (h.2.2.2.2.2.2.1 j u hu), (World.cell?_of_block (hst.2.1 _ (by show _ + 1 + 1 ≠ _; omega))).trans h.2.2.2.2.2.2.2⟩
       ·rw [uN.out.2.2.2.1];exact h.1.grown (dG hst) (by have := jG.out.1; omega) (h.2.2.1.ne rH.out.1 (fun e => by have := (jG.out.2 _ e).2; omega)) (fun b hb => hb.2)
       ·have h1 := hst.1;rw [WL uN.out.2.2.2.2.2.2 hlt] at h1;rw [uN.out.2.2.2.1, <- h.2.2.2.2.1];exact h1
      clear hrg ax hy bi bY hpb
      go_wp2_with (first
       |(refine aG rfl (.tmp 52) rfl b (o + i * 3) rfl Ky A2 B2 n2 c2 m2 d2 aP.out ?_)
       |(refine wB rfl 25 (.tmp 11) (.tmp 53) rfl wr.heap.size 0 rfl (zV Ky A2 n2 c2 B2 m2 d2) rfl (ae.new' wr zL _ 25 rfl) 3 au ?_; intro w4 ag; have aA := LH (ae w4 wr.heap.size (zV Ky A2 n2 c2 B2 m2 d2) 25 /\ Bw wr w4) (dC ag); clear ag; have EE := DI.out w4 aA.out.1 aA.out.2; have HY := Lh EE.1; have ji := EE.2.1; have hk2 := EE.2.2.1; have hk3 := EE.2.2.2; have E5 := Lh (rX.out w4 aA.out.1 aA.out.2); clear EE)
       |(refine aG rfl (.tmp 11) rfl wr.heap.size (0) rfl Ky A2 B2 n2 c2 m2 d2 hk2 ?_)
       |((with_reducible refine (Gu HY.out.1 HY.out.2.1 HY.out.2.2.2.1 HY.out.2.2.2.2.1 HY.out.2.2.2.2.2.1 HY.out.2.2.2.2.2.2 HY.out.2.2.1).mono ?_); rintro e w7 hp; obtain ⟨v7, rfl, h1, h2, h3⟩ := sS hp; obtain ⟨t7, uW⟩ := eX ((aN (bL M t2 (r.kids.take i)).1 t2 y).2); rw [<- uW]; have kQ := Lh (E5.out w7 v7 h1 h2 h3 t7 uW); have hcc := kQ.out.2.2.2.1.cell (j := i) (v := .int .i64 0) (Sy uN.out.2.2.2.2.2.2 hlt); have hff := kQ.out.2.2.2.1.frozen i; have y9 := Lh (fun w9 => HSTO.out w7 v7 t7 w9 kQ.out); clear hp h1 h2 h3 uW))
      have aR := Lh (y9.out _ (aT.of_setCell kQ.out.2.2.2.1 i (.int .i64 (t7 : Int))))
      go_roundg gg
      case rel => exact ⟨i + 1, v7, by omega, by go_num, Lh aR.out.1⟩
      case measure => omega
     ·obtain rfl : m = i := by omega
      have HNS := LH (r.kids.take m = r.kids /\ (bL M t2 r.kids).2.length = m) ⟨by rw [HX.out.1.o.mlen, List.take_length], by rw [FW, HX.out.1.o.mlen]⟩;have HAD := LH (Cz 59 #[.pointer (pt mb), .int .u64 0, .slice (some ⟨((w.heap.size + 1 + 1) + 1), 0, none⟩) m m] wr (jV q mb v1 ((bL M t2 r.kids).1 ++ [(0, (bL M t2 r.kids).2)]) (bL M t2 r.kids).1.length wr)) (by
       have h1 := HI.out;rw [HNS.out.1, Nat.sub_self, List.replicate_zero, List.append_nil] at h1;have h2 := gy.of_blk (p := fun b => q b /\ b ≠ mb /\ some b ≠ v1.ownBlock) h1.2.2.2 (by rw [HNS.out.2]; omega) ⟨HQ.out _ (by omega), by have := jG.out.1; omega, fun e => h1.2.2.1.ne rH.out.1 (fun e => by have := (jG.out.2 _ e).2; omega) e.symm⟩;rw [HNS.out.2] at h2;exact BQ (b := 0) wr (fun b hb => HQ.out b (by have := h1.2.2.2.lt; omega)) (h1.1.mono fun b hb _ => hb.1) _ _ _ _ h2 (by have h3 := Gv r.kids M t2; have h4 := fP r; have h5 := lD.out; have h6 := FX r; omega))
      go_wp2_with (((with_reducible refine (HAD.out).mono ?_); rintro e w6 hp; obtain ⟨v6, rfl, h1, h2, h3⟩ := sS hp; have HR := LH (jV q mb v (aN M t2 r).1 (aN M t2 r).2 w (.returned (.int .i64 ((bL M t2 r.kids).1.length : Int))) w6) (by rw [HL.out]; have hn : Nw (((w.alloc (.cells #[.pointer (pt mb)] 107)).alloc (zC K A n c B m d)).alloc (.cells #[.int .i64 (t2 : Int)] 3)) v v1 := HI.out.2.2.1.of (by simp); exact CP dQ.out.2.2.2 ⟨v6, rfl, h1, HI.out.2.1.tr hn h2, hn.tr HI.out.2.1.size h3⟩); clear hp h1 h2 h3))
      go_ret;exact HR.out
   ·by_cases k5 : K = 5
    ·skip
     have hc3 := (dQ.out).1.cell (j := 0) rfl;have BF := (dQ.out).2.1.cell (j := 0) rfl;have EI := (dQ.out).2.1.cell (j := 1) rfl;have wO := (dQ.out).2.1.cell (j := 2) rfl;have wN := (dQ.out).2.2.1.cell (j := 0) rfl;have pJ : (K == 1) = false := bF (by omega);have sF : (K == 2) = false := bF (by omega);have uG : (K == 3) = false := bF (by omega);have yD : (K == 4) = false := bF (by omega);have DR : (K == 5) = true := bT (by omega);have l9 : m = 1 := by
      rcases kw HX.out.2.2 with e | e | ⟨_, e, _⟩ | ⟨_, e, _⟩ | ⟨_, e, _⟩ | ⟨y, e, _⟩
      all_goals first | (have h1 := HX.out.2.1; rw [e] at h1; simp only [Rx.kind] at h1; omega) | (rw [HX.out.1.o.mlen, e]; rfl)
     obtain ⟨b, o, hB⟩ := HX.out.1.kids.1.place (by have := HX.out.1.o.mlen; omega);have hpb := HX.out.1.kids.2 (List.ne_nil_of_length_pos (by have := HX.out.1.o.mlen; omega)) b o hB;subst hB;obtain ⟨A2, n2, c2, B2, m2, d2, hrg, ax⟩ := HX.out.1.kids.1.kid (i := 0) (by have := HX.out.1.o.mlen; omega);obtain ⟨y, hy⟩ := eX (av r.kids 0);rw [<- hy] at hrg ax;obtain ⟨Ky, bi⟩ := eX y.kind;rw [<- bi, Nat.zero_mul, Nat.add_zero] at hrg;have bY : y ∈ r.kids := by rw [hy]; exact gU (by have := HX.out.1.o.mlen; omega)
     have HYC := LH (az r = 1 + az y /\ r = .mk 5 [] [y]) (by
      rcases kw HX.out.2.2 with e | e | ⟨_, e, _⟩ | ⟨_, e, _⟩ | ⟨_, e, _⟩ | ⟨z, e, _⟩
      all_goals first | (have h1 := HX.out.2.1; rw [e] at h1; simp only [Rx.kind] at h1; omega) | (have h2 : y = z := (by rw [hy, e]; rfl); rw [e, h2]; exact ⟨by rw [fP]; simp [Rx.kids, aj], rfl⟩))
     have HL := LH (aN M t2 r = (((aN (M ++ [(0, [t2])]) M.length y).1).set M.length (0, [t2, (aN (M ++ [(0, [t2])]) M.length y).2]), M.length)) (by rw [HYC.out.2, Gh]);have gB := LH (b ≠ mb /\ some b ≠ v.ownBlock /\ b < w.heap.size) ⟨hpb.1, hpb.2, World.block_lt_of_cell? w _ (hrg 0 _ rfl)⟩;have aP := Lh hrg;have fI := LH (qR y /\ Ky = y.kind /\ ak (fun b => b ≠ mb /\ some b ≠ v.ownBlock) w y A2 n2 c2 B2 m2 d2) ⟨dH.out y bY, bi, ax⟩;have ja : 0 < m := by omega
     have gF := LH (Below (((w.alloc (.cells #[.pointer (pt mb)] 107)).alloc (zC K A n c (some ⟨b, o, none⟩) m d)).alloc (.cells #[.int .i64 (t2 : Int)] 3)).heap.size (((w.alloc (.cells #[.pointer (pt mb)] 107)).alloc (zC K A n c (some ⟨b, o, none⟩) m d)).alloc (.cells #[.int .i64 (t2 : Int)] 3)) ((((w.alloc (.cells #[.pointer (pt mb)] 107)).alloc (zC K A n c (some ⟨b, o, none⟩) m d)).alloc (.cells #[.int .i64 (t2 : Int)] 3)).alloc (.cells #[.int .i64 (t2 : Int)] 3)) /\ ae ((((w.alloc (.cells #[.pointer (pt mb)] 107)).alloc (zC K A n c (some ⟨b, o, none⟩) m d)).alloc (.cells #[.int .i64 (t2 : Int)] 3)).alloc (.cells #[.int .i64 (t2 : Int)] 3)) ((w.heap.size + 1 + 1) + 1) [.int .i64 (t2 : Int)] 3 /\ (((w.alloc (.cells #[.pointer (pt mb)] 107)).alloc (zC K A n c (some ⟨b, o, none⟩) m d)).alloc (.cells #[.int .i64 (t2 : Int)] 3)).heap.size = (w.heap.size + 1 + 1) + 1) ⟨ai _ _, ae.at (((w.alloc (.cells #[.pointer (pt mb)] 107)).alloc (zC K A n c (some ⟨b, o, none⟩) m d)).alloc (.cells #[.int .i64 (t2 : Int)] 3)) _ _ 3 _ rfl (by simp), by simp⟩;have HAD := LH (Cz 59 #[.pointer (pt mb), .int .u64 0, .slice (some ⟨(w.heap.size + 1 + 1) + 1, 0, none⟩) 1 1] ((((w.alloc (.cells #[.pointer (pt mb)] 107)).alloc (zC K A n c (some ⟨b, o, none⟩) m d)).alloc (.cells #[.int .i64 (t2 : Int)] 3)).alloc (.cells #[.int .i64 (t2 : Int)] 3)) (jV q mb v (M ++ [(0, [t2])]) M.length ((((w.alloc (.cells #[.pointer (pt mb)] 107)).alloc (zC K A n c (some ⟨b, o, none⟩) m d)).alloc (.cells #[.int .i64 (t2 : Int)] 3)).alloc (.cells #[.int .i64 (t2 : Int)] 3)))) (BQ (b := 0) ((((w.alloc (.cells #[.pointer (pt mb)] 107)).alloc (zC K A n c (some ⟨b, o, none⟩) m d)).alloc (.cells #[.int .i64 (t2 : Int)] 3)).alloc (.cells #[.int .i64 (t2 : Int)] 3)) (fun b h => HQ.out b (Nat.le_trans tJ.out (Nat.le_trans gF.out.1.size h))) (yx.out.below gF.out.1) [t2] _ 1 1 (gy.of_blk (l := [t2]) gF.out.2.1 (by simp) ⟨HQ.out _ (by omega), by have := jG.out.1; omega, fun e => by have := (jG.out.2 _ e.symm).2; omega⟩) (by have := lD.out; have := FX r; omega))
     clear k1 k2 k3 k4 k5 l9 hrg ax hy bi bY hpb;go_enter Tryz.func60, Tryz.ntmps60
     go_upto_region 21 with (((with_reducible refine (HAD.out).mono ?_); rintro e w6 hp; obtain ⟨v6, rfl, h1, h2, h3⟩ := sS hp; have H6 := LH (bZ q mb v6 (M ++ [(0, [t2])]) w6 /\ Kp mb v (((w.alloc (.cells #[.pointer (pt mb)] 107)).alloc (zC K A n c (some ⟨b, o, none⟩) m d)).alloc (.cells #[.int .i64 (t2 : Int)] 3)) w6 /\ Nw (((w.alloc (.cells #[.pointer (pt mb)] 107)).alloc (zC K A n c (some ⟨b, o, none⟩) m d)).alloc (.cells #[.int .i64 (t2 : Int)] 3)) v v6) ⟨h1, (Kp.of_below gF.out.1).tr (Nw.refl _ _) h2, h3.of gF.out.1.size⟩; clear hp h1 h2 h3))
     have kL := LH (∀ W, Kp mb v (((w.alloc (.cells #[.pointer (pt mb)] 107)).alloc (zC K A n c (some ⟨b, o, none⟩) m d)).alloc (.cells #[.int .i64 (t2 : Int)] 3)) W -> W.rangeAt b o (zV Ky A2 n2 c2 B2 m2 d2)) fun W hk j u hu => (hk.cell (by have h1 := gB.out.2.2; have h2 := tJ.out; show b < _; omega) gB.out.1 gB.out.2.1).trans ((dQ.out.2.2.2.cell (p := ⟨b, o + j, none⟩) gB.out.2.2).trans (aP.out j u hu))
     have oH := LH ((fun w' => w'.cell? ⟨w.heap.size, 0, none⟩ = some (.pointer (pt mb)) /\ w'.cell? ⟨(w.heap.size + 1), 2, none⟩ = some (.slice (some ⟨b, o, none⟩) m d) /\ w'.rangeAt b o (zV Ky A2 n2 c2 B2 m2 d2)) w6.drew) (by
      have h1 := xL (A := A) (B := some ⟨b, o, none⟩) (n := n) (c := c) (m := m) (d := d) (K := K) (t2 := t2) jG.out H6.out.2.1;exact ⟨h1.1.cell (j := 0) rfl, h1.2.1.cell (j := 2) rfl, kL.out _ (H6.out.2.1.tr H6.out.2.2 (Kp.of_below (below_drewN (Below.refl _ _) 1)))⟩)
     have lX := LH (Bw w6 w6.drew) (below_drewN (Below.refl _ _) 1);have yK := LH (Cz 60 #[.pointer (pt mb), .agg #[.int .i64 Ky, .slice A2 n2 c2, .slice B2 m2 d2], .int .i64 (M.length : Int)] w6.drew (jV q mb v6 (aN (M ++ [(0, [t2])]) M.length y).1 (aN (M ++ [(0, [t2])]) M.length y).2 w6.drew)) (Gu fI.out.1 fI.out.2.1 (fun b hb => HQ.out b (by have h1 := tJ.out; have h2 := H6.out.2.1.size; have h3 := lX.out.size; omega)) (H6.out.1.below lX.out) (by simp) (by have h1 := lD.out; have h2 := HYC.out.1; have h3 := Mq (r := r) (y := y) (a := 0) (Int.le_refl _) (by omega); simp; omega) ((l5 fI.out.2.2 dQ.out.2.2.2 H6.out.2.1 H6.out.2.2).below lX.out));have rX := LH (∀ w7 v7 (f7 : Nat), bZ q mb v7 (aN (M ++ [(0, [t2])]) M.length y).1 w7 -> Kp mb v6 w6.drew w7 -> Nw w6.drew v6 v7 -> f7 = (aN (M ++ [(0, [t2])]) M.length y).2 -> bZ q mb v7 (aN (M ++ [(0, [t2])]) M.length y).1 w7 /\ Kp mb v (((w.alloc (.cells #[.pointer (pt mb)] 107)).alloc (zC K A n c (some ⟨b, o, none⟩) m d)).alloc (.cells #[.int .i64 (t2 : Int)] 3)) w7 /\ Nw (((w.alloc (.cells #[.pointer (pt mb)] 107)).alloc (zC K A n c (some ⟨b, o, none⟩) m d)).alloc (.cells #[.int .i64 (t2 : Int)] 3)) v v7 /\ f7 = (aN (M ++ [(0, [t2])]) M.length y).2 /\ (fun w' => w'.cell? ⟨w.heap.size, 0, none⟩ = some (.pointer (pt mb)) /\ w'.cell? ⟨(w.heap.size + 1), 2, none⟩ = some (.slice (some ⟨b, o, none⟩) m d) /\ w'.rangeAt b o (zV Ky A2 n2 c2 B2 m2 d2)) w7) fun w7 v7 f7 h1 h2 h3 h4 => by
      have hk : Kp mb v (((w.alloc (.cells #[.pointer (pt mb)] 107)).alloc (zC K A n c (some ⟨b, o, none⟩) m d)).alloc (.cells #[.int .i64 (t2 : Int)] 3)) w7 := H6.out.2.1.tr H6.out.2.2 ((Kp.of_below lX.out).tr (Nw.refl _ _) h2);have hb := xL (A := A) (B := some ⟨b, o, none⟩) (n := n) (c := c) (m := m) (d := d) (K := K) (t2 := t2) jG.out hk;exact ⟨h1, hk, H6.out.2.2.tr (Nat.le_trans H6.out.2.1.size lX.out.size) h3, h4, hb.1.cell (j := 0) rfl, hb.2.1.cell (j := 2) rfl, kL.out _ hk⟩
     refine wp_region_held_drew (S := fun w' => w'.cell? ⟨w.heap.size, 0, none⟩ = some (.pointer (pt mb)) /\ w'.cell? ⟨(w.heap.size + 1), 2, none⟩ = some (.slice (some ⟨b, o, none⟩) m d) /\ w'.rangeAt b o (zV Ky A2 n2 c2 B2 m2 d2)) (by kernel_rfl) (oH.out) (fun cO => ?_);refine bJ 0 ?_;refine bJ 1 ?_;refine bJ 2 ?_;refine bJ 3 ?_;refine wX 4 rfl (yieldsIf_load_mid (by rfl) _ _ rfl _ _ rfl _ _ (fun w h => h.2.2) Tryz.underlying25 rfl au) ?_;refine bJ 5 ?_;refine wpAnyH_ready (rs := [6]) (by kernel_rfl) (by simp) ?_;refine wA rfl (fun K0 hK => ?_) AllReadyH.nil
     go_simp;go_at_call 60;refine (yK.out).mono ?_;rintro e w7 hp;obtain ⟨v7, rfl, h1, h2, h3⟩ := sS hp;obtain ⟨f7, hf7⟩ := eX ((aN (M ++ [(0, [t2])]) M.length y).2);rw [<- hf7];have kQ := LH (bZ q mb v7 (aN (M ++ [(0, [t2])]) M.length y).1 w7 /\ Kp mb v (((w.alloc (.cells #[.pointer (pt mb)] 107)).alloc (zC K A n c (some ⟨b, o, none⟩) m d)).alloc (.cells #[.int .i64 (t2 : Int)] 3)) w7 /\ Nw (((w.alloc (.cells #[.pointer (pt mb)] 107)).alloc (zC K A n c (some ⟨b, o, none⟩) m d)).alloc (.cells #[.int .i64 (t2 : Int)] 3)) v v7 /\ f7 = (aN (M ++ [(0, [t2])]) M.length y).2 /\ (fun w' => w'.cell? ⟨w.heap.size, 0, none⟩ = some (.pointer (pt mb)) /\ w'.cell? ⟨(w.heap.size + 1), 2, none⟩ = some (.slice (some ⟨b, o, none⟩) m d) /\ w'.rangeAt b o (zV Ky A2 n2 c2 B2 m2 d2)) w7) (rX.out w7 v7 f7 h1 h2 h3 hf7);clear hp h1 h2 h3 hf7;refine hK.out _ _ kQ.out.2.2.2.2 (fun hS1 => ?_);clear hK K0 cO;(try simp only [Act.put, pP]);refine bJ 7 ?_;refine wpAnyH_done (by kernel_rfl) ?_ _;have rM := LH ((aN (M ++ [(0, [t2])]) M.length y).1[M.length]? = some (0, [t2]) /\ M.length < ((aN (M ++ [(0, [t2])]) M.length y).1).length) (by
      have h1 := qP y (M ++ [(0, [t2])]) M.length;have h2 := h1.len;rw [List.length_append] at h2;simp only [List.length_singleton] at h2;refine ⟨?_, by omega⟩;rw [h1.get M.length (by simp)];simp)
     obtain ⟨g7, d7, D6, O6, Po, hn7, hd7⟩ := kQ.out.1.place (List.ne_nil_of_length_pos (by have := rM.out.2; omega));obtain ⟨N7, hN7⟩ := eX (((aN (M ++ [(0, [t2])]) M.length y).1).length);rw [<- hN7] at D6;subst D6;have hN7M : M.length < N7 := by rw [hN7]; exact rM.out.2
     have Kw := LH (∀ h : M.length < ((aN (M ++ [(0, [t2])]) M.length y).1).length, ((aN (M ++ [(0, [t2])]) M.length y).1)[M.length] = (0, [t2])) fun h => by have h1 := rM.out.1; rw [List.getElem?_eq_getElem h] at h1; exact Option.some.inj h1
     obtain ⟨A9, n9, c9, si, sV, oM⟩ := kQ.out.1.at rM.out.2;rw [Kw.out] at si oM;have pM : n9 = 1 := oM.len;have rz : c9 = 1 := oM.full rfl;subst pM rz;obtain ⟨b9, o9, hA9, Pk⟩ := oM.rd.open (by simp [nl, iv]);subst hA9;have qH := LH (∀ W, Bw w7 W -> (fun w' => w'.cell? ⟨w.heap.size, 0, none⟩ = some (.pointer (pt mb)) /\ w'.cell? ⟨mb, 0, none⟩ = some (.slice (pt g7) N7 d7)) W /\ W.cell? ⟨g7, M.length * 2 + 1, none⟩ = some (.slice (some ⟨b9, o9, none⟩) 1 1)) fun W hb => ⟨⟨(hb.cell (p := ⟨w.heap.size, 0, none⟩) (World.block_lt_of_cell? w7 _ kQ.out.2.2.2.2.1)).trans kQ.out.2.2.2.2.1, (kQ.out.1.box.below hb kQ.out.1.box.lt).cell (j := 0) rfl⟩, (hb.cell (p := ⟨g7, M.length * 2 + 1, none⟩) (World.block_lt_of_cell? w7 _ sV)).trans sV⟩
     have tV := LH ((fun w' => w'.cell? ⟨w.heap.size, 0, none⟩ = some (.pointer (pt mb)) /\ w'.cell? ⟨mb, 0, none⟩ = some (.slice (pt g7) N7 d7)) w7.drew) (qH.out _ (below_drewN (Below.refl _ _) 1)).1;have HOLD := LH (∀ W, Bw w7 W -> ∀ j u, [Value.int .i64 (t2 : Int)][j]? = some u -> W.cell? ((⟨b9, o9, none⟩ : Addr).add j) = some u) fun W hb j u hu => by
      have h1 := Pk j u (by simpa [nl, iv] using hu);have rO : (⟨b9, o9, none⟩ : Addr).add j = ⟨b9, o9 + j, none⟩ := by unfold Addr.add; split <;> simp_all
      rw [rO];exact (hb.cell (p := ⟨b9, o9 + j, none⟩) (World.block_lt_of_cell? w7 _ h1)).trans h1
     have HG7 := LH (mb < g7 /\ g7 < w7.heap.size) ⟨O6, Po⟩;have nT := LH (∀ x8 w9 cap, Bw w7 x8 -> x8.heap.size = w7.heap.size + 1 -> w9.ownsRow x8.heap.size 3 1 (.slice (pt x8.heap.size) (1 + 1) cap) (1 + 1) ([.int .i64 (t2 : Int)] ++ [.int .i64 (f7 : Int)]) -> Bw x8 w9 -> Bw w7 w9 /\ bZ q mb (.slice (pt g7) N7 d7) (aN (M ++ [(0, [t2])]) M.length y).1 w9 /\ gy (fun b => q b /\ b ≠ mb /\ some b ≠ some g7) w9 [t2, f7] (pt x8.heap.size) (1 + 1) cap) fun x8 w9 cap h1 h2 hown hb => by
      have jf := ah h1 hb;obtain ⟨A', c', e', hr', hc1, hc2⟩ := Rd.of_own hown;rw [Value.slice.injEq] at e';obtain ⟨rfl, -, rfl⟩ := e';refine ⟨jf, kQ.out.1.below jf, rfl, hc1, by unfold maxLen at hc2; exact hc2, by simpa [nl, iv] using hr', fun _ bb oo e => ?_, fun h => by simp at h⟩;obtain ⟨rfl, _⟩ : x8.heap.size = bb /\ 0 = oo := by simpa using e
      have h3 := HG7.out;have h4 := kQ.out.2.1.size;have h5 := tJ.out;have h6 := jG.out.1;exact ⟨HQ.out _ (by omega), by omega, fun e => by have := Option.some.inj e; omega⟩
     have iq := LH (∀ (x8 w9 : World) (cap : Nat), (Bw w7 w9 /\ bZ q mb (.slice (pt g7) N7 d7) (aN (M ++ [(0, [t2])]) M.length y).1 w9 /\ gy (fun b => q b /\ b ≠ mb /\ some b ≠ some g7) w9 [t2, f7] (pt x8.heap.size) (1 + 1) cap) -> jV q mb v (aN M t2 r).1 (aN M t2 r).2 w (.returned (.int .i64 (M.length : Int))) (w9.setCell ⟨g7, M.length * 2 + 1, none⟩ (.slice (pt x8.heap.size) (1 + 1) cap)) /\ (fun w' => w'.cell? ⟨w.heap.size, 0, none⟩ = some (.pointer (pt mb)) /\ w'.cell? ⟨mb, 0, none⟩ = some (.slice (pt g7) N7 d7)) (w9.setCell ⟨g7, M.length * 2 + 1, none⟩ (.slice (pt x8.heap.size) (1 + 1) cap))) fun x8 w9 cap h => ⟨by
      have hst := h.2.1.store rM.out.2 (b := 0) (by rw [Kw.out]) h.2.2;rw [HL.out, <- kQ.out.2.2.2.1];refine CP dQ.out.2.2.2 ⟨_, rfl, hst.1, (kQ.out.2.1.tr kQ.out.2.2.1 (Kp.of_below h.1)).grown hst.2 ?_, kQ.out.2.2.1⟩
      rcases kQ.out.2.2.1 with e | ⟨g, e, hg⟩
      ·exact .inr (.inr e.symm)
      ·obtain rfl := Option.some.inj e; exact .inl hg, by
       have hst := h.2.1.store rM.out.2 (b := 0) (by rw [Kw.out]) h.2.2;have h1 := (qH.out w9 h.1).1;refine ⟨(World.cell?_of_block (hst.2.block _ (World.block_lt_of_cell? w9 _ h1.1) (fun e => ?_))).trans h1.1, hst.1.box.cell (j := 0) rfl⟩;have e := Option.some.inj e
       rcases kQ.out.2.2.1 with e2 | ⟨g, e2, hg⟩
       ·have h3 := (jG.out.2 g7 e2.symm).2; have e3 : w.heap.size = g7 := e; omega
       ·have h5 : g7 = g := Option.some.inj e2; have h3 := gF.out.2.2; have e3 : w.heap.size = g7 := e; omega⟩
     clear hN7 O6 Po hn7 hd7 si sV oM Pk;go_wp2_with fail;refine wp_region_held_drew (S := fun w' => w'.cell? ⟨w.heap.size, 0, none⟩ = some (.pointer (pt mb)) /\ w'.cell? ⟨mb, 0, none⟩ = some (.slice (pt g7) N7 d7)) (by kernel_rfl) (tV.out) (fun cO => ?_);refine aL 0 ?_;refine aL 1 ?_;refine aL 2 ?_;refine aL 3 ?_;refine aL 4 ?_;refine aL 5 ?_;refine aL 6 ?_;refine aL 7 ?_;refine aL 8 ?_;refine aL 9 ?_;refine aL 10 ?_;refine aL 11 ?_;refine aL 13 ?_;refine wpAnyH_ready (rs := [12, 14]) (by kernel_rfl) (by simp) ?_;refine wA rfl (fun K0 hK => ?_) (wA rfl (fun K0 hK => ?_) AllReadyH.nil)
     ·skip
      have l8 : w7.drew.cell? ⟨g7, M.length * 2 + 1, none⟩ = some (.slice (some ⟨b9, o9, none⟩) 1 1) := (qH.out _ (below_drewN (Below.refl _ _) 1)).2;go_simp;refine hK.out _ _ (qH.out _ (below_drewN (Below.refl _ _) 1)).1 (fun dL => ?_);clear hK K0 l8;(try simp only [Act.put, pP]);refine wpAnyH_ready (rs := [14]) (by kernel_rfl) (by simp) ?_;refine wA rfl (fun K0 hK => ?_) AllReadyH.nil
      go_simp;have bM := LH (Bw w7 (w7.alloc (.cells #[.int .i64 (f7 : Int)] 3)).drew /\ ae (w7.alloc (.cells #[.int .i64 (f7 : Int)] 3)).drew w7.heap.size [.int .i64 (f7 : Int)] 3 /\ (w7.alloc (.cells #[.int .i64 (f7 : Int)] 3)).drew.heap.size = w7.heap.size + 1) ⟨(ai _ _).drew, ae.at w7 _ _ 3 _ rfl rfl, by simp⟩;refine hK.out _ _ (qH.out _ bM.out.1).1 (fun hS1 => ?_);clear hK K0;obtain ⟨x8, jO⟩ := eX ((w7.alloc (.cells #[.int .i64 (f7 : Int)] 3)).drew);rw [<- jO] at bM ⊢;clear jO;(try simp only [Act.put, pP]);refine wpAnyH_ready (rs := [15]) (by kernel_rfl) (by simp) ?_;refine AllReadyH.cons (o := ⟨some 93, .call { callee := .builtin Builtin.append, args := #[.tmp 90, .tmp 92], argTypes := #[22, 22] }, 22, _, _, none⟩) rfl (fun K0 hK => ?_) AllReadyH.nil
      refine NZ rfl (.tmp 90) (.tmp 92) 22 22 rfl 3 j0 _ 1 8 Tryz.underlying22 sG nP iG gY rfl ⟨b9, o9, none⟩ 1 1 [.int .i64 (t2 : Int)] rfl rfl (HOLD.out _ bM.out.1) _ 1 [.int .i64 (f7 : Int)] rfl (Lu Tryz.underlying22 iG bM.out.2.1 rfl (by simp [Value.oneCell']) 1) (by omega) (by omega) (by unfold maxLen; omega) (by omega) ?_;intro cap w9 dJ fo J3;have aR := LH (Bw w7 w9 /\ bZ q mb (.slice (pt g7) N7 d7) (aN (M ++ [(0, [t2])]) M.length y).1 w9 /\ gy (fun b => q b /\ b ≠ mb /\ some b ≠ some g7) w9 [t2, f7] (pt x8.heap.size) (1 + 1) cap) (nT.out x8 w9 cap bM.out.1 bM.out.2.2 dJ fo);clear dJ fo J3;refine hK.out _ _ (qH.out _ aR.out.1).1 (fun dh => ?_);clear hK K0;(try simp only [Act.put, pP]);refine aL 16 ?_;refine wpAnyH_take (i := 17) (oi := { dst := some 95, op := Op.fieldAddr 109 (Operand.tmp 94) 1, type := 0, pos := "match.go:66", after := #[{ on := 16, ground := Ground.data }, { on := 0, ground := Ground.phase }, { on := 1, ground := Ground.phase }, { on := 2, ground := Ground.phase }, { on := 3, ground := Ground.phase }, { on := 4, ground := Ground.phase }, { on := 5, ground := Ground.phase }, { on := 6, ground := Ground.phase }, { on := 7, ground := Ground.phase }, { on := 8, ground := Ground.phase }, { on := 9, ground := Ground.phase }, { on := 10, ground := Ground.phase }, { on := 11, ground := Ground.phase }, { on := 12, ground := Ground.phase }, { on := 13, ground := Ground.phase }, { on := 14, ground := Ground.phase }, { on := 15, ground := Ground.phase }], guard := none }) (v := ?_) rfl (by kernel_rfl) (by kernel_rfl) (by kernel_rfl) (fun _ _ _ h => h) (Or.inl ⟨by rfl, ?_⟩) (by assumption) ?_
      rotate_left
      ·(rintro w' ⟨h1, h2⟩; go_simp; try with_reducible rfl)
      (try simp only [Act.put, pP]);refine wpAnyH_ready (rs := [18]) (by kernel_rfl) (by simp) ?_;refine AllReadyH.cons (o := ⟨none, .store 22 (.tmp 95) (.tmp 93), 0, _, _, none⟩) rfl (fun K0 hK => ?_) AllReadyH.nil
      refine NV rfl 22 (.tmp 95) (.tmp 93) rfl g7 (M.length * 2 + 1) rfl (.slice (pt x8.heap.size) (1 + 1) cap) rfl rfl rfl (by rw [(qH.out _ aR.out.1).2]; rfl) (aR.out.2.1.frozen _) Fs ?_;have lW := Lh (iq.out x8 w9 cap aR.out);refine hK.out _ _ lW.out.2 (fun kV => ?_);clear hK K0;(try simp only [Act.put, pP]);refine wpAnyH_done (by kernel_rfl) ?_ _;go_wp2_with fail;go_ret;exact lW.out.1
     ·skip
      go_simp;have bM := LH (Bw w7 (w7.alloc (.cells #[.int .i64 (f7 : Int)] 3)).drew /\ ae (w7.alloc (.cells #[.int .i64 (f7 : Int)] 3)).drew w7.heap.size [.int .i64 (f7 : Int)] 3 /\ (w7.alloc (.cells #[.int .i64 (f7 : Int)] 3)).drew.heap.size = w7.heap.size + 1) ⟨(ai _ _).drew, ae.at w7 _ _ 3 _ rfl rfl, by simp⟩;refine hK.out _ _ (qH.out _ bM.out.1).1 (fun hS1 => ?_);clear hK K0;obtain ⟨x8, jO⟩ := eX ((w7.alloc (.cells #[.int .i64 (f7 : Int)] 3)).drew);rw [<- jO] at bM ⊢;clear jO;(try simp only [Act.put, pP]);refine wpAnyH_ready (rs := [12]) (by kernel_rfl) (by simp) ?_;refine wA rfl (fun K0 hK => ?_) AllReadyH.nil
      have l8 : x8.cell? ⟨g7, M.length * 2 + 1, none⟩ = some (.slice (some ⟨b9, o9, none⟩) 1 1) := (qH.out _ (bM.out.1)).2;go_simp;refine hK.out _ _ (qH.out _ (bM.out.1)).1 (fun dL => ?_);clear hK K0 l8;(try simp only [Act.put, pP]);refine wpAnyH_ready (rs := [15]) (by kernel_rfl) (by simp) ?_;refine AllReadyH.cons (o := ⟨some 93, .call { callee := .builtin Builtin.append, args := #[.tmp 90, .tmp 92], argTypes := #[22, 22] }, 22, _, _, none⟩) rfl (fun K0 hK => ?_) AllReadyH.nil
      refine NZ rfl (.tmp 90) (.tmp 92) 22 22 rfl 3 j0 _ 1 8 Tryz.underlying22 sG nP iG gY rfl ⟨b9, o9, none⟩ 1 1 [.int .i64 (t2 : Int)] rfl rfl (HOLD.out _ bM.out.1) _ 1 [.int .i64 (f7 : Int)] rfl (Lu Tryz.underlying22 iG bM.out.2.1 rfl (by simp [Value.oneCell']) 1) (by omega) (by omega) (by unfold maxLen; omega) (by omega) ?_;intro cap w9 dJ fo J3;have aR := LH (Bw w7 w9 /\ bZ q mb (.slice (pt g7) N7 d7) (aN (M ++ [(0, [t2])]) M.length y).1 w9 /\ gy (fun b => q b /\ b ≠ mb /\ some b ≠ some g7) w9 [t2, f7] (pt x8.heap.size) (1 + 1) cap) (nT.out x8 w9 cap bM.out.1 bM.out.2.2 dJ fo);clear dJ fo J3;refine hK.out _ _ (qH.out _ aR.out.1).1 (fun dh => ?_);clear hK K0;(try simp only [Act.put, pP]);refine aL 16 ?_;refine wpAnyH_take (i := 17) (oi := { dst := some 95, op := Op.fieldAddr 109 (Operand.tmp 94) 1, type := 0, pos := "match.go:66", after := #[{ on := 16, ground := Ground.data }, { on := 0, ground := Ground.phase }, { on := 1, ground := Ground.phase }, { on := 2, ground := Ground.phase }, { on := 3, ground := Ground.phase }, { on := 4, ground := Ground.phase }, { on := 5, ground := Ground.phase }, { on := 6, ground := Ground.phase }, { on := 7, ground := Ground.phase }, { on := 8, ground := Ground.phase }, { on := 9, ground := Ground.phase }, { on := 10, ground := Ground.phase }, { on := 11, ground := Ground.phase }, { on := 12, ground := Ground.phase }, { on := 13, ground := Ground.phase }, { on := 14, ground := Ground.phase }, { on := 15, ground := Ground.phase }], guard := none }) (v := ?_) rfl (by kernel_rfl) (by kernel_rfl) (by kernel_rfl) (fun _ _ _ h => h) (Or.inl ⟨by rfl, ?_⟩) (by assumption) ?_
      rotate_left
      ·(rintro w' ⟨h1, h2⟩; go_simp; try with_reducible rfl)
      (try simp only [Act.put, pP]);refine wpAnyH_ready (rs := [18]) (by kernel_rfl) (by simp) ?_;refine AllReadyH.cons (o := ⟨none, .store 22 (.tmp 95) (.tmp 93), 0, _, _, none⟩) rfl (fun K0 hK => ?_) AllReadyH.nil
      refine NV rfl 22 (.tmp 95) (.tmp 93) rfl g7 (M.length * 2 + 1) rfl (.slice (pt x8.heap.size) (1 + 1) cap) rfl rfl rfl (by rw [(qH.out _ aR.out.1).2]; rfl) (aR.out.2.1.frozen _) Fs ?_;have lW := Lh (iq.out x8 w9 cap aR.out);refine hK.out _ _ lW.out.2 (fun kV => ?_);clear hK K0;(try simp only [Act.put, pP]);refine wpAnyH_done (by kernel_rfl) ?_ _;go_wp2_with fail;go_ret;exact lW.out.1
    ·skip
     have hc3 := (dQ.out).1.cell (j := 0) rfl;have BF := (dQ.out).2.1.cell (j := 0) rfl;have EI := (dQ.out).2.1.cell (j := 1) rfl;have wO := (dQ.out).2.1.cell (j := 2) rfl;have wN := (dQ.out).2.2.1.cell (j := 0) rfl;have pJ : (K == 1) = false := bF (by omega);have sF : (K == 2) = false := bF (by omega);have uG : (K == 3) = false := bF (by omega);have yD : (K == 4) = false := bF (by omega);have DR : (K == 5) = false := bF (by omega);have HL := LH (aN M t2 r = (M ++ [(0, [])], M.length)) (by rw [qf, if_neg (by rw [<- HX.out.2.1]; exact k1), if_neg (by rw [<- HX.out.2.1]; exact k2), if_neg (by rw [<- HX.out.2.1]; exact k3), if_neg (by rw [<- HX.out.2.1]; exact k4), if_neg (by rw [<- HX.out.2.1]; exact k5)]);have HAD := LH (Cz 59 #[.pointer (pt mb), .int .u64 0, .slice none 0 0] (((w.alloc (.cells #[.pointer (pt mb)] 107)).alloc (zC K A n c B m d)).alloc (.cells #[.int .i64 (t2 : Int)] 3)) (jV q mb v (M ++ [(0, [])]) M.length (((w.alloc (.cells #[.pointer (pt mb)] 107)).alloc (zC K A n c B m d)).alloc (.cells #[.int .i64 (t2 : Int)] 3)))) (BQ (b := 0) (((w.alloc (.cells #[.pointer (pt mb)] 107)).alloc (zC K A n c B m d)).alloc (.cells #[.int .i64 (t2 : Int)] 3)) (fun b hb => HQ.out b (Nat.le_trans tJ.out hb)) yx.out [] none 0 0 (gy.nil _ _) (by have := lD.out; have := FX r; omega));clear k1 k2 k3 k4 k5;go_enter Tryz.func60, Tryz.ntmps60
     go_wp2_with (((with_reducible refine (HAD.out).mono ?_); rintro e w6 hp; obtain ⟨v6, rfl, h1, h2, h3⟩ := sS hp; have HR := LH (jV q mb v (aN M t2 r).1 (aN M t2 r).2 w (.returned (.int .i64 (M.length : Int))) w6) (by rw [HL.out]; exact CP dQ.out.2.2.2 ⟨v6, rfl, h1, h2, h3⟩); clear hp h1 h2 h3))
     go_ret;exact HR.out
def xH (L : List Lt) (x : Int) : Option Alp.B := if x < (L.length : Int) then some (L.getD x.toNat z).text else if x = 62 then some [35] else if x = 63 then some [45] else none
theorem Wy {pb : Nat} {v : Value} {b o : Nat} {n c : Nat} {fl : Bool} {t : Alp.B} (w : World) (h : gH pb v (some ⟨b, o, none⟩) n c fl t w) (x : Nat) (L : List Lt) (hn : n = L.length) (hc : n <= c) (hm : c <= 9223372036854775807) (hx : x < n) (lQ : RL w b o L) (hbp : b < pb) (hrow : ∀ g, v.ownBlock = some g -> b ≠ g) (ht : t.length <= 1000000000) (hlt : (L.getD x z).text.length <= 1000000) : Calls Tryz.prog 134 #[.pointer (pt pb), .int .i64 (x : Int)] w (aW pb v (some ⟨b, o, none⟩) n c fl (t ++ (L.getD x z).text) w) := by
 obtain ⟨i0, aZ, hz0, hz1, hz2⟩ := info_parts KF;obtain ⟨B5, d5, hv, _⟩ := Rd.of_own h.row;obtain ⟨N5, bD⟩ := eX t.length;rw [<- bD] at hv;subst hv;obtain ⟨tx, wy⟩ := eX ((L.getD x z).text);obtain ⟨m, EL⟩ := eX tx.length;rw [<- wy] at hlt ⊢;have hb1 : w.cell? ⟨pb, 1, none⟩ = some (.slice B5 N5 d5) := h.box.cell (j := 1) rfl;have hb0 : w.cell? ⟨pb, 0, none⟩ = some (.slice (some ⟨b, o, none⟩) n c) := h.box.cell (j := 0) rfl;have ze : w.cell? ⟨b, o + x * 5, none⟩ = some (.string (tb tx)) := by rw [wy]; exact lQ.c0 (by omega) rfl
 have jo := LH ((fun w' => w'.cell? ⟨pb, 0, none⟩ = some (.slice (some ⟨b, o, none⟩) n c) /\ w'.cell? ⟨b, o + x * 5, none⟩ = some (.string (tb tx))) w.drew) ⟨hb0, ze⟩;have HO := LH (w.drew.ownsRow (pb + 1) 5 1 (.slice B5 N5 d5) N5 (bs t) /\ pb + 1 <= w.drew.heap.size) ⟨by have h1 := h.row; rw [<- bD] at h1; exact h1, h.lt.1⟩;have oI := LH (∀ W : World, Src Tryz.prog i0.size 9 (.string (tb tx)) m (bs tx) W) fun W => by
  have h1 := Src.ofString (w := W) Tryz.underlying9 (tb tx);rw [kI, <- EL] at h1;rw [hz1];exact h1
 have iM := LH (∀ v5 w5, w5.ownsRow (pb + 1) 5 1 v5 (N5 + m) (bs t ++ bs tx) -> w.drew.grownBy w5 (Value.ownBlock (.slice B5 N5 d5)) -> (v5.ownBlock = Value.ownBlock (.slice B5 N5 d5) \/ v5.ownBlock = some w.drew.heap.size) -> (fun w' => w'.cell? ⟨pb, 0, none⟩ = some (.slice (some ⟨b, o, none⟩) n c) /\ w'.cell? ⟨b, o + x * 5, none⟩ = some (.string (tb tx))) w5 /\ ae w5 pb [.slice (some ⟨b, o, none⟩) n c, .slice B5 N5 d5, .bool fl] 92 /\ ∀ w9, aT w5 w9 pb [.slice (some ⟨b, o, none⟩) n c, v5, .bool fl] 92 -> (fun w' => w'.cell? ⟨pb, 0, none⟩ = some (.slice (some ⟨b, o, none⟩) n c) /\ w'.cell? ⟨b, o + x * 5, none⟩ = some (.string (tb tx))) w9 /\ aW pb (.slice B5 N5 d5) (some ⟨b, o, none⟩) n c fl (t ++ tx) w (.returned (.tuple #[])) w9) fun v5 w5 hown hg hat => by
  rw [bD, EL] at hown;have h1 := h.app (ys := tx) (below_drewN (Below.refl _ _) 1) hown hg hat;have hbo : ∀ g, Value.ownBlock (.slice B5 N5 d5) = some g -> b ≠ g := hrow;have wN : w5.cell? ⟨b, o + x * 5, none⟩ = some (.string (tb tx)) := (World.cell?_of_block (hg.block b (World.block_lt_of_cell? w _ ze) (fun e => hbo b e.symm rfl))).trans ze;refine ⟨⟨h1.1.cell (j := 0) rfl, wN⟩, h1.1, fun w9 hst => ⟨⟨hst.1.cell (j := 0) rfl, hst.cell (by omega) wN⟩, rfl, v5, h1.2 w9 hst⟩⟩
 have hs1 : N5 + m <= maxLen := by unfold maxLen; omega
 have hs2 : (N5 + m) * 1 <= 140737488355328 := by omega
 clear h bD wy EL lQ hn hrow ze;go_enter Tryz.func134, Tryz.ntmps134
 go_upto_region 2 with fail
 clear hb0;refine wp_region_held_drew (S := fun w' => w'.cell? ⟨pb, 0, none⟩ = some (.slice (some ⟨b, o, none⟩) n c) /\ w'.cell? ⟨b, o + x * 5, none⟩ = some (.string (tb tx))) (by kernel_rfl) (jo.out) (fun cO => ?_);refine aL 0 ?_;refine aL 1 ?_;refine aL 2 ?_;refine aL 3 ?_;refine aL 5 ?_;refine aL 6 ?_;refine aL 7 ?_;refine aL 8 ?_;refine aL 9 ?_;refine aL 10 ?_;refine aL 11 ?_;refine aL 12 ?_;refine wpAnyH_ready (rs := [4]) (by kernel_rfl) (by simp) ?_;refine wA rfl (fun K0 hK => ?_) AllReadyH.nil
 go_simp;refine hK.out _ _ jo.out (fun hS1 => ?_);clear hK K0 cO;(try simp only [Act.put, pP]);refine wpAnyH_ready (rs := [13]) (by kernel_rfl) (by simp) ?_;refine AllReadyH.cons (o := ⟨some 28, .call { callee := .builtin Builtin.append, args := #[.tmp 19, .tmp 27], argTypes := #[45, 9] }, 45, _, _, none⟩) rfl (fun K0 hK => ?_) AllReadyH.nil
 refine xM rfl (.tmp 19) (.tmp 27) 45 9 rfl (pb + 1) 5 i0 _ 1 1 Tryz.underlying45 aZ hz0 hz1 hz2 rfl _ N5 (bs t) rfl HO.out.1 _ m (bs tx) rfl (oI.out _) hs1 hs2 HO.out.2 ?_;intro v5 w5 ed cB dW;obtain ⟨A6, c6, fD, _⟩ := Rd.of_own ed;subst fD;have bf := Lh (iM.out _ _ ed cB dW);clear ed cB dW;refine hK.out _ _ bf.out.1 (fun dh => ?_);clear hK K0 hS1;(try simp only [Act.put, pP]);refine aL 14 ?_;refine wpAnyH_take (i := 15) (oi := { dst := some 30, op := Op.fieldAddr 92 (Operand.tmp 29) 1, type := 0, pos := "pattern.go:290", after := #[{ on := 14, ground := Ground.data }, { on := 0, ground := Ground.phase }, { on := 1, ground := Ground.phase }, { on := 2, ground := Ground.phase }, { on := 3, ground := Ground.phase }, { on := 4, ground := Ground.phase }, { on := 5, ground := Ground.phase }, { on := 6, ground := Ground.phase }, { on := 7, ground := Ground.phase }, { on := 8, ground := Ground.phase }, { on := 9, ground := Ground.phase }, { on := 10, ground := Ground.phase }, { on := 11, ground := Ground.phase }, { on := 12, ground := Ground.phase }, { on := 13, ground := Ground.phase }], guard := none }) (v := ?_) rfl (by kernel_rfl) (by kernel_rfl) (by kernel_rfl) (fun _ _ _ h => h) (Or.inl ⟨by rfl, ?_⟩) (by assumption) ?_
 rotate_left
 ·(rintro w' ⟨h1, h2⟩; go_simp; try with_reducible rfl)
 (try simp only [Act.put, pP]);refine wpAnyH_ready (rs := [16]) (by kernel_rfl) (by simp) ?_;refine AllReadyH.cons (o := ⟨none, .store 45 (.tmp 30) (.tmp 28), 0, _, _, none⟩) rfl (fun K0 hK => ?_) AllReadyH.nil
 refine LQ rfl 45 (.tmp 30) (.tmp 28) rfl pb 1 rfl (.slice A6 (N5 + m) c6) rfl rfl rfl bf.out.2.1 (by simp) KC ?_;intro w9 ag;have aR := Lh (bf.out.2.2 w9 ag);clear ag;refine hK.out _ _ aR.out.1 (fun kV => ?_);clear hK K0 dh;(try simp only [Act.put, pP]);refine wpAnyH_done (by kernel_rfl) ?_ _;go_wp2_with fail;go_end0;exact aR.out.2
theorem TP {pb : Nat} {v : Value} {A : Option Addr} {n c : Nat} {fl : Bool} {t : Alp.B} (w : World) (h : gH pb v A n c fl t w) (hn : n <= 60) (ht : t.length <= 1000000000) : Calls Tryz.prog 134 #[.pointer (pt pb), .int .i64 62] w (aW pb v A n c fl (t ++ [35]) w) := by
 have HM := LH (Cz 107 #[.pointer (pt pb), .int .u8 35] w (aW pb v A n c fl (t ++ [35]) w)) (mH w h 35 ht);have hb0 : w.cell? ⟨pb, 0, none⟩ = some (.slice A n c) := h.box.cell (j := 0) rfl;have e2 : decide ((62 : Int) < (n : Int)) = false := dF (by omega);clear h;go_enter Tryz.func134, Tryz.ntmps134
 go_wp2_with ((with_reducible refine HM.out.mono ?_); rintro e x4 hp; have H4 := Lh hp; obtain ⟨rfl, _⟩ := oW hp; clear hp)
 go_end0;exact H4.out
theorem VD {pb : Nat} {v : Value} {A : Option Addr} {n c : Nat} {fl : Bool} {t : Alp.B} (w : World) (h : gH pb v A n c fl t w) (hn : n <= 60) (ht : t.length <= 1000000000) : Calls Tryz.prog 134 #[.pointer (pt pb), .int .i64 63] w (aW pb v A n c fl (t ++ [45]) w) := by
 have HM := LH (Cz 107 #[.pointer (pt pb), .int .u8 45] w (aW pb v A n c fl (t ++ [45]) w)) (mH w h 45 ht);have hb0 : w.cell? ⟨pb, 0, none⟩ = some (.slice A n c) := h.box.cell (j := 0) rfl;have e2 : decide ((63 : Int) < (n : Int)) = false := dF (by omega);clear h;go_enter Tryz.func134, Tryz.ntmps134
 go_wp2_with ((with_reducible refine HM.out.mono ?_); rintro e x4 hp; have H4 := Lh hp; obtain ⟨rfl, _⟩ := oW hp; clear hp)
 go_end0;exact H4.out
theorem UA {pb : Nat} {v : Value} {A : Option Addr} {n c : Nat} {fl : Bool} {t : Alp.B} (w : World) (h : gH pb v A n c fl t w) (hn : n <= 60) (x : Int) (h1 : ¬ x < (n : Int)) (h2 : x ≠ 62) (h3 : x ≠ 63) : Calls Tryz.prog 134 #[.pointer (pt pb), .int .i64 x] w (aW pb v A n c true t w) := by
 have hb0 : w.cell? ⟨pb, 0, none⟩ = some (.slice A n c) := h.box.cell (j := 0) rfl;have hb2 : w.cell? ⟨pb, 2, none⟩ = some (.bool fl) := h.box.cell (j := 2) rfl;have hfr : w.frozen? ⟨pb, 2, none⟩ = false := h.box.frozen 2;have E5 := LH (∀ W, W = w.setCell ⟨pb, 2, none⟩ (.bool true) -> aW pb v A n c true t w (.returned (.tuple #[])) W) fun W hW => by
  have hst := aT.of_setCell h.box 2 (.bool true);rw [<- hW] at hst;have hne : v.ownBlock ≠ some pb := fun e => by have := (h.row.lt pb e).1; omega
  exact ⟨rfl, v, ⟨hst.1, h.row.kept (row := some pb) (dG hst) (.inr hne)⟩, ⟨hst.2.2.2.1, hst.2.2.2.2.1, hst.2.2.2.2.2, by rw [hst.2.2.1]; exact Nat.le_refl _, fun k _ a _ => hst.2.1 k a⟩, .inl rfl⟩
 have e1 : decide (x < (n : Int)) = false := dF h1;have e2 : (x == 62) = false := bF h2;have e3 : (x == 63) = false := bF h3;clear h h1 h2 h3;go_enter Tryz.func134, Tryz.ntmps134;go_wp2_with fail;go_end0;exact E5.out _ rfl
def sP (tx : Alp.B) (l : Lt) : Bool := decide (tx.length < l.text.length /\ tx <+: l.text)
theorem UG (args : Array Value) (W : World) : (callFunc 157 args).run Tryz.prog W = .ok (.enter 157 args) W := by kernel_rfl
theorem QB (tx : Alp.B) (l : Lt) (g : Nat) (w : World) (hg : w.cell? ⟨g, 0, none⟩ = some (.string (tb tx))) (hl : l.text.length <= 1000000) (ht : tx.length <= 1000000) (V : Bool) (hV : V = sP tx l) : Calls Tryz.prog 157 #[.agg #[.string (tb l.text), .int .i64 l.base, .int .i64 l.mark, .int .i64 l.cas, .int .i64 l.width], .pointer (pt g)] w (aU w V) := by
 have gN : ae (w.alloc (.cells #[.string (tb l.text), .int .i64 l.base, .int .i64 l.mark, .int .i64 l.cas, .int .i64 l.width] 90)) w.heap.size [.string (tb l.text), .int .i64 l.base, .int .i64 l.mark, .int .i64 l.cas, .int .i64 l.width] 90 := ae.at w _ _ 90 _ rfl rfl;have hc0 := gN.cell (j := 0) rfl;have hc1 := ((ai w (.cells #[.string (tb l.text), .int .i64 l.base, .int .i64 l.mark, .int .i64 l.cas, .int .i64 l.width] 90)).cell (p := ⟨g, 0, none⟩) (World.block_lt_of_cell? w _ hg)).trans hg;have HB := LH (Bw w (w.alloc (.cells #[.string (tb l.text), .int .i64 l.base, .int .i64 l.mark, .int .i64 l.cas, .int .i64 l.width] 90))) (ai _ _);obtain ⟨U, hU⟩ := eX (decide (tx <+: l.text));have HHP := LH (∀ W, Cz 154 #[.string (tb l.text), .string (tb tx)] W fun e w' => e = .returned (.bool U) /\ w' = W) fun W => (Tryz.strings_HasPrefix _ _ W).mono fun e w' ⟨he, hw⟩ => ⟨by rw [he, C9, C9, NM, hU], hw⟩
 obtain ⟨ln, yH⟩ := eX l.text.length;obtain ⟨tn, wQ⟩ := eX tx.length;have hs1 : (tb l.text).size = ln := by rw [kI, yH]
 have hs2 : (tb tx).size = tn := by rw [kI, wQ]
 have HV := LH (V = (decide (tn < ln) && U)) (by rw [hV, hU, yH, wQ]; unfold sP; simp);clear gN hg hV hU yH wQ hl ht
 by_cases hlt : tn < ln
 ·have e1 : decide (tn < ln) = true := dT hlt;have HW := LH (V = U) (by rw [HV.out, e1]; rfl);go_enter Tryz.func157, Tryz.ntmps157
  go_wp2_with ((with_reducible refine (HHP.out _).mono ?_); rintro e w6 ⟨rfl, ky⟩; have rq := ky.symm; clear ky; subst rq)
  go_ret;exact ⟨by rw [HW.out]; rfl, HB.out⟩
 ·have e1 : decide (tn < ln) = false := dF hlt;have HW := LH (V = false) (by rw [HV.out, e1]; rfl);go_enter Tryz.func157, Tryz.ntmps157;go_wp2_with fail;go_ret;exact ⟨by rw [HW.out]; rfl, HB.out⟩
theorem Uk (L : List Lt) (A : Option Addr) (n c g : Nat) (tx : Alp.B) (w : World) (hn : n = L.length) (hc : n <= c) (hm : c <= 9223372036854775807) (hL : Rd w A (lv L)) (tO : ∀ l ∈ L, l.text.length <= 1000000) (ht : tx.length <= 1000000) (hg : w.cell? ⟨g, 0, none⟩ = some (.string (tb tx))) (V : Bool) (hV : V = L.any (sP tx)) : Calls Tryz.prog 172 #[.slice A n c, .func (.func 157) #[] #[.pointer (pt g)]] w fun e w' => ∃ x : Int, e = .returned (.int .i64 x) /\ decide (0 <= x) = V /\ Bw w w' := by
 have HL := LH (Rd w A (lv L) /\ n = L.length /\ V = L.any (sP tx)) ⟨hL, hn, hV⟩;have HC := LH (∀ W, Bw w W -> ∀ l ∈ L, ∀ U, U = sP tx l -> Cz 157 #[.agg #[.string (tb l.text), .int .i64 l.base, .int .i64 l.mark, .int .i64 l.cas, .int .i64 l.width], .pointer (pt g)] W (aU W U)) fun W hb l hl U hU => QB tx l g W ((hb.cell (p := ⟨g, 0, none⟩) (World.block_lt_of_cell? w _ hg)).trans hg) (tO l hl) ht U hU
 have hen := UG;clear hL hn hV tO ht hg;go_enter Tryz.func172, Tryz.ntmps172;go_wp2_with fail
 go_loopg [8] n (fun gq s8 wr => ∃ i : Nat, i + gq = n /\ s8 = .int .i64 (i : Int) /\ Hid ((∀ j, j < i -> sP tx (L.getD j z) = false) /\ Bw w wr))
 case atStart => exact ⟨0, by omega, rfl, Lh ⟨fun j h => by omega, Below.refl _ _⟩⟩
 case round =>
  obtain ⟨i, hi, rfl, HI⟩ := hrel
  by_cases hlt : i < n
  ·obtain ⟨gg, rfl⟩ : ∃ g, gk = g + 1 := ⟨gk - 1, by omega⟩;have aH : i < L.length := by rw [<- HL.out.2.1]; exact hlt
   obtain ⟨b, o, rfl, lQ⟩ := z8 HL.out.1 (List.ne_nil_of_length_pos (by omega));obtain ⟨l, hl⟩ := eX (L.getD i z);have hrg : wr.rangeAt b (o + i * 5) [.string (tb l.text), .int .i64 l.base, .int .i64 l.mark, .int .i64 l.cas, .int .i64 l.width] := (lQ.below HI.out.2).range aH hl;have bY : l ∈ L := by rw [hl, List.getD_eq_getElem?_getD, List.getElem?_eq_getElem aH]; exact List.getElem_mem aH
   obtain ⟨U, hU⟩ := eX (sP tx l);have vo := Lh (HC.out wr HI.out.2 l bY U hU)
   cases U with
   |true =>
    have HF := LH (V = true) (by rw [HL.out.2.2, List.any_eq_true]; exact ⟨l, bY, hU.symm⟩);clear hl bY hU aH lQ
    go_wp2_with (first
     |(refine wpList_load_mid rfl 90 (.tmp 14) rfl b (o + i * 5) rfl [.string (tb l.text), .int .i64 l.base, .int .i64 l.mark, .int .i64 l.cas, .int .i64 l.width] _ hrg Tryz.underlying90 rfl Hq ?_)
     |((with_reducible refine vo.out.mono ?_); rintro e w6 hp; obtain ⟨rfl, eB⟩ := aV hp; have H6 := Lh eB; clear hp eB))
    go_ret;exact ⟨_, rfl, by rw [HF.out]; simp, HI.out.2.trans (H6.out.mono HI.out.2.size)⟩
   |false =>
    have HF := LH (∀ j, j < i + 1 -> sP tx (L.getD j z) = false) fun j h => by
     by_cases e : j = i
     ·subst e; rw [<- hl]; exact hU.symm
     ·exact HI.out.1 j (by omega)
    clear hl bY hU aH lQ
    go_wp2_with (first
     |(refine wpList_load_mid rfl 90 (.tmp 14) rfl b (o + i * 5) rfl [.string (tb l.text), .int .i64 l.base, .int .i64 l.mark, .int .i64 l.cas, .int .i64 l.width] _ hrg Tryz.underlying90 rfl Hq ?_)
     |((with_reducible refine vo.out.mono ?_); rintro e w6 hp; obtain ⟨rfl, eB⟩ := aV hp; have H6 := Lh eB; clear hp eB))
    go_roundg gg
    case rel => exact ⟨i + 1, by omega, by go_num, Lh ⟨HF.out, HI.out.2.trans (H6.out.mono HI.out.2.size)⟩⟩
    case measure => omega
  ·obtain rfl : n = i := by omega
   have HF := LH (V = false) (by
    rw [HL.out.2.2, List.any_eq_false];intro y hy;obtain ⟨j, hj, e⟩ := List.getElem_of_mem hy;have h1 := HI.out.1 j (by rw [HL.out.2.1]; exact hj);rw [List.getD_eq_getElem?_getD, List.getElem?_eq_getElem hj] at h1;rw [<- e]
    simpa using h1)
   go_wp2_with fail;go_ret;exact ⟨_, rfl, by rw [HF.out]; rfl, HI.out.2⟩
theorem P7 (L : List Lt) (A : Option Addr) (n c g : Nat) (tx : Alp.B) (w : World) (hn : n = L.length) (hc : n <= c) (hm : c <= 9223372036854775807) (hL : Rd w A (lv L)) (tO : ∀ l ∈ L, l.text.length <= 1000000) (ht : tx.length <= 1000000) (hg : w.cell? ⟨g, 0, none⟩ = some (.string (tb tx))) (V : Bool) (hV : V = L.any (sP tx)) : Calls Tryz.prog 156 #[.slice A n c, .func (.func 157) #[] #[.pointer (pt g)]] w (aU w V) := by
 have HC := Lh (Uk L A n c g tx w hn hc hm hL tO ht hg V hV);clear hn hc hm hL tO ht hg hV;go_enter Tryz.func156, Tryz.ntmps156
 go_wp2_with ((with_reducible refine HC.out.mono ?_); rintro e w1 ⟨x, rfl, hd, hb⟩; have H1 := LH (Bw w w1) hb; clear hb)
 go_ret;exact ⟨rfl, H1.out⟩
theorem Xc : (Tryz.prog.info? 9).map (·.size) = some 1 := by kernel_rfl
def sK (L : List Lt) (r : Rx) : Bool := qj r L.length && L.any (sP (L.getD (r.syms.getD 0 0).toNat z).text)
theorem RF (r : Rx) (A B : Option Addr) (n c m d : Nat) (w : World) (h : aI w r A n c B m d) (kN : ∀ x ∈ r.syms, 0 <= x) (pb : Nat) (AL : Option Addr) (N cN : Nat) (L : List Lt) (hp : w.cell? ⟨pb, 0, none⟩ = some (.slice AL N cN)) (hN : N = L.length) (rP : N <= cN) (hcN : cN <= 9223372036854775807) (hL : Rd w AL (lv L)) (tO : ∀ l ∈ L, l.text.length <= 1000000) : Calls Tryz.prog 135 #[.pointer (pt pb), .agg #[.int .i64 r.kind, .slice A n c, .slice B m d]] w (aU w (sK L r)) := by
 obtain ⟨K, hK⟩ := eX r.kind;obtain ⟨V1, hV1⟩ := eX (qj r N);obtain ⟨V, hV⟩ := eX (sK L r);rw [<- hV];have bR := LH (∀ W, Below (w.alloc (zC K A n c B m d)).heap.size (w.alloc (zC K A n c B m d)) W -> Cz 136 #[.pointer (pt pb), .agg #[.int .i64 r.kind, .slice A n c, .slice B m d]] W (aU W V1)) fun W hb => by
  have fq : Bw w W := ah (ai w _) hb;rw [hV1];exact Jo r A B n c m d W (h.below fq) pb AL N cN ((fq.cell (p := ⟨pb, 0, none⟩) (World.block_lt_of_cell? w _ hp)).trans hp)
 rw [<- hK] at bR ⊢
 cases V1 with
 |false =>
  have HF := LH (V = false) (by rw [hV]; unfold sK; rw [<- hN, <- hV1]; rfl);have hr1 : (w.alloc (zC K A n c B m d)).rangeAt w.heap.size 0 (zV K A n c B m d) := fun j v hv => by rw [Nat.zero_add]; exact kH (Below.refl _ _) j v hv
  have HI := Lh (bR.out _ (Below.refl _ _));clear h kN hp hN rP hcN hL tO hK hV1 hV bR;go_enter Tryz.func135, Tryz.ntmps135
  go_wp2_with (first
   |(refine aG rfl (.tmp 3) rfl w.heap.size (0) rfl K A B n c m d hr1 ?_)
   |((with_reducible refine HI.out.mono ?_); rintro e w3 hp; obtain ⟨rfl, hb⟩ := aV hp; have H3 := LH (Bw w w3) (ah (ai _ _) hb); clear hp hb))
  go_ret;exact ⟨by rw [HF.out]; rfl, H3.out⟩
 |true =>
  have hq := of_decide_eq_true hV1.symm;have yS := h.nlen;obtain ⟨xi, yf⟩ : ∃ x, r.syms = [x] := by
   match hq' : r.syms, hq.1 with
   |[x], _ => exact ⟨x, rfl⟩
  have hx0 := kN xi (by rw [yf]; simp);have uT : xi < (N : Int) := by have h1 := hq.2; rw [yf] at h1; exact h1
  obtain ⟨x, rfl⟩ : ∃ x : Nat, xi = (x : Int) := ⟨xi.toNat, by omega⟩;have yX : n = 1 := by rw [yS, yf]; rfl
  subst yX;obtain ⟨b, o, rfl, hcs⟩ := h.syms.open (by rw [yf]; simp [iv]);have h3 := hcs 0 (.int .i64 (x : Int)) (by rw [yf]; rfl);rw [Nat.add_zero] at h3;obtain ⟨bl, ol, rfl, lQ⟩ := z8 hL (List.ne_nil_of_length_pos (by omega));obtain ⟨tx, wy⟩ := eX ((L.getD x z).text);have h4 : w.cell? ⟨bl, ol + x * 5, none⟩ = some (.string (tb tx)) := by rw [wy]; exact lQ.c0 (by omega) rfl
  have Ey : tx.length <= 1000000 := by rw [wy]; exact tO _ (by rw [List.getD_eq_getElem?_getD, List.getElem?_eq_getElem (by omega)]; exact List.getElem_mem _)
  have gN : ae (w.alloc (zC K (some ⟨b, o, none⟩) 1 c B m d)) w.heap.size (zV K (some ⟨b, o, none⟩) 1 c B m d) 25 := ae.at w _ _ 25 _ rfl rfl;have jH : Bw w (w.alloc (zC K (some ⟨b, o, none⟩) 1 c B m d)) := ai _ _;have iT := LH (∀ W, Below (w.alloc (zC K (some ⟨b, o, none⟩) 1 c B m d)).heap.size (w.alloc (zC K (some ⟨b, o, none⟩) 1 c B m d)) W -> (fun w' => w'.cell? ⟨pb, 0, none⟩ = some (.slice (some ⟨bl, ol, none⟩) N cN) /\ w'.cell? ⟨w.heap.size, 1, none⟩ = some (.slice (some ⟨b, o, none⟩) 1 c) /\ w'.cell? ⟨b, o, none⟩ = some (.int .i64 (x : Int)) /\ w'.cell? ⟨bl, ol + x * 5, none⟩ = some (.string (tb tx))) W) fun W hb => by
   have fq : Bw w W := ah jH hb;exact ⟨(fq.cell (p := ⟨pb, 0, none⟩) (World.block_lt_of_cell? w _ hp)).trans hp, (gN.below hb gN.lt).cell (j := 1) rfl, (fq.cell (p := ⟨b, o, none⟩) (World.block_lt_of_cell? w _ h3)).trans h3, (fq.cell (p := ⟨bl, ol + x * 5, none⟩) (World.block_lt_of_cell? w _ h4)).trans h4⟩
  have lD := LH (∀ W g, Below (w.alloc (zC K (some ⟨b, o, none⟩) 1 c B m d)).heap.size (w.alloc (zC K (some ⟨b, o, none⟩) 1 c B m d)) W -> W.cell? ⟨g, 0, none⟩ = some (.string (tb tx)) -> Cz 156 #[.slice (some ⟨bl, ol, none⟩) N cN, .func (.func 157) #[] #[.pointer (pt g)]] W (aU W V)) fun W g hb hg => P7 L _ N cN g tx W hN rP hcN (hL.below (ah jH hb)) tO Ey hg V (by rw [hV]; unfold sK; rw [<- hN, <- hV1, yf, wy]; rfl)
  have hr1 : (w.alloc (zC K (some ⟨b, o, none⟩) 1 c B m d)).rangeAt w.heap.size 0 (zV K (some ⟨b, o, none⟩) 1 c B m d) := fun j v hv => by rw [Nat.zero_add]; exact kH (Below.refl _ _) j v hv
  have HI := Lh (bR.out _ (Below.refl _ _));have kZ := Lh jH;have Es : x < N := by omega
  clear h kN hp hN hL tO hK hV1 hV bR hq yS yf hcs h3 lQ wy h4 Ey gN jH hx0 uT;go_enter Tryz.func135, Tryz.ntmps135
  go_upto_region 3 with (first
   |(refine aG rfl (.tmp 3) rfl w.heap.size (0) rfl K (some ⟨b, o, none⟩) B 1 c m d hr1 ?_)
   |((with_reducible refine HI.out.mono ?_); rintro e w3 hp; obtain ⟨rfl, hb⟩ := aV hp; have H3 := Lh hb; clear hp hb))
  refine wp_region_held_drew (S := fun w' => w'.cell? ⟨pb, 0, none⟩ = some (.slice (some ⟨bl, ol, none⟩) N cN) /\ w'.cell? ⟨w.heap.size, 1, none⟩ = some (.slice (some ⟨b, o, none⟩) 1 c) /\ w'.cell? ⟨b, o, none⟩ = some (.int .i64 (x : Int)) /\ w'.cell? ⟨bl, ol + x * 5, none⟩ = some (.string (tb tx))) (by kernel_rfl) (iT.out _ (ah H3.out (below_drewN (Below.refl _ _) 1))) (fun cO => ?_);refine ik 0 ?_;refine ik 1 ?_;refine ik 2 ?_;refine ik 3 ?_;refine ik 4 ?_;refine ik 5 ?_;refine ik 6 ?_;refine ik 7 ?_;refine ik 8 ?_;refine ik 9 ?_;refine ik 10 ?_;refine wpAnyH_ready (rs := [11]) (by kernel_rfl) (by simp) ?_;refine wA rfl (fun K0 hK => ?_) AllReadyH.nil
  go_simp;have HX := LH (Bw w (w3.drew.alloc (.cells #[.string ⟨#[]⟩] 9)) /\ ae (w3.drew.alloc (.cells #[.string ⟨#[]⟩] 9)) w3.heap.size [.string ⟨#[]⟩] 9 /\ Below (w.alloc (zC K (some ⟨b, o, none⟩) 1 c B m d)).heap.size (w.alloc (zC K (some ⟨b, o, none⟩) 1 c B m d)) (w3.drew.alloc (.cells #[.string ⟨#[]⟩] 9))) ⟨kZ.out.trans ((aF (ah H3.out (below_drewN (Below.refl _ _) 1)) _).mono kZ.out.size), ae.at w3.drew _ _ 9 _ rfl rfl, aF (ah H3.out (below_drewN (Below.refl _ _) 1)) _⟩;refine hK.out _ _ (iT.out _ HX.out.2.2) (fun hS1 => ?_);clear hK K0 cO;(try simp only [Act.put, pP]);refine wpAnyH_ready (rs := [12]) (by kernel_rfl) (by simp) ?_;refine AllReadyH.cons (o := ⟨none, .store 9 (.tmp 5) (.tmp 20), 0, _, _, none⟩) rfl (fun K0 hK => ?_) AllReadyH.nil
  refine LQ rfl 9 (.tmp 5) (.tmp 20) rfl w3.heap.size 0 rfl (.string (tb tx)) rfl rfl rfl HX.out.2.1 (by simp) Xc ?_;intro x9 ag;have aR := LH (Below (w.alloc (zC K (some ⟨b, o, none⟩) 1 c B m d)).heap.size (w.alloc (zC K (some ⟨b, o, none⟩) 1 c B m d)) x9 /\ x9.cell? ⟨w3.heap.size, 0, none⟩ = some (.string (tb tx))) ⟨ag.below HX.out.2.2 H3.out.size, ag.1.cell (j := 0) rfl⟩;clear ag;refine hK.out _ _ (iT.out _ aR.out.1) (fun dh => ?_);clear hK K0 hS1;(try simp only [Act.put, pP]);refine wpAnyH_done (by kernel_rfl) ?_ _
  go_wp2_with ((with_reducible refine (lD.out x9 w3.heap.size aR.out.1 aR.out.2).mono ?_); rintro e wz hp; obtain ⟨rfl, hb⟩ := aV hp; have HZ := LH (Bw w wz) (ah (ah kZ.out aR.out.1) hb); clear hp hb)
  go_ret;exact ⟨rfl, HZ.out⟩
namespace Rgx
def gp (L : List Lt) (x : Int) : Alp.B := (xH L x).getD []
def dM (L : List Lt) (x : Int) : Bool := (xH L x).isNone
def dY (L : List Lt) : Bool -> List Int -> Alp.B
 |_, [] => []
 |f, x :: t => (if f then [] else [124]) ++ gp L x ++ dY L false t
def Gy (L : List Lt) (s : List Int) : Bool := decide (s.length = L.length /\ s.getD (s.length - 1) 0 = (s.length : Int) - 1)
def sQ (L : List Lt) (s : List Int) : Alp.B := if s.length = 1 then gp L (s.getD 0 0) else if Gy L s then [46] else [40] ++ dY L true s ++ [41]
def Cj (L : List Lt) (s : List Int) : Bool := if s.length = 1 then dM L (s.getD 0 0) else if Gy L s then false else s.any (dM L)
def sI (L : List Lt) (r : Rx) : Bool := decide (r.kind = 5) && qj (av r.kids 0) L.length
def oO (L : List Lt) (ap : Bool) (r : Rx) (t : Alp.B) : Alp.B := if ap && sI L r then [40] ++ sQ L (av r.kids 0).syms ++ [41] ++ [42] else if decide (r.kind = 4) || (ap && qj r L.length) then [40] ++ t ++ [41] else t
mutual
def aQ (L : List Lt) : Rx -> Alp.B
 |.mk k s ks => if k = 0 then [123, 125] else if k = 2 then sQ L s else if k = 3 then jv L false ks else if k = 4 then iV L true ks else if k = 5 then wu L ks else []
def jv (L : List Lt) : Bool -> List Rx -> Alp.B
 |_, [] => []
 |b, r :: rs => oO L b r (aQ L r) ++ jv L (sK L r) rs
def iV (L : List Lt) : Bool -> List Rx -> Alp.B
 |_, [] => []
 |f, r :: rs => (if f then [] else [124]) ++ aQ L r ++ iV L false rs
def wu (L : List Lt) : List Rx -> Alp.B
 |[] => []
 |r :: _ => (if r.kind = 4 \/ r.kind = 3 then [40] ++ aQ L r ++ [41] else aQ L r) ++ [42]
end
mutual
def bn (L : List Lt) : Rx -> Bool
 |.mk k s ks => if k = 2 then Cj L s else if k = 3 \/ k = 4 \/ k = 5 then ig L ks else false
def ig (L : List Lt) : List Rx -> Bool
 |[] => false
 |r :: rs => bn L r || ig L rs
end
theorem uf (L : List Lt) (r : Rx) : aQ L r = if r.kind = 0 then [123, 125] else if r.kind = 2 then sQ L r.syms else if r.kind = 3 then jv L false r.kids else if r.kind = 4 then iV L true r.kids else if r.kind = 5 then wu L r.kids else [] := by
 cases r with
 |mk k s ks => rw [aQ]; rfl
theorem xz (L : List Lt) (r : Rx) : bn L r = if r.kind = 2 then Cj L r.syms else if r.kind = 3 \/ r.kind = 4 \/ r.kind = 5 then ig L r.kids else false := by
 cases r with
 |mk k s ks => rw [bn]; rfl
theorem I6 {ks : List Rx} {i : Nat} (h : i < ks.length) : ks.drop i = av ks i :: ks.drop (i + 1) := by
 rw [List.drop_eq_getElem_cons h];unfold av;simp [List.getD, h]
structure jr (w : World) (pb : Nat) (A : Option Addr) (n c : Nat) (L : List Lt) : Prop where
 nl : n = L.length
 cl : n <= c
 ml : c <= 9223372036854775807
 few : n <= 60
 rd : Rd w A (lv L)
 pl : ∀ b o, A = some ⟨b, o, none⟩ -> b < pb
 lt : ∀ l ∈ L, l.text.length <= 1000000
theorem jr.below {w w1 : World} {pb : Nat} {A : Option Addr} {n c : Nat} {L : List Lt} (h : jr w pb A n c L) (hb : Bw w w1) : jr w1 pb A n c L := ⟨h.nl, h.cl, h.ml, h.few, h.rd.below hb, h.pl, h.lt⟩
theorem jr.kp {w w1 : World} {pb : Nat} {v : Value} {A : Option Addr} {n c : Nat} {L : List Lt} (h : jr w pb A n c L) (hk : Kp pb v w w1) (hl : pb < w.heap.size /\ ∀ g, v.ownBlock = some g -> pb < g /\ g < w.heap.size) : jr w1 pb A n c L := ⟨h.nl, h.cl, h.ml, h.few, by
 rcases h.rd with e | ⟨b, o, e, hc⟩
 ·exact .inl e
 ·have hb := h.pl b o e;refine .inr ⟨b, o, e, fun k v' hv => (hk.cell (by omega) (by omega) (fun e2 => by have := (hl.2 b e2.symm).1; omega)).trans (hc k v' hv)⟩, h.pl, h.lt⟩
end Rgx
theorem BP {pb : Nat} {v : Value} {A : Option Addr} {n c : Nat} {fl : Bool} {t : Alp.B} (w : World) (h : gH pb v A n c fl t w) (L : List Lt) (hL : jr w pb A n c L) (x : Int) (hx : 0 <= x) (ht : t.length <= 1000000000) : Calls Tryz.prog 134 #[.pointer (pt pb), .int .i64 x] w (aW pb v A n c (fl || dM L x) (t ++ gp L x) w) := by
 have hn := hL.nl
 by_cases h1 : x < (n : Int)
 ·obtain ⟨y, rfl⟩ : ∃ y : Nat, x = (y : Int) := ⟨x.toNat, by omega⟩;have hy : y < L.length := by omega
  have e : xH L (y : Int) = some (L.getD y z).text := by unfold xH; rw [if_pos (by omega)]; simp
  obtain ⟨b, o, rfl, lQ⟩ := z8 hL.rd (List.ne_nil_of_length_pos (by omega));have hb := hL.pl b o rfl;have bY : L.getD y z ∈ L := by rw [List.getD_eq_getElem?_getD, List.getElem?_eq_getElem hy]; exact List.getElem_mem hy
  have h2 := Wy w h y L hn hL.cl hL.ml (by omega) lQ hb (fun g hg e2 => by have := (h.lt.2 g hg).1; omega) ht (hL.lt _ bY);unfold gp dM;rw [e]
  simpa using h2
 ·have e0 : xH L x = if x = 62 then some [35] else if x = 63 then some [45] else none := by unfold xH; rw [if_neg (by omega)]
  unfold gp dM;rw [e0]
  by_cases h2 : x = 62
  ·subst h2
   simpa using TP w h hL.few ht
  ·rw [if_neg h2]
   by_cases h3 : x = 63
   ·subst h3
    simpa using VD w h hL.few ht
   ·rw [if_neg h3]
    simpa using UA w h hL.few x h1 h2 h3
namespace Rgx
structure gT (p : Nat -> Prop) (w : World) (l : List Nat) (A : Option Addr) (n c : Nat) : Prop where
 len : n = l.length
 cap : n <= c
 max : c <= 9223372036854775807
 rd : Rd w A (iv (nl l))
 blk : l ≠ [] -> ∀ b o, A = some ⟨b, o, none⟩ -> p b
section
variable {p q : Nat -> Prop} {w W : World} {l : List Nat} {A : Option Addr} {n c : Nat}
theorem gy.toL (h : gy p w l A n c) : gT p w l A n c := ⟨h.len, h.cap, h.max, h.rd, h.blk⟩
theorem gT.mono (h : gT p w l A n c) (jF : ∀ b, p b -> q b) : gT q w l A n c := ⟨h.len, h.cap, h.max, h.rd, fun hn b o e => jF b (h.blk hn b o e)⟩
theorem gT.keep (h : gT p w l A n c) (hk : ∀ b o, p b -> W.cell? ⟨b, o, none⟩ = w.cell? ⟨b, o, none⟩) : gT p W l A n c := by
 refine ⟨h.len, h.cap, h.max, ?_, h.blk⟩
 by_cases hl : l = []
 ·subst hl; exact .inl rfl
 ·obtain ⟨b, o, e, hc⟩ := h.rd.open (uo hl);exact .inr ⟨b, o, e, fun k v hv => (hk b _ (h.blk hl b o e)).trans (hc k v hv)⟩
theorem gT.lt (h : gT p w l A n c) : gT (fun b => p b /\ b < w.heap.size) w l A n c := ⟨h.len, h.cap, h.max, h.rd, fun hn b o e => ⟨h.blk hn b o e, by
 obtain ⟨b', o', e', hc⟩ := h.rd.open (uo hn);obtain ⟨rfl, rfl⟩ : b = b' /\ o = o' := by rw [e] at e'; simpa using e'
 cases l with
 |nil => exact absurd rfl hn
 |cons x t => exact World.block_lt_of_cell? w _ (hc 0 _ rfl)⟩⟩
theorem gT.own {base N : Nat} {E : TypeId} (h : w.ownsRow base E 1 (.slice A n c) N (iv (nl l))) : gT (fun b => base <= b) w l A n c := by
 obtain ⟨B, d, e, h1, h2, h3⟩ := Rd.of_own h;simp only [Value.slice.injEq] at e;obtain ⟨rfl, rfl, rfl⟩ := e;have hl : n = l.length := by
  obtain ⟨h4, h5⟩ := h
  simpa [iv, nl] using h4.symm
 exact ⟨hl, h2, by unfold maxLen at h3; exact h3, h1, fun _ b o e => by subst e; exact (h.lt b rfl).1⟩
end
theorem FZ : ∀ (N : Nat) (L : List Nat), L.Nodup -> (∀ n ∈ L, n < N) -> L.length <= N
 |0, L, _, h => by
  cases L with
  |nil => simp
  |cons x t => exact absurd (h x (by simp)) (by omega)
 |N + 1, L, hn, h => by
  by_cases hm : N ∈ L
  ·have h1 := FZ N (L.erase N) (hn.erase N) fun n hx => by
    have h2 := (List.Nodup.mem_erase_iff hn).1 hx;have := h n h2.2;omega
   rw [List.length_erase_of_mem hm] at h1;omega
  ·have h1 := FZ N L hn fun n hx => by
    have := h n hx;have : n ≠ N := fun e => hm (e ▸ hx)
    omega
   omega
def jc (L S : List Nat) : List Nat := S.foldl (fun L n => if n ∈ L then L else L ++ [n]) L
theorem Jb (L S : List Nat) (n : Nat) : jc L (S ++ [n]) = if n ∈ jc L S then jc L S else jc L S ++ [n] := by unfold jc; rw [List.foldl_append]; rfl
theorem zy {L S : List Nat} {n : Nat} : n ∈ jc L S ↔ n ∈ L \/ n ∈ S := by
 unfold jc
 induction S generalizing L with
 |nil => simp
 |cons x t ih =>
  rw [List.foldl_cons, ih]
  by_cases h : x ∈ L
  ·rw [if_pos h];constructor
   ·rintro (h1 | h1)
    ·exact .inl h1
    ·exact .inr (by simp [h1])
   ·rintro (h1 | h1)
    ·exact .inl h1
    ·rcases List.mem_cons.1 h1 with rfl | h1
     ·exact .inl h
     ·exact .inr h1
  ·rw [if_neg h];rw [List.mem_append, List.mem_singleton, List.mem_cons];constructor
   ·rintro ((h1 | h1) | h1)
    ·exact .inl h1
    ·exact .inr (.inl h1)
    ·exact .inr (.inr h1)
   ·rintro (h1 | h1 | h1)
    ·exact .inl (.inl h1)
    ·exact .inl (.inr h1)
    ·exact .inr h1
theorem Js (L S : List Nat) : L <+: jc L S := by
 unfold jc
 induction S generalizing L with
 |nil => exact List.prefix_refl _
 |cons x t ih =>
  rw [List.foldl_cons]
  by_cases h : x ∈ L
  ·rw [if_pos h]; exact ih L
  ·rw [if_neg h]; exact (List.prefix_append L [x]).trans (ih _)
structure zx (N : Nat) (step : Int) (L : List Nat) (Rk : List Int) : Prop where
 len : Rk.length = N
 nd : L.Nodup
 lt : ∀ n ∈ L, n < N
 sm : ∀ n, n < N -> (Rk.getD n 0 = step ↔ n ∈ L)
 le : ∀ n, n < N -> Rk.getD n 0 <= step
theorem zx.few {N : Nat} {step : Int} {L : List Nat} {Rk : List Int} (h : zx N step L Rk) : L.length <= N := FZ N L h.nd h.lt
theorem zx.add {N : Nat} {step : Int} {L : List Nat} {Rk : List Int} (h : zx N step L Rk) {n : Nat} (hn : n < N) (hm : n ∉ L) : zx N step (L ++ [n]) (Rk.set n step) := by
 have hl := h.len;have hs : ∀ k, k < N -> (Rk.set n step).getD k 0 = if n = k then step else Rk.getD k 0 := fun k hk => by
  simp only [List.getD_eq_getElem?_getD, List.getElem?_set]
  by_cases e : n = k
  ·subst e; rw [if_pos rfl, if_pos rfl, if_pos (by omega)]; rfl
  ·rw [if_neg e, if_neg e]
 refine ⟨by rw [List.length_set]; exact hl, ?_, fun k hk => ?_, fun k hk => ?_, fun k hk => ?_⟩
 ·rw [List.nodup_append];exact ⟨h.nd, by simp, fun a ha b hb e => hm (by rw [show b = n by simpa using hb] at e; exact e ▸ ha)⟩
 ·rcases List.mem_append.1 hk with hk | hk
  ·exact h.lt k hk
  ·rw [show k = n by simpa using hk]; exact hn
 ·rw [hs k hk]
  by_cases e : n = k
  ·subst e; simp
  ·rw [if_neg e, h.sm k hk];simp only [List.mem_append, List.mem_singleton];exact ⟨.inl, fun h => h.elim id fun h => absurd h.symm e⟩
 ·rw [hs k hk]
  split
  ·exact Int.le_refl _
  ·exact h.le k hk
structure Kg (gr bl : Nat) (w w' : World) : Prop where
 os : w'.os = w.os
 tape : w'.tape = w.tape
 output : w'.output = w.output
 size : w.heap.size <= w'.heap.size
 block : ∀ k, k < bl -> k ≠ gr -> w'.heap[k]? = w.heap[k]?
theorem Kg.refl (gr bl : Nat) (w : World) : Kg gr bl w w := ⟨rfl, rfl, rfl, Nat.le_refl _, fun _ _ _ => rfl⟩
theorem Kg.tr {gr bl : Nat} {a b c : World} (h1 : Kg gr bl a b) (h2 : Kg gr bl b c) : Kg gr bl a c := ⟨h2.os.trans h1.os, h2.tape.trans h1.tape, h2.output.trans h1.output, Nat.le_trans h1.size h2.size, fun k a b => (h2.block k a b).trans (h1.block k a b)⟩
theorem Kg.of_below {gr bl : Nat} {w w' : World} (h : Bw w w') (hb : bl <= w.heap.size) : Kg gr bl w w' := ⟨h.os, h.tape, h.output, h.size, fun k hk _ => h.block k (Nat.lt_of_lt_of_le hk hb)⟩
theorem Kg.of_grown {gr bl : Nat} {w w' : World} {row : Option Nat} (h : w.grownBy w' row) (hb : bl <= w.heap.size) (hr : ∀ g, row = some g -> g = gr \/ bl <= g) : Kg gr bl w w' := ⟨h.os, h.tape, h.output, h.size, fun k hk hn => h.block k (Nat.lt_of_lt_of_le hk hb) (fun e => by rcases hr k e.symm with h | h; exact hn h; omega)⟩
structure nW (gr bl N : Nat) (step : Int) (L : List Nat) (Rk : List Int) (w : World) : Prop where
 mks : zx N step L Rk
 row : ∃ v, ae w bl [v] 22 /\ w.ownsRow (bl + 1) 3 1 v L.length (iv (nl L))
 mark : ae w gr (iv Rk) 3
theorem nW.below {gr bl N : Nat} {step : Int} {L : List Nat} {Rk : List Int} {w w' : World} (h : nW gr bl N step L Rk w) (hb : Bw w w') : nW gr bl N step L Rk w' := by
 obtain ⟨v, h1, h2⟩ := h.row;exact ⟨h.mks, ⟨v, h1.below hb h1.lt, gu h2 hb⟩, h.mark.below hb h.mark.lt⟩
theorem R7 (l : List Int) (n : Nat) (x : Int) : (iv l).set n (.int .i64 x) = iv (l.set n x) := by unfold iv; rw [List.map_set]
theorem Nu {l : List Int} {n : Nat} (h : n < l.length) : (iv l)[n]? = some (.int .i64 (l.getD n 0)) := by unfold iv; simp [List.getD, h]
theorem Jz {l : List Nat} {n : Nat} (h : n < l.length) : (iv (nl l))[n]? = some (.int .i64 ((l[n] : Nat) : Int)) := by simp [iv, nl, h]
end Rgx
def Fv (gr bl N : Nat) (step : Int) (L S : List Nat) (w : World) (e : Ending) (w' : World) : Prop := e = .returned (.tuple #[]) /\ ∃ Rk, nW gr bl N step (jc L S) Rk w' /\ Kg gr bl w w'
theorem KR {gr bl N : Nat} {step : Int} {L S : List Nat} {w w' : World} {e : Ending} (h : Fv gr bl N step L S w e w') : e = .returned (.tuple #[]) /\ ∃ Rk, nW gr bl N step (jc L S) Rk w' /\ Kg gr bl w w' := h
theorem VF (args : Array Value) (W : World) : (callFunc 93 args).run Tryz.prog W = .ok (.enter 93 args) W := by kernel_rfl
theorem WG (gr bl br bs N : Nat) (step : Int) (hN : N <= 1000000000) (L S : List Nat) (Rk : List Int) (A : Option Addr) (n c : Nat) (w : World) (hW : nW gr bl N step L Rk w) (hb1 : br < bl /\ br ≠ gr) (hb2 : bs < bl /\ bs ≠ gr) (hgb : gr < bl) (hS : gT (fun b => b < bl /\ b ≠ gr) w S A n c) (hlt : ∀ n ∈ S, n < N) (hc1 : w.cell? ⟨br, 0, none⟩ = some (.slice (pt gr) N N)) (hc2 : w.cell? ⟨bs, 0, none⟩ = some (.int .i64 step)) : Calls Tryz.prog 93 #[.slice A n c, .pointer (pt br), .pointer (pt bs), .pointer (pt bl)] w (Fv gr bl N step L S w) := by
 obtain ⟨j0, sG, nP, iG, gY⟩ := info_parts BK;have HW := Lh hW;have HB := LH ((br < bl /\ br ≠ gr) /\ (bs < bl /\ bs ≠ gr) /\ gr < bl) ⟨hb1, hb2, hgb⟩;have HS := LH (gT (fun b => b < bl /\ b ≠ gr) w S A n c /\ ∀ n ∈ S, n < N) ⟨hS, hlt⟩;have aaa := LH (bl < w.heap.size) (by obtain ⟨v, h1, _⟩ := hW.row; exact h1.lt);have HC := LH (∀ W, Kg gr bl w W -> W.cell? ⟨br, 0, none⟩ = some (.slice (pt gr) N N) /\ W.cell? ⟨bs, 0, none⟩ = some (.int .i64 step) /\ Rd W A (iv (nl S))) fun W hk => ⟨(World.cell?_of_block (hk.block br hb1.1 hb1.2)).trans hc1, (World.cell?_of_block (hk.block bs hb2.1 hb2.2)).trans hc2, (hS.keep (W := W) fun b o hp => World.cell?_of_block (hk.block b hp.1 hp.2)).rd⟩
 have yO := hS.cap;have hc0 := hS.max;clear hW hb1 hb2 hgb hS hlt hc1 hc2;go_enter Tryz.func93, Tryz.ntmps93;go_wp2_with fail
 go_loopg [9] n (fun g s9 wr => ∃ i : Nat, i + g = n /\ s9 = .int .i64 (i : Int) /\ Hid (∃ Rk, nW gr bl N step (jc L (S.take i)) Rk wr /\ Kg gr bl w wr))
 case atStart => exact ⟨0, by omega, rfl, Lh ⟨Rk, by rw [List.take_zero]; exact HW.out, Kg.refl _ _ _⟩⟩
 case round =>
  obtain ⟨i, hi, rfl, HI⟩ := hrel
  by_cases hlt : i < n
  ·obtain ⟨gg, rfl⟩ : ∃ g, gk = g + 1 := ⟨gk - 1, by omega⟩;obtain ⟨Rq, uD, uV⟩ := HI.out;have gD := LH (nW gr bl N step (jc L (S.take i)) Rq wr /\ Kg gr bl w wr) ⟨uD, uV⟩;have aH : i < S.length := by rw [<- HS.out.1.len]; exact hlt
   have qC := (HC.out wr uV).2.2;obtain ⟨b, o, rfl, hcs⟩ := qC.open (uo (List.ne_nil_of_length_pos (by omega)));obtain ⟨x, hx⟩ := eX (S[i]);have bS : wr.cell? ⟨b, o + i, none⟩ = some (.int .i64 (x : Int)) := by rw [hx]; exact hcs i _ (Jz aH)
   have uT : x < N := by rw [hx]; exact HS.out.2 _ (List.getElem_mem aH)
   have iL := LH (S.take (i + 1) = S.take i ++ [x]) (by rw [List.take_succ_eq_append_getElem aH, hx]);obtain ⟨y, hy⟩ := eX (Rq.getD x 0);have HY := LH (y = Rq.getD x 0) hy;have hcm := uD.mark.cell (Nu (by rw [uD.mks.len]; exact uT));rw [<- hy] at hcm;have Av := (HC.out wr uV).1;have J8 := (HC.out wr uV).2.1;have bX := LH (Bw wr wr) (Below.refl _ _);have l1 : ∀ p : Wo (Below wr.heap.size wr), p.wo.cell? ⟨br, 0, none⟩ = some (.slice (pt gr) N N) := fun p => (p.ok.cell (p := ⟨br, 0, none⟩) (World.block_lt_of_cell? wr _ Av)).trans Av
   have l2 : ∀ p : Wo (Below wr.heap.size wr), p.wo.cell? ⟨bs, 0, none⟩ = some (.int .i64 step) := fun p => (p.ok.cell (p := ⟨bs, 0, none⟩) (World.block_lt_of_cell? wr _ J8)).trans J8
   have l3 : ∀ p : Wo (Below wr.heap.size wr), p.wo.cell? ⟨gr, x, none⟩ = some (.int .i64 y) := fun p => (p.ok.cell (p := ⟨gr, x, none⟩) (World.block_lt_of_cell? wr _ hcm)).trans hcm
   clear uD uV qC hcs hx aH hy hcm Av J8
   by_cases gG : y = step
   ·have e1 : (y != step) = false := by rw [gG]; simp
    have vz := LH (x ∈ jc L (S.take i)) ((gD.out.1.mks.sm x uT).1 (by rw [<- HY.out]; exact gG));clear gG;go_wp2_with fail;haveI : Nonempty (Wo (Below wr.heap.size wr)) := ⟨⟨wr, bX.out⟩⟩;refine jB (Below wr.heap.size wr) jC (by kernel_rfl) (below_drewN bX.out 1) ?_
    repeat (go_big_quiet_step ((fail)))
    refine wpQuiet_nil ?_;intro x1 hw2;obtain ⟨⟨iy, ax⟩, hw3⟩ := hw2;have hw4 : x1 = iy := hw3;subst hw4;have fE := Lh ax;clear hw3 ax;go_wp2_with fail
    go_roundg gg
    case rel => exact ⟨i + 1, by omega, by go_num, Lh ⟨Rq, by rw [iL.out, Jb, if_pos vz.out]; exact gD.out.1.below fE.out, gD.out.2.tr (Kg.of_below fE.out (by have h1 := gD.out.2.size; have h2 := aaa.out; omega))⟩⟩
    case measure => omega
   ·have e1 : (y != step) = true := by simpa using gG
    have vz := LH (x ∉ jc L (S.take i)) fun h => gG (by rw [HY.out]; exact (gD.out.1.mks.sm x uT).2 h)
    clear gG;go_wp2_with fail;haveI : Nonempty (Wo (Below wr.heap.size wr)) := ⟨⟨wr, bX.out⟩⟩;refine jB (Below wr.heap.size wr) jC (by kernel_rfl) (below_drewN bX.out 1) ?_
    repeat (go_big_quiet_step ((fail)))
    refine wpQuiet_nil ?_;intro x1 hw2;obtain ⟨⟨iy, ax⟩, hw3⟩ := hw2;have hw4 : x1 = iy := hw3;subst hw4;have fE := Lh ax;clear hw3 ax;obtain ⟨v1, Am, hv2⟩ := (gD.out.1.below fE.out).row;obtain ⟨B5, d5, hv, _⟩ := Rd.of_own hv2;obtain ⟨N5, bD⟩ := eX ((jc L (S.take i)).length);rw [<- bD] at hv hv2;subst hv;have bB := LH (N5 = (jc L (S.take i)).length /\ N5 <= 1000000000) ⟨bD, by have := gD.out.1.mks.few; omega⟩;have HMK := LH (ae x1 gr (iv Rq) 3) (gD.out.1.below fE.out).mark;have hc1 := l1 ⟨x1, fE.out⟩;have hc2 := l2 ⟨x1, fE.out⟩;have hc3 := l3 ⟨x1, fE.out⟩
    dsimp only at hc1 hc2 hc3
    have hf3 : x1.frozen? ⟨gr, x, none⟩ = false := HMK.out.frozen x;have HST := LH (∀ W, W = x1.setCell ⟨gr, x, none⟩ (.int .i64 step) -> ae W gr (iv (Rq.set x step)) 3 /\ x1.grownBy W (some gr) /\ ae W bl [.slice B5 N5 d5] 22 /\ W.ownsRow (bl + 1) 3 1 (.slice B5 N5 d5) N5 (iv (nl (jc L (S.take i)))) /\ W.heap.size = x1.heap.size) fun W hW => by
     have h1 := aT.of_setCell HMK.out x (.int .i64 step);rw [<- hW, R7] at h1;have hg := dG h1;have hbl := HB.out.2.2;exact ⟨h1.1, hg, h1.other Am (by omega), hv2.kept hg (by
      cases B5 with
      | none => left; rfl
      | some a => right; intro e; have h2 := hv2.lt gr e; omega), h1.2.2.1⟩
    clear Am hv2 bD
    go_upto_region 5 with fail
    obtain ⟨x2, hx2⟩ := eX (x1.setCell ⟨gr, x, none⟩ (.int .i64 step));rw [<- hx2];have H2 := Lh (HST.out x2 hx2);have HO := Lh H2.out.2.2.2.1;have rz := H2.out.2.2.1.cell (j := 0) rfl;have hs1 : N5 + 1 <= maxLen := by have := bB.out.2; unfold maxLen; omega
    have hs2 : (N5 + 1) * 8 <= 140737488355328 := by have := bB.out.2; omega
    have dw := LH (bl < x2.heap.size) H2.out.2.2.1.lt;have iM := LH (∀ v' w', w'.ownsRow (bl + 1) 3 1 v' (N5 + 1) (iv (nl (jc L (S.take i))) ++ [.int .i64 (x : Int)]) -> (x2.alloc (.cells #[.int .i64 (x : Int)] 3)).grownBy w' (Value.slice B5 N5 d5).ownBlock -> ae w' bl [.slice B5 N5 d5] 22 /\ ∀ w9, aT w' w9 bl [v'] 22 -> ∃ Rk, nW gr bl N step (jc L (S.take (i + 1))) Rk w9 /\ Kg gr bl w w9) fun v' w' hown hg => by
     have hne : ∀ g, (Value.slice B5 N5 d5).ownBlock = some g -> bl + 1 <= g := fun g hg => (HO.out.lt g hg).1
     have iB : ae w' bl [.slice B5 N5 d5] 22 := (hg.block bl (by simp; have := dw.out; omega) (fun e => by have := hne bl e.symm; omega)).trans (H2.out.2.2.1.alloc _);refine ⟨iB, fun w9 hst => ⟨Rq.set x step, ⟨?_, ⟨v', hst.1, ?_⟩, ?_⟩, ?_⟩⟩
     ·rw [iL.out, Jb, if_neg vz.out];exact gD.out.1.mks.add uT vz.out
     ·rw [iL.out, Jb, if_neg vz.out];have h1 : w'.ownsRow (bl + 1) 3 1 v' ((jc L (S.take i) ++ [x]).length) (iv (nl (jc L (S.take i) ++ [x]))) := by
        rw [List.length_append, <- bB.out.1]
        simpa [iv, nl] using hown
      exact h1.kept (row := some bl) (dG hst) (by
        cases hvb : v'.ownBlock with
        |none => left; rfl
        |some g => right; intro e; have := (h1.lt g hvb).1; have := Option.some.inj e; omega)
     ·have hbl := HB.out.2.2;exact hst.other ((hg.block gr (by simp; have := dw.out; omega) (fun e => by have := hne gr e.symm; omega)).trans (H2.out.1.alloc _)) (by omega)
     ·have hbl := HB.out.2.2;have k1 : Kg gr bl wr x1 := Kg.of_below fE.out (by have h1 := gD.out.2.size; have h2 := aaa.out; omega);have k2 : Kg gr bl x1 x2 := Kg.of_grown H2.out.2.1 (by have h1 := dw.out; rw [H2.out.2.2.2.2] at h1; omega) (fun g e => .inl (Option.some.inj e).symm);have k3 : Kg gr bl x2 w' := ⟨hg.os, hg.tape, hg.output, by have := hg.size; simp at this; omega, fun k hk _ => (hg.block k (by simp; have := dw.out; omega) (fun e => by have := hne k e.symm; omega)).trans (heap_alloc_old x2 _ (by have := dw.out; omega))⟩;have k4 : Kg gr bl w' w9 := Kg.of_grown (dG hst) (by have h1 := iB.lt; omega) (fun g e => .inr (by have := Option.some.inj e; omega));exact gD.out.2.tr (k1.tr (k2.tr (k3.tr k4)))
    clear hx2
    go_wp2_with (first
     |(at_builtin; refine gW rfl (.tmp 23) (.tmp 25) 22 22 rfl (bl + 1) 3 j0 _ 1 8 Tryz.underlying22 sG nP iG gY rfl _ _ _ rfl (gu HO.out (ai _ _)) _ 1 [.int .i64 (x : Int)] rfl (FD Tryz.underlying22 iG x2 (.int .i64 (x : Int)) 3 rfl) hs1 hs2 (by have := dw.out; simp; omega) ?_; intro v9 w9 dJ dN fe; obtain ⟨A6, c6, fD, _⟩ := Rd.of_own dJ; subst fD; have aR := Lh (iM.out _ _ dJ dN); clear dJ dN fe)
     |(refine xA rfl 22 (.tmp 3) (.tmp 26) rfl bl 0 rfl A6 (N5 + 1) c6 rfl aR.out.1 (by simp) Fs ?_; intro w8 oz; have bM := Lh (aR.out.2 w8 oz); clear oz))
    go_roundg gg
    case rel => exact ⟨i + 1, by omega, by go_num, bM⟩
    case measure => omega
  ·obtain rfl : n = i := by omega
   have HF := LH (Fv gr bl N step L S w (.returned (.tuple #[])) wr) (by
    have h1 := HI.out;rw [HS.out.1.len, List.take_length] at h1;exact ⟨rfl, h1⟩)
   go_wp2_with fail;go_end0;exact HF.out
namespace Rgx
theorem TF {M : List St} {S L : List Nat} (h1 : ∀ a ∈ S, a ∈ L) (h2 : ∀ n ∈ L, ∃ a ∈ S, o6 M a n) (h3 : ∀ t ∈ L, ∀ nx, M[t]? = some (0, nx) -> ∀ n ∈ nx, n ∈ L) : zw M S L := fun n => by
 constructor
 ·exact h2 n
 ·rintro ⟨a, ha, he⟩
  induction he with
  |refl => exact h1 a ha
  |step e1 e2 e3 ih => exact h3 _ ih _ e2 _ e3
structure p9 (M : List St) (S L : List Nat) (i : Nat) : Prop where
 has : ∀ a ∈ S, a ∈ L
 snd : ∀ n ∈ L, ∃ a ∈ S, o6 M a n
 cls : ∀ j (h : j < L.length), j < i -> ∀ nx, M[L[j]]? = some (0, nx) -> ∀ n ∈ nx, n ∈ L
theorem p9.end {M : List St} {S L : List Nat} (h : p9 M S L L.length) : zw M S L := TF h.has h.snd fun t ht nx e n hn => by
 obtain ⟨j, hj, rfl⟩ := List.getElem_of_mem ht;exact h.cls j hj hj nx e n hn
theorem MH {L L2 : List Nat} (h : L <+: L2) {j : Nat} (hj : j < L.length) : ∃ h2 : j < L2.length, L2[j] = L[j] := by
 obtain ⟨t, rfl⟩ := h;exact ⟨by rw [List.length_append]; omega, List.getElem_append_left hj⟩
theorem p9.eps {M : List St} {S L nx : List Nat} {i : Nat} (h : p9 M S L i) (hi : i < L.length) (he : M[L[i]]? = some (0, nx)) : p9 M S (jc L nx) (i + 1) := ⟨fun a ha => zy.2 (.inl (h.has a ha)), fun n hn => by
 rcases zy.1 hn with hn | hn
 ·exact h.snd n hn
 ·obtain ⟨a, ha, h1⟩ := h.snd L[i] (List.getElem_mem hi);exact ⟨a, ha, .step h1 he hn⟩, fun j hj yE nx' e n hn => by
 by_cases yc : j = i
 ·subst yc;obtain ⟨h2, h3⟩ := MH (Js L nx) hi;rw [h3, he] at e;simp only [Option.some.injEq, Prod.mk.injEq, true_and] at e;exact zy.2 (.inr (by rw [e]; exact hn))
 ·have hjl : j < L.length := by omega
  obtain ⟨h2, h3⟩ := MH (Js L nx) hjl;rw [h3] at e;exact zy.2 (.inl (h.cls j hjl (by omega) nx' e n hn))⟩
theorem p9.skip {M : List St} {S L nx : List Nat} {i b : Nat} (h : p9 M S L i) (hi : i < L.length) (he : M[L[i]]? = some (b, nx)) (hb : b ≠ 0) : p9 M S L (i + 1) := ⟨h.has, h.snd, fun j hj yE nx' e n hn => by
 by_cases yc : j = i
 ·subst yc;rw [he] at e;simp only [Option.some.injEq, Prod.mk.injEq] at e;exact absurd e.1 hb
 ·exact h.cls j hj (by omega) nx' e n hn⟩
end Rgx
def FY (gr N : Nat) (step : Int) (M : List St) (S : List Nat) (w : World) (e : Ending) (w' : World) : Prop := ∃ L A c Rk, e = .returned (.slice A L.length c) /\ gT (fun b => w.heap.size <= b) w' L A L.length c /\ zw M S L /\ L.Nodup /\ (∀ n ∈ L, n < N) /\ ae w' gr (iv Rk) 3 /\ Rk.length = N /\ (∀ n, n < N -> Rk.getD n 0 <= step) /\ w.grownBy w' (some gr)
theorem Tryz.sizeSt : (Tryz.prog.info? 109).map (·.size) = some 2 := by kernel_rfl
theorem VG (q : Nat -> Prop) (mb gr N : Nat) (v : Value) (M : List St) (S : List Nat) (Rk : List Int) (step : Int) (hst : 0 <= step /\ step <= 1000000000000) (A : Option Addr) (n c : Nat) (w : World) (hN : N = M.length) (mU : 0 < N /\ N <= 1000000000) (hM : bZ q mb v M w) (hq : ∀ b, q b -> b ≠ gr) (hne : mb ≠ gr /\ v.ownBlock ≠ some gr) (ax : ∀ x ∈ M, ∀ n ∈ x.2, n < M.length) (yY : ∀ x ∈ M, x.1 < 18446744073709551616) (hS : gT (fun b => b ≠ gr) w S A n c) (hlt : ∀ n ∈ S, n < N) (hR : ae w gr (iv Rk) 3) (hRl : Rk.length = N) (Di : ∀ n, n < N -> Rk.getD n 0 < step) : Calls Tryz.prog 62 #[.pointer (pt mb), .slice A n c, .slice (pt gr) N N, .int .i64 step] w (FY gr N step M S w) := by
 obtain ⟨g, dm, hv, hg1, hg2, Ka, GK⟩ := hM.place (List.ne_nil_of_length_pos (by omega));rw [<- hN] at hv Ka;subst hv;have HM := LH (bZ q mb (.slice (pt g) N dm) M w /\ N = M.length /\ (∀ b, q b -> b ≠ gr) /\ mb ≠ gr /\ g ≠ gr /\ mb < g /\ g < w.heap.size) ⟨hM, hN, hq, hne.1, fun e => hne.2 (by rw [<- e]; rfl), hg1, hg2⟩;have lC := LH ((∀ x ∈ M, ∀ n ∈ x.2, n < M.length) /\ ∀ x ∈ M, x.1 < 18446744073709551616) ⟨ax, yY⟩;have HGR := LH (gr < w.heap.size) hR.lt;have HB := LH (Bw w (((w.alloc (.cells #[.slice (pt gr) N N] 22)).alloc (.cells #[.int .i64 step] 3)).alloc (.cells #[.slice none 0 0] 22)) /\ ae (((w.alloc (.cells #[.slice (pt gr) N N] 22)).alloc (.cells #[.int .i64 step] 3)).alloc (.cells #[.slice none 0 0] 22)) w.heap.size [.slice (pt gr) N N] 22 /\ ae (((w.alloc (.cells #[.slice (pt gr) N N] 22)).alloc (.cells #[.int .i64 step] 3)).alloc (.cells #[.slice none 0 0] 22)) (w.heap.size + 1) [.int .i64 step] 3 /\ ae (((w.alloc (.cells #[.slice (pt gr) N N] 22)).alloc (.cells #[.int .i64 step] 3)).alloc (.cells #[.slice none 0 0] 22)) (w.heap.size + 1 + 1) [.slice none 0 0] 22 /\ (((w.alloc (.cells #[.slice (pt gr) N N] 22)).alloc (.cells #[.int .i64 step] 3)).alloc (.cells #[.slice none 0 0] 22)).heap.size = (w.heap.size + 1 + 1) + 1) ⟨aF (aF (ai _ _) _) _, ((ae.at w [.slice (pt gr) N N] _ 22 _ rfl rfl).alloc _).alloc _, (ae.at (w.alloc (.cells #[.slice (pt gr) N N] 22)) [.int .i64 step] _ 3 _ rfl (by simp)).alloc _, ae.at ((w.alloc (.cells #[.slice (pt gr) N N] 22)).alloc (.cells #[.int .i64 step] 3)) [.slice none 0 0] _ 22 _ rfl (by simp), by simp⟩;have xe := LH (nW gr (w.heap.size + 1 + 1) N step [] Rk (((w.alloc (.cells #[.slice (pt gr) N N] 22)).alloc (.cells #[.int .i64 step] 3)).alloc (.cells #[.slice none 0 0] 22))) ⟨⟨hRl, List.nodup_nil, fun n hn => (by cases hn), fun n hn => ⟨fun e => (by have := Di n hn; omega), fun h => (by cases h)⟩, fun n hn => (by have := Di n hn; omega)⟩, ⟨_, HB.out.2.2.2.1, rfl, .inl ⟨rfl, rfl⟩⟩, hR.below HB.out.1 hR.lt⟩
 have HS := LH (gT (fun b => b ≠ gr) w S A n c /\ ∀ n ∈ S, n < N) ⟨hS, hlt⟩;have HC := LH (∀ W, Kg gr (w.heap.size + 1 + 1) (((w.alloc (.cells #[.slice (pt gr) N N] 22)).alloc (.cells #[.int .i64 step] 3)).alloc (.cells #[.slice none 0 0] 22)) W -> W.cell? ⟨w.heap.size, 0, none⟩ = some (.slice (pt gr) N N) /\ W.cell? ⟨w.heap.size + 1, 0, none⟩ = some (.int .i64 step) /\ W.cell? ⟨mb, 0, none⟩ = some (.slice (pt g) N dm) /\ ∀ b o, b < w.heap.size -> b ≠ gr -> W.cell? ⟨b, o, none⟩ = w.cell? ⟨b, o, none⟩) fun W hk => by
  have hgr := HGR.out;have hm := HM.out;have hall : ∀ b o, b < w.heap.size -> b ≠ gr -> W.cell? ⟨b, o, none⟩ = w.cell? ⟨b, o, none⟩ := fun b o hb hn => World.cell?_of_block ((hk.block b (by omega) hn).trans (HB.out.1.block b hb))
  exact ⟨(World.cell?_of_block (hk.block w.heap.size (by omega) (by omega))).trans (HB.out.2.1.cell (j := 0) rfl), (World.cell?_of_block (hk.block (w.heap.size + 1) (by omega) (by omega))).trans (HB.out.2.2.1.cell (j := 0) rfl), (hall mb 0 (by omega) hm.2.2.2.1).trans (hm.1.box.cell (j := 0) rfl), hall⟩
 have iw := LH (∀ L0 (S0 : List Nat) Rk0 A0 n0 c0 W, nW gr (w.heap.size + 1 + 1) N step L0 Rk0 W -> Kg gr (w.heap.size + 1 + 1) (((w.alloc (.cells #[.slice (pt gr) N N] 22)).alloc (.cells #[.int .i64 step] 3)).alloc (.cells #[.slice none 0 0] 22)) W -> gT (fun b => b < w.heap.size /\ b ≠ gr) W S0 A0 n0 c0 -> (∀ n ∈ S0, n < N) -> Cz 93 #[.slice A0 n0 c0, .pointer (pt w.heap.size), .pointer (pt (w.heap.size + 1)), .pointer (pt (w.heap.size + 1 + 1))] W (Fv gr (w.heap.size + 1 + 1) N step L0 S0 W)) fun L0 S0 Rk0 A0 n0 c0 W h1 h2 h3 h4 => WG gr (w.heap.size + 1 + 1) w.heap.size (w.heap.size + 1) N step (by omega) L0 S0 Rk0 A0 n0 c0 W h1 ⟨by omega, by have := HGR.out; omega⟩ ⟨by omega, by have := HGR.out; omega⟩ (by have := HGR.out; omega) (h3.mono fun b hb => ⟨by omega, hb.2⟩) h4 (HC.out W h2).1 (HC.out W h2).2.1
 have HS3 := LH (gT (fun b => b < w.heap.size /\ b ≠ gr) (((w.alloc (.cells #[.slice (pt gr) N N] 22)).alloc (.cells #[.int .i64 step] 3)).alloc (.cells #[.slice none 0 0] 22)) S A n c) ((hS.lt.keep (W := (((w.alloc (.cells #[.slice (pt gr) N N] 22)).alloc (.cells #[.int .i64 step] 3)).alloc (.cells #[.slice none 0 0] 22))) fun b o hp => HB.out.1.cell (p := ⟨b, o, none⟩) hp.2).mono fun b hp => ⟨hp.2, hp.1⟩);have hce := VF;clear hM hne hq ax yY hS hlt hR hRl Di hg1 hg2 hN;go_enter Tryz.func62, Tryz.ntmps62
 go_upto_region 4 with ((with_reducible refine (iw.out [] S Rk A n c _ xe.out (Kg.refl _ _ _) HS3.out HS.out.2).mono ?_); rintro e w4 hp; obtain ⟨rfl, Rk4, h1, h2⟩ := KR hp; have H4 := Lh (And.intro h1 h2); clear hp h1 h2)
 go_wp2_with fail
 go_loopg [11] N (fun gq yG wr => ∃ i : Nat, i + gq = N /\ yG = .int .i64 (i : Int) /\ Hid (∃ L Rq, i <= L.length /\ nW gr (w.heap.size + 1 + 1) N step L Rq wr /\ Kg gr (w.heap.size + 1 + 1) (((w.alloc (.cells #[.slice (pt gr) N N] 22)).alloc (.cells #[.int .i64 step] 3)).alloc (.cells #[.slice none 0 0] 22)) wr /\ p9 M S L i))
 case atStart => exact ⟨0, by omega, rfl, Lh ⟨jc [] S, Rk4, Nat.zero_le _, H4.out.1, H4.out.2, ⟨fun a ha => zy.2 (.inr ha), fun n hn => by rcases zy.1 hn with h | h; (cases h); exact ⟨n, h, .refl n⟩, fun j hj yE => by omega⟩⟩⟩
 case round =>
  obtain ⟨i, hi, rfl, HI⟩ := hrel;obtain ⟨L, Rq, aH, uD, uV, hPL⟩ := HI.out;clear HI;have HI := LH (nW gr (w.heap.size + 1 + 1) N step L Rq wr /\ Kg gr (w.heap.size + 1 + 1) (((w.alloc (.cells #[.slice (pt gr) N N] 22)).alloc (.cells #[.int .i64 step] 3)).alloc (.cells #[.slice none 0 0] 22)) wr /\ p9 M S L i) ⟨uD, uV, hPL⟩;obtain ⟨v1, Am, hv2⟩ := uD.row;obtain ⟨B5, d5, hv, wF, Pg, GJ⟩ := Rd.of_own hv2;obtain ⟨N5, bD⟩ := eX L.length;have hN5N : N5 <= N := by rw [bD]; exact uD.mks.few
  rw [<- bD] at hv hv2 aH Pg;subst hv;have xh := LH (ae wr (w.heap.size + 1 + 1) [.slice B5 N5 d5] 22 /\ wr.ownsRow ((w.heap.size + 1 + 1) + 1) 3 1 (.slice B5 N5 d5) N5 (iv (nl L)) /\ Rd wr B5 (iv (nl L)) /\ N5 = L.length) ⟨Am, hv2, wF, bD⟩;have l8 := Am.cell (j := 0) rfl;have hcm := (HC.out wr uV).2.2.1;clear uD uV hPL Am hv2 wF bD
  by_cases hlt : i < N5
  ·obtain ⟨gg, rfl⟩ : ∃ g, gk = g + 1 := ⟨gk - 1, by omega⟩;have hiL : i < L.length := by rw [<- xh.out.2.2.2]; exact hlt
   obtain ⟨b5, o5, rfl, hcs⟩ := xh.out.2.2.1.open (uo (List.ne_nil_of_length_pos (by omega)));obtain ⟨x, hx⟩ := eX (L[i]);have bS : wr.cell? ⟨b5, o5 + i, none⟩ = some (.int .i64 (x : Int)) := by rw [hx]; exact hcs i _ (Jz hiL)
   have uT : x < N := by rw [hx]; exact HI.out.1.mks.lt _ (List.getElem_mem hiL)
   have qK : x < M.length := by rw [<- HM.out.2.1]; exact uT
   obtain ⟨A2, n2, c2, si, sV, oM⟩ := HM.out.1.at qK;obtain ⟨bb, iB⟩ := eX (M[x].1);obtain ⟨nx, tC⟩ := eX (M[x].2);rw [<- iB] at si;rw [<- tC] at oM;have uE := LH (M[x]? = some (bb, nx) /\ (∀ k ∈ nx, k < N) /\ M[L[i]]? = some (bb, nx) /\ bb < 18446744073709551616) (by
    have h1 : M[x]? = some (bb, nx) := by rw [List.getElem?_eq_getElem qK, iB, tC]
    exact ⟨h1, fun k hk => by rw [HM.out.2.1]; exact lC.out.1 M[x] (List.getElem_mem qK) k (by rw [<- tC]; exact hk), by rw [<- hx]; exact h1, by rw [iB]; exact lC.out.2 _ (List.getElem_mem qK)⟩)
   have hw := HC.out wr HI.out.2.1;have iT := LH (∀ W, Bw wr W -> (fun w' => w'.cell? ⟨mb, 0, none⟩ = some (.slice (pt g) N dm) /\ w'.cell? ⟨(w.heap.size + 1 + 1), 0, none⟩ = some (.slice (some ⟨b5, o5, none⟩) N5 d5) /\ w'.cell? ⟨b5, o5 + i, none⟩ = some (.int .i64 (x : Int)) /\ w'.rangeAt g (x * 2) [.int .u64 (bb : Int), .slice A2 n2 c2]) W) fun W hb => by
    have hgs := HM.out.2.2.2.2;refine ⟨(hb.cell (p := ⟨mb, 0, none⟩) (World.block_lt_of_cell? wr _ hcm)).trans hcm, (hb.cell (p := ⟨(w.heap.size + 1 + 1), 0, none⟩) (World.block_lt_of_cell? wr _ l8)).trans l8, (hb.cell (p := ⟨b5, o5 + i, none⟩) (World.block_lt_of_cell? wr _ bS)).trans bS, fun j u hu => ?_⟩;have BI : ∀ o, wr.cell? ⟨g, o, none⟩ = w.cell? ⟨g, o, none⟩ := fun o => hw.2.2.2 g o hgs.2.2 hgs.1
    match j, hu with
    |0, hu => have e := (BI (x * 2)).trans si; exact ((hb.cell (p := ⟨g, x * 2, none⟩) (World.block_lt_of_cell? wr _ e)).trans e).trans (by simpa using hu)
    |1, hu => have e := (BI (x * 2 + 1)).trans sV; exact ((hb.cell (p := ⟨g, x * 2 + 1, none⟩) (World.block_lt_of_cell? wr _ e)).trans e).trans (by simpa using hu)
   have nT := LH (∀ W, Bw wr W -> gT (fun b => b < w.heap.size /\ b ≠ gr) W nx A2 n2 c2) fun W hb => by
    have h1 := (oM.toL.lt.keep (W := wr) fun b o hp => hw.2.2.2 b o hp.2 (HM.out.2.2.1 b hp.1.1));exact (h1.lt.keep (W := W) fun b o hp => hb.cell (p := ⟨b, o, none⟩) hp.2).mono fun b hp => ⟨hp.1.2, HM.out.2.2.1 b hp.1.1.1⟩
   clear hx bS hcs si sV oM iB tC hw l8 hcm;have l8 := (iT.out wr (Below.refl _ _)).2.1;go_wp2_with fail;refine wp_region_held_drew (S := fun w' => w'.cell? ⟨mb, 0, none⟩ = some (.slice (pt g) N dm) /\ w'.cell? ⟨(w.heap.size + 1 + 1), 0, none⟩ = some (.slice (some ⟨b5, o5, none⟩) N5 d5) /\ w'.cell? ⟨b5, o5 + i, none⟩ = some (.int .i64 (x : Int)) /\ w'.rangeAt g (x * 2) [.int .u64 (bb : Int), .slice A2 n2 c2]) (by kernel_rfl) (iT.out _ (below_drewN (Below.refl _ _) 1)) (fun cO => ?_);refine ik 0 ?_;refine ik 1 ?_;refine ik 2 ?_;refine ik 3 ?_;refine ik 4 ?_;refine ik 5 ?_;refine ik 6 ?_;refine ik 7 ?_;refine ik 8 ?_;refine wX 9 rfl (yieldsIf_load_mid (by rfl) _ _ rfl _ _ rfl _ _ (fun w h => h.2.2.2) Tryz.underlying109 rfl Tryz.sizeSt) ?_;refine wpAnyH_ready (rs := [10]) (by kernel_rfl) (by simp) ?_;refine wA rfl (fun K0 hK => ?_) AllReadyH.nil
   go_simp;have bM := LH (Bw wr (wr.alloc (.cells #[.int .u64 0, .slice none 0 0] 109)).drew /\ ae (wr.alloc (.cells #[.int .u64 0, .slice none 0 0] 109)).drew wr.heap.size [.int .u64 0, .slice none 0 0] 109) ⟨(ai _ _).drew, ae.at wr _ _ 109 _ rfl rfl⟩;refine hK.out _ _ (iT.out _ bM.out.1) (fun hS1 => ?_);clear hK K0 cO;(try simp only [Act.put, pP]);refine wpAnyH_ready (rs := [11]) (by kernel_rfl) (by simp) ?_;refine AllReadyH.cons (o := ⟨none, .store 109 (.tmp 12) (.tmp 32), 0, _, _, none⟩) rfl (fun K0 hK => ?_) AllReadyH.nil
   refine GA rfl 109 (.tmp 12) (.tmp 32) rfl wr.heap.size rfl [.int .u64 (bb : Int), .slice A2 n2 c2] rfl bM.out.2 Tryz.sizeSt rfl (by simp [Value.oneCell']) ?_;intro x5 bz;have bf := LH (Bw wr x5 /\ ae x5 wr.heap.size [.int .u64 (bb : Int), .slice A2 n2 c2] 109) ⟨bz.below bM.out.1 (Nat.le_refl _), bz.1⟩;clear bz;refine hK.out _ _ (iT.out _ bf.out.1) (fun dh => ?_);clear hK K0 hS1;(try simp only [Act.put, pP]);refine wpAnyH_done (by kernel_rfl) ?_ _;have hcb0 := bf.out.2.cell (j := 0) rfl;have O1 := bf.out.2.cell (j := 1) rfl;have kP := LH (Kg gr (w.heap.size + 1 + 1) (((w.alloc (.cells #[.slice (pt gr) N N] 22)).alloc (.cells #[.int .i64 step] 3)).alloc (.cells #[.slice none 0 0] 22)) x5 /\ nW gr (w.heap.size + 1 + 1) N step L Rq x5) ⟨HI.out.2.1.tr (Kg.of_below bf.out.1 (by have h1 := xh.out.1.lt; omega)), HI.out.1.below bf.out.1⟩
   by_cases hb0 : bb = 0
   ·have e1 : ((bb : Int) == 0) = true := by rw [hb0]; rfl
    have HPR := LH (p9 M S (jc L nx) (i + 1)) (HI.out.2.2.eps hiL (by rw [uE.out.2.2.1, hb0]));clear hb0
    go_wp2_with ((with_reducible refine (iw.out L nx Rq A2 n2 c2 _ kP.out.2 kP.out.1 (nT.out _ bf.out.1) uE.out.2.1).mono ?_); rintro e w6 hp; obtain ⟨rfl, Rk6, h1, h2⟩ := KR hp; have H6 := Lh (And.intro h1 h2); clear hp h1 h2)
    go_roundg gg
    case rel => exact ⟨i + 1, by omega, by go_num, Lh ⟨jc L nx, Rk6, by have := (Js L nx).length_le; omega, H6.out.1, kP.out.1.tr H6.out.2, HPR.out⟩⟩
    case measure => omega
   ·have e1 : ((bb : Int) == 0) = false := bF (by omega);have HPR := LH (p9 M S L (i + 1)) (HI.out.2.2.skip hiL uE.out.2.2.1 hb0);clear hb0;go_wp2_with fail
    go_roundg gg
    case rel => exact ⟨i + 1, by omega, by go_num, Lh ⟨L, Rq, by omega, kP.out.2, kP.out.1, HPR.out⟩⟩
    case measure => omega
  ·obtain rfl : N5 = i := by omega
   have HF := LH (FY gr N step M S w (.returned (.slice B5 N5 d5)) wr) (by
    have h1 := HI.out;refine ⟨L, B5, d5, Rq, by rw [xh.out.2.2.2], ⟨rfl, by rw [<- xh.out.2.2.2]; exact Pg, by unfold maxLen at GJ; exact GJ, xh.out.2.2.1, fun _ b o e => by subst e; have := (xh.out.2.1.lt b rfl).1; omega⟩, ?_, h1.1.mks.nd, h1.1.mks.lt, h1.1.mark, h1.1.mks.len, h1.1.mks.le, ⟨h1.2.1.os.trans HB.out.1.os, h1.2.1.tape.trans HB.out.1.tape, h1.2.1.output.trans HB.out.1.output, Nat.le_trans HB.out.1.size h1.2.1.size, fun k hk hne => (h1.2.1.block k (by omega) (fun e => hne (by rw [e]))).trans (HB.out.1.block k hk)⟩⟩;have h2 := h1.2.2;rw [xh.out.2.2.2] at h2;exact h2.end)
   go_wp2_with fail;go_ret;exact HF.out
namespace Rgx
theorem QG {M : List St} {c : Int} : oZ M c [] [] := fun n => ⟨fun h => (by cases h), fun ⟨s, hs, _⟩ => (by cases hs)⟩
theorem Wv {M : List St} {c : Int} {L : List Nat} (h : ¬ (0 <= c /\ c < 64)) : oZ M c L [] := fun n => ⟨fun h => (by cases h), fun ⟨s, hs, b, nx, h1, h2, _⟩ => absurd h2 h⟩
theorem Rn {M : List St} {c : Int} {L R nx : List Nat} {i x b : Nat} (h : oZ M c (L.take i) R) (ht : L.take (i + 1) = L.take i ++ [x]) (hx : M[x]? = some (b, nx)) (hc : 0 <= c /\ c < 64) (hb : b.testBit c.toNat = true) : oZ M c (L.take (i + 1)) (R ++ nx) := fun n => by
 rw [ht, List.mem_append, h n];constructor
 ·rintro (⟨s, hs, r⟩ | hn)
  ·exact ⟨s, by simp [hs], r⟩
  ·exact ⟨x, by simp, b, nx, hx, hc, hb, hn⟩
 ·rintro ⟨s, hs, b', nx', h1, h2, h3, h4⟩
  rcases List.mem_append.1 hs with hs | hs
  ·exact .inl ⟨s, hs, b', nx', h1, h2, h3, h4⟩
  ·obtain rfl : s = x := by simpa using hs
   rw [hx] at h1;simp only [Option.some.injEq, Prod.mk.injEq] at h1;exact .inr (by rw [h1.2]; exact h4)
theorem Ve {M : List St} {c : Int} {L R nx : List Nat} {i x b : Nat} (h : oZ M c (L.take i) R) (ht : L.take (i + 1) = L.take i ++ [x]) (hx : M[x]? = some (b, nx)) (hb : b.testBit c.toNat = false) : oZ M c (L.take (i + 1)) R := fun n => by
 rw [ht, h n];constructor
 ·rintro ⟨s, hs, r⟩;exact ⟨s, by simp [hs], r⟩
 ·rintro ⟨s, hs, b', nx', h1, h2, h3, h4⟩
  rcases List.mem_append.1 hs with hs | hs
  ·exact ⟨s, hs, b', nx', h1, h2, h3, h4⟩
  ·obtain rfl : s = x := by simpa using hs
   rw [hx] at h1;simp only [Option.some.injEq, Prod.mk.injEq] at h1;rw [<- h1.1, hb] at h3
   cases h3
theorem VX (b k : Nat) : b &&& 2 ^ k ≠ 0 ↔ b.testBit k = true := by
 constructor
 ·intro h
  cases ht : b.testBit k with
  |true => rfl
  |false =>
   exact absurd (Nat.eq_of_testBit_eq fun i => by
    rw [Nat.testBit_and, Nat.testBit_two_pow, Nat.zero_testBit]
    by_cases e : k = i
    ·subst e; rw [ht]; rfl
    ·simp [e]) h
 ·intro h e;have h1 : (b &&& 2 ^ k).testBit k = true := by rw [Nat.testBit_and, Nat.testBit_two_pow, h]; simp
  rw [e, Nat.zero_testBit] at h1
  cases h1
theorem Rt (a b : List Nat) : iv (nl (a ++ b)) = iv (nl a) ++ iv (nl b) := by simp [iv, nl]
end Rgx
def xQ (M : List St) (c : Int) (L : List Nat) (qq : Nat) (w : World) (e : Ending) (w' : World) : Prop := ∃ R A n cc, e = .returned (.slice A n cc) /\ gT (fun b => w.heap.size <= b) w' R A n cc /\ oZ M c L R /\ (∀ n ∈ R, n < M.length) /\ R.length <= L.length * qq /\ Bw w w'
theorem QP {M : List St} {c : Int} {L : List Nat} {qq : Nat} {w w' : World} {e : Ending} (h : xQ M c L qq w e w') : ∃ R A n cc, e = .returned (.slice A n cc) /\ gT (fun b => w.heap.size <= b) w' R A n cc /\ oZ M c L R /\ (∀ n ∈ R, n < M.length) /\ R.length <= L.length * qq /\ Bw w w' := h
theorem KT {M : List St} {c : Int} {L : List Nat} {qq : Nat} {w w' : World} (h : ¬ (0 <= c /\ c < 64)) (hb : Bw w w') : xQ M c L qq w (.returned (.slice none 0 0)) w' := ⟨[], none, 0, 0, rfl, (gy.nil _ _).toL, Wv h, fun n hn => (by cases hn), Nat.zero_le _, hb⟩
theorem RB (q : Nat -> Prop) (mb : Nat) (v : Value) (M : List St) (L : List Nat) (A : Option Addr) (n c qq : Nat) (sy : Int) (w : World) (hM : bZ q mb v M w) (mU : 0 < M.length /\ M.length <= 1000000000) (ax : ∀ x ∈ M, ∀ n ∈ x.2, n < M.length) (Hf : ∀ x ∈ M, x.2.length <= qq) (yY : ∀ x ∈ M, x.1 < 18446744073709551616) (hL : gT (fun b => b < w.heap.size) w L A n c) (hlt : ∀ n ∈ L, n < M.length) (hsz : L.length * qq <= 1000000000) : Calls Tryz.prog 61 #[.pointer (pt mb), .slice A n c, .int .i64 sy] w (xQ M sy L qq w) := by
 by_cases hs0 : sy < 0
 ·have e1 : decide (sy < 0) = true := dT hs0;have HF := LH (∀ W, Bw w W -> xQ M sy L qq w (.returned (.slice none 0 0)) W) fun W hb => KT (by omega) hb
  clear hM hL hlt ax Hf yY;go_enter Tryz.func61, Tryz.ntmps61;go_wp2_with fail;go_ret;exact HF.out _ (Below.refl _ _)
 by_cases hs64 : 64 <= sy
 ·have e1 : decide (sy < 0) = false := dF hs0;have HF := LH (∀ W, Bw w W -> xQ M sy L qq w (.returned (.slice none 0 0)) W) fun W hb => KT (by omega) hb
  clear hM hL hlt ax Hf yY;go_enter Tryz.func61, Tryz.ntmps61;go_wp2_with fail;go_ret;exact HF.out _ (Below.refl _ _)
 have es1 : decide (sy < 0) = false := dF hs0;have es2 : decide (64 <= sy) = false := dF hs64;have yA : 0 <= sy := by omega
 have hsy63 : sy <= 63 := by omega
 have WR : sy < 64 := by omega
 obtain ⟨g, dm, hv, hg1, hg2, Ka, GK⟩ := hM.place (List.ne_nil_of_length_pos (by omega));obtain ⟨N, hN⟩ := eX M.length;rw [<- hN] at hv Ka mU;subst hv;have HM := LH (bZ q mb (.slice (pt g) N dm) M w /\ N = M.length) ⟨hM, hN⟩;have lC := LH ((∀ x ∈ M, ∀ n ∈ x.2, n < M.length) /\ (∀ x ∈ M, x.1 < 18446744073709551616) /\ (∀ x ∈ M, x.2.length <= qq) /\ L.length * qq <= 1000000000) ⟨ax, yY, Hf, hsz⟩;have HL := LH (gT (fun b => b < w.heap.size) w L A n c /\ ∀ n ∈ L, n < M.length) ⟨hL, hlt⟩;have yO := hL.cap;have hc0 := hL.max;obtain ⟨P, hP⟩ := eX (2 ^ sy.toNat);have Hl : P < 18446744073709551616 := by
  rw [hP, show 18446744073709551616 = 2 ^ 64 from rfl];exact Nat.pow_lt_pow_right (by omega) (by omega)
 have eP : IntKind.u64.wrap (2 ^ sy.toNat) = (P : Int) := by
  rw [IntKind.wrap_u64, hP];have h2 : ((2 : Int) ^ sy.toNat) = ((2 ^ sy.toNat : Nat) : Int) := by norm_cast
  rw [h2, <- hP]; omega
 have HP := LH (P = 2 ^ sy.toNat /\ 0 <= sy /\ sy < 64) ⟨hP, yA, WR⟩;obtain ⟨j0, sG, nP, iG, gY⟩ := info_parts BK;clear hM hN hL hlt ax Hf yY hsz hP hs0 hs64 hg1 hg2;go_enter Tryz.func61, Tryz.ntmps61;go_wp2_with fail
 go_loopg [7, 19] n (fun gq s7 s19 wr => ∃ (i : Nat) (R : List Nat), i + gq = n /\ s19 = .int .i64 (i : Int) /\ Hid (wr.ownsRow w.heap.size 3 1 s7 R.length (iv (nl (R))) /\ Bw w wr /\ oZ M sy (L.take i) (R) /\ (R).length <= i * qq /\ ∀ n ∈ (R), n < M.length))
 case atStart => exact ⟨0, [], by omega, rfl, Lh ⟨World.ownsRow_nil _ _ _ _, Below.refl _ _, by rw [List.take_zero]; exact QG, Nat.zero_le _, fun n hn => (by cases hn)⟩⟩
 case round =>
  obtain ⟨i, R, hi, rfl, HI⟩ := hrel;obtain ⟨B5, d5, hv, _⟩ := Rd.of_own HI.out.1;obtain ⟨N5, bD⟩ := eX R.length;rw [<- bD] at hv;subst hv;have HJ := LH ((wr.ownsRow w.heap.size 3 1 (.slice B5 N5 d5) N5 (iv (nl R)) /\ Bw w wr /\ oZ M sy (L.take i) R /\ R.length <= i * qq /\ ∀ n ∈ R, n < M.length) /\ N5 = R.length) ⟨by have h := HI.out; rw [<- bD] at h; rwa [<- bD], bD⟩
  by_cases hlt : i < n
  ·obtain ⟨gg, rfl⟩ : ∃ g, gk = g + 1 := ⟨gk - 1, by omega⟩;have aH : i < L.length := by rw [<- HL.out.1.len]; exact hlt
   obtain ⟨b, o, rfl, hcs⟩ := (HL.out.1.keep (W := wr) fun b o hb => HJ.out.1.2.1.cell (p := ⟨b, o, none⟩) hb).rd.open (uo (List.ne_nil_of_length_pos (by omega)));obtain ⟨x, hx⟩ := eX (L[i]);have bS : wr.cell? ⟨b, o + i, none⟩ = some (.int .i64 (x : Int)) := by rw [hx]; exact hcs i _ (Jz aH)
   have qK : x < M.length := by rw [hx]; exact HL.out.2 _ (List.getElem_mem aH)
   have uT : x < N := by rw [HM.out.2]; exact qK
   have iL := LH (L.take (i + 1) = L.take i ++ [x]) (by rw [List.take_succ_eq_append_getElem aH, hx]);obtain ⟨A2, n2, c2, si, sV, oM⟩ := HM.out.1.at qK;obtain ⟨bb, iB⟩ := eX (M[x].1);obtain ⟨nx, tC⟩ := eX (M[x].2);rw [<- iB] at si;rw [<- tC] at oM;have hbl : bb < 18446744073709551616 := by rw [iB]; exact lC.out.2.1 _ (List.getElem_mem qK)
   have uE := LH (M[x]? = some (bb, nx) /\ (∀ k ∈ nx, k < M.length) /\ nx.length <= qq /\ n2 = nx.length) (by
    have h1 : M[x]? = some (bb, nx) := by rw [List.getElem?_eq_getElem qK, iB, tC]
    exact ⟨h1, fun k hk => lC.out.1 M[x] (List.getElem_mem qK) k (by rw [<- tC]; exact hk), by rw [tC]; exact lC.out.2.2.1 _ (List.getElem_mem qK), oM.len⟩)
   have hcm : wr.cell? ⟨mb, 0, none⟩ = some (.slice (pt g) N dm) := (HJ.out.1.2.1.cell (p := ⟨mb, 0, none⟩) HM.out.1.box.lt).trans (HM.out.1.box.cell (j := 0) rfl);have hrg : wr.rangeAt g (x * 2) [.int .u64 (bb : Int), .slice A2 n2 c2] := fun j u hu => by
    match j, hu with
    |0, hu => exact ((HJ.out.1.2.1.cell (p := ⟨g, x * 2, none⟩) (World.block_lt_of_cell? w _ si)).trans si).trans (by simpa using hu)
    |1, hu => exact ((HJ.out.1.2.1.cell (p := ⟨g, x * 2 + 1, none⟩) (World.block_lt_of_cell? w _ sV)).trans sV).trans (by simpa using hu)
   have nT := LH (∀ W, Bw wr W -> gT (fun b => b < w.heap.size) W nx A2 n2 c2) fun W hb => (oM.toL.lt.mono (fun b hp => hp.2)).keep (W := W) fun b o hp => (hb.cell (p := ⟨b, o, none⟩) (Nat.lt_of_lt_of_le hp HJ.out.1.2.1.size)).trans (HJ.out.1.2.1.cell (p := ⟨b, o, none⟩) hp)
   obtain ⟨S2, dh⟩ := eX (bb &&& P);have eA : bits .and .u64 (bb : Int) (P : Int) = (S2 : Int) := by rw [bits_and_u64_nat bb P hbl Hl, dh]
   have tV := LH (S2 ≠ 0 ↔ bb.testBit sy.toNat = true) (by rw [dh, HP.out.1]; exact VX _ _);have hs1 : N5 + n2 <= maxLen := by
    have h1 := uE.out;have h2 := HJ.out;have h3 := lC.out.2.2.2;have h4 : (i + 1) * qq <= L.length * qq := Nat.mul_le_mul_right _ aH;rw [Nat.add_mul] at h4;unfold maxLen; omega
   have hs2 : (N5 + n2) * 8 <= 140737488355328 := by
    have h1 := uE.out;have h2 := HJ.out;have h3 := lC.out.2.2.2;have h4 : (i + 1) * qq <= L.length * qq := Nat.mul_le_mul_right _ aH;rw [Nat.add_mul] at h4;omega
   have HLW := LH (w.heap.size <= wr.heap.size) HJ.out.1.2.1.size;have HST := LH (∀ W, aT (wr.alloc (.cells #[.int .u64 0, .slice none 0 0] 109)) W wr.heap.size [.int .u64 (bb : Int), .slice A2 n2 c2] 109 -> Bw wr W /\ ae W wr.heap.size [.int .u64 (bb : Int), .slice A2 n2 c2] 109) fun W hst => ⟨hst.below (ai _ _) (Nat.le_refl _), hst.1⟩
   have iM := LH (∀ x5 v' w', Bw wr x5 -> w'.ownsRow w.heap.size 3 1 v' (N5 + n2) (iv (nl R) ++ iv (nl nx)) -> x5.grownBy w' (Value.slice B5 N5 d5).ownBlock -> S2 ≠ 0 -> w'.ownsRow w.heap.size 3 1 v' (R ++ nx).length (iv (nl ((R ++ nx)))) /\ Bw w w' /\ oZ M sy (L.take (i + 1)) ((R ++ nx)) /\ ((R ++ nx)).length <= (i + 1) * qq /\ ∀ n ∈ ((R ++ nx)), n < M.length) fun x5 v' w' hb hown hg h2 => by
    have h1 := HJ.out;have h4 := uE.out;refine ⟨?_, ?_, Rn h1.1.2.2.1 iL.out h4.1 HP.out.2 (tV.out.1 h2), ?_, fun k hk => ?_⟩
    ·rw [List.length_append, <- h1.2, <- h4.2.2.2, Rt]; exact hown
    ·exact eH (h1.1.2.1.trans (hb.mono h1.1.2.1.size)) hg (fun g hg => (h1.1.1.lt g hg).1)
    ·rw [List.length_append, Nat.add_mul]; omega
    ·rcases List.mem_append.1 hk with hk | hk
     · exact h1.1.2.2.2.2 k hk
     · exact h4.2.1 k hk
   have HNO := LH (∀ x5, Bw wr x5 -> S2 = 0 -> x5.ownsRow w.heap.size 3 1 (.slice B5 N5 d5) R.length (iv (nl (R))) /\ Bw w x5 /\ oZ M sy (L.take (i + 1)) (R) /\ (R).length <= (i + 1) * qq /\ ∀ n ∈ (R), n < M.length) fun x5 hb h2 => by
    have h1 := HJ.out;refine ⟨by rw [<- h1.2]; exact gu h1.1.1 hb, h1.1.2.1.trans (hb.mono h1.1.2.1.size), Ve h1.1.2.2.1 iL.out uE.out.1 ?_, by rw [Nat.add_mul]; omega, h1.1.2.2.2.2⟩
    cases h3 : bb.testBit sy.toNat with
    |false => rfl
    |true => exact absurd h2 (tV.out.2 h3)
   clear hx hcs qK si sV oM iB tC aH dh bD
   go_upto_region 3 with (first
    |(refine wpList_load_mid rfl 109 (.tmp 28) rfl g (x * 2) rfl [.int .u64 (bb : Int), .slice A2 n2 c2] _ hrg Tryz.underlying109 rfl Tryz.sizeSt ?_)
    |(refine wB rfl 109 (.tmp 10) (.tmp 29) rfl wr.heap.size 0 rfl [.int .u64 (bb : Int), .slice A2 n2 c2] rfl (ae.at wr [.int .u64 0, .slice none 0 0] _ 109 _ rfl rfl) 2 Tryz.sizeSt ?_; intro x5 bz; have bf := Lh (HST.out x5 bz); clear bz))
   (try simp only [Act.put]);have hcb0 := bf.out.2.cell (j := 0) rfl;have bX := LH (Bw x5 x5) (Below.refl _ _);have l1 : ∀ p : Wo (Below x5.heap.size x5), p.wo.cell? ⟨wr.heap.size, 0, none⟩ = some (.int .u64 (bb : Int)) := fun p => (p.ok.cell (p := ⟨wr.heap.size, 0, none⟩) (World.block_lt_of_cell? x5 _ hcb0)).trans hcb0
   clear hcb0
   by_cases h2 : S2 = 0
   ·have e1 : ((S2 : Int) != 0) = false := by rw [h2]; rfl
    have H2 := LH (S2 = 0) h2;clear h2;haveI : Nonempty (Wo (Below x5.heap.size x5)) := ⟨⟨x5, bX.out⟩⟩;refine jB (Below x5.heap.size x5) jC (by kernel_rfl) (below_drewN bX.out 1) ?_
    repeat (go_big_quiet_step ((fail)))
    refine wpQuiet_nil ?_;intro x6 hw2;obtain ⟨⟨EM, ax⟩, hw3⟩ := hw2;have hw4 : x6 = EM := hw3;subst hw4;have Bh := Lh ax;clear hw3 ax;have dZ := Lh (HNO.out x6 (bf.out.1.trans (Bh.out.mono bf.out.1.size)) H2.out);go_wp2_with fail
    go_roundg gg
    case rel => exact ⟨i + 1, R, by omega, by go_num, dZ⟩
    case measure => omega
   ·have e1 : ((S2 : Int) != 0) = true := by simpa using h2
    have H2 := LH (S2 ≠ 0) h2;have HN2 := LH (n2 = (nl nx).length) (by rw [IG]; exact uE.out.2.2.2);clear h2;haveI : Nonempty (Wo (Below x5.heap.size x5)) := ⟨⟨x5, bX.out⟩⟩;refine jB (Below x5.heap.size x5) jC (by kernel_rfl) (below_drewN bX.out 1) ?_
    repeat (go_big_quiet_step ((fail)))
    refine wpQuiet_nil ?_;intro x6 hw2;obtain ⟨⟨EM, ax⟩, hw3⟩ := hw2;have hw4 : x6 = EM := hw3;subst hw4;have Bh := Lh ax;clear hw3 ax;have jk := Lh (bf.out.1.trans (Bh.out.mono bf.out.1.size));have kE := Lh ((nT.out x6 jk.out).rd);have O1 := (bf.out.2.below Bh.out bf.out.2.lt).cell (j := 1) rfl
    go_wp2_with (at_builtin; refine gW rfl (.tmp 36) (.tmp 38) 22 22 rfl w.heap.size 3 j0 _ 1 8 Tryz.underlying22 sG nP iG gY rfl _ _ _ rfl (gu HJ.out.1.1 jk.out) _ n2 (iv (nl nx)) rfl (Ja Tryz.underlying22 iG kE.out n2 c2 HN2.out) hs1 hs2 (Nat.le_trans HLW.out jk.out.size) ?_; intro v9 w9 dJ dN fe; have dZ := Lh (iM.out x6 v9 w9 jk.out dJ dN H2.out); clear dJ dN fe)
    go_roundg gg
    case rel => exact ⟨i + 1, R ++ nx, by omega, by go_num, dZ⟩
    case measure => omega
  ·obtain rfl : n = i := by omega
   have HF := LH (xQ M sy L qq w (.returned (.slice B5 N5 d5)) wr) (by
    have h1 := HJ.out.1;have h2 := h1.2.2.1;rw [HL.out.1.len, List.take_length] at h2;exact ⟨R, B5, N5, d5, rfl, gT.own h1.1, h2, h1.2.2.2.2, by rw [<- HL.out.1.len]; exact h1.2.2.2.1, h1.2.1⟩)
   go_wp2_with fail;go_ret;exact HF.out
section
open Go.RowKit
open Go.Shelf
open Alp
open Rgx
attribute [local go_sem] Oper.semAt_some
namespace Rgx
def o8 (m : Nat) : List (Fin m) := (List.finRange m).reverse
theorem Gf (m : Nat) : (o8 m).length = m := by unfold o8; simp
theorem WF {m k : Nat} (h : k < m) : (o8 m)[k]'(by rw [Gf]; exact h) = ⟨m - 1 - k, by omega⟩ := by
 unfold o8;rw [List.getElem_reverse];simp
theorem Tm {m k : Nat} (h : k < m) : (o8 m).take (k + 1) = (o8 m).take k ++ [⟨m - 1 - k, by omega⟩] := by
 rw [List.take_succ_eq_append_getElem (by rw [Gf]; exact h), WF h]
def kv (ks : List Rx) {m : Nat} (s : List St × Nat) (pre : List (Fin m)) : List St × Nat := pre.foldl (fun s i => aN s.1 s.2 (av ks i.1)) s
theorem Gi (ks : List Rx) {m : Nat} (s : List St × Nat) (pre : List (Fin m)) (x : Fin m) : kv ks s (pre ++ [x]) = aN (kv ks s pre).1 (kv ks s pre).2 (av ks x.1) := by
 unfold kv; rw [List.foldl_append]; rfl
theorem Og (M : List St) (t : Nat) : ∀ ks : List Rx, eT M t ks = ks.foldr (fun x s => aN s.1 s.2 x) (M, t)
 |[] => by rw [eT]; rfl
 |x :: xs => by rw [eT, Og M t xs]; rfl
theorem RX (ks : List Rx) (M : List St) (t : Nat) {m : Nat} (hm : m = ks.length) : kv ks (M, t) (o8 m) = eT M t ks := by
 subst hm;unfold kv o8;rw [List.foldl_reverse, Og];have e : ks = (List.finRange ks.length).map fun i => av ks i.1 := by
  refine List.ext_getElem (by simp) fun i h1 h2 => ?_
  simp [gI h1]
 conv => rhs; rw [e]
 rw [List.foldr_map]
theorem I7 {y : Rx} : ∀ {ks : List Rx}, y ∈ ks -> az y + (ks.length : Int) <= aj ks + 1
 |x :: xs, h => by
  rw [aj, List.length_cons]
  rcases List.mem_cons.1 h with e | h
  ·subst e; have := mW xs; simp; omega
  ·have h1 := I7 h; have := fQ x; simp; omega
theorem List.reverseRecOn' {α : Type} {P : List α -> Prop} (nil : P []) (snoc : ∀ l x, P l -> P (l ++ [x])) (l : List α) : P l := by
 rw [<- List.reverse_reverse l]
 induction l.reverse with
 |nil => exact nil
 |cons x t ih => rw [List.reverse_cons]; exact snoc _ _ ih
theorem WE (ks : List Rx) {m : Nat} (hm : m = ks.length) (M : List St) (t : Nat) : ∀ pre : List (Fin m), (((kv ks (M, t) pre).1.length : Nat) : Int) <= M.length + (pre.length : Int) * (aj ks + 1 - (m : Int)) := by
 intro pre
 induction pre using List.reverseRecOn' with
 |nil => simp [kv]
 |snoc pre x ih =>
  rw [Gi];have h1 := CU (av ks x.1) (kv ks (M, t) pre).1 (kv ks (M, t) pre).2;have h2 := I7 (gU (ks := ks) (i := x.1) (by rw [<- hm]; exact x.2));rw [List.length_append, List.length_singleton];have h3 : ((pre.length + 1 : Nat) : Int) * (aj ks + 1 - (m : Int)) = (pre.length : Int) * (aj ks + 1 - (m : Int)) + (aj ks + 1 - (m : Int)) := by rw [Int.natCast_add, Int.add_mul]; simp
  rw [h3];omega
theorem UT (r : Rx) : ∀ (M : List St) (t : Nat), t < M.length -> (aN M t r).2 < (aN M t r).1.length := by
 induction r using Rx.ind with
 |h r ih =>
 intro M t ht;have hS : ∀ ks : List Rx, (∀ x ∈ ks, x ∈ r.kids) -> ∀ M : List St, t < M.length -> (eT M t ks).2 < (eT M t ks).1.length := by
  intro ks
  induction ks with
  |nil => intro _ M h; rw [eT]; exact h
  |cons x xs ihx => intro hk M h; rw [eT]; exact ih x (hk x (by simp)) _ _ (ihx (fun y hy => hk y (by simp [hy])) M h)
 rw [qf]
 split
 ·exact ht
 ·split
  ·simp
  ·split
   ·exact hS r.kids (fun x hx => hx) M ht
   ·split
    ·simp
    ·split
     ·show M.length < (List.set _ _ _).length;rw [List.length_set];have := (Iz r.kids (M ++ [(0, [t])]) M.length).len;rw [List.length_append] at this;simp at this;omega
     ·simp
theorem UZ (ks : List Rx) {m : Nat} (M : List St) (t : Nat) (ht : t < M.length) (pre : List (Fin m)) : (kv ks (M, t) pre).2 < (kv ks (M, t) pre).1.length := by
 induction pre using List.reverseRecOn' with
 |nil => exact ht
 |snoc pre x ih => rw [Gi]; exact UT _ _ _ ih
theorem gy.isc {p : Nat -> Prop} {w : World} {l : List Nat} {A : Option Addr} {n c : Nat} (h : gy p w l A n c) : gy (fun b => p b /\ ∃ o : Obj, w.heap[b]? = some o /\ o.isCells = true) w l A n c := ⟨h.len, h.cap, h.max, h.rd, fun hn b o e => ⟨h.blk hn b o e, by
 obtain ⟨b', o', e', hc⟩ := h.rd.open (uo hn);obtain ⟨rfl, rfl⟩ : b = b' /\ o = o' := by rw [e] at e'; simpa using e'
 cases l with
 |nil => exact absurd rfl hn
 |cons x t => exact cells_of_cell (hc 0 _ rfl)⟩, h.full⟩
theorem jT.isc {p : Nat -> Prop} {w : World} {xs : List Value} {M : List St} (h : jT p w xs M) : jT (fun b => p b /\ ∃ o : Obj, w.heap[b]? = some o /\ o.isCells = true) w xs M := ⟨h.1, fun i hi => by
 obtain ⟨A, n, c, e1, e2, e3⟩ := h.2 i hi;exact ⟨A, n, c, e1, e2, e3.isc⟩⟩
theorem bZ.turn {q : Nat -> Prop} {mb : Nat} {v : Value} {M : List St} {w w1 : World} {row : Option Nat} (h : bZ q mb v M w) (hg : w.grownBy w1 row) (hr : ∀ r, row = some r -> ∃ o : Obj, w.heap[r]? = some o /\ o.isCells = false) : bZ q mb v M w1 := by
 obtain ⟨xs, hC, hO⟩ := h.row;refine ⟨(grownBy_keeps_cells hg hr (show w.heap[mb]? = _ from h.box) rfl).trans h.box, xs, (hC.isc.keep fun b o hp => ?_).mono fun b hp => hp.1, hO.kept hg ?_⟩
 ·obtain ⟨ob, h1, h2⟩ := hp.2;exact World.cell?_of_block (grownBy_keeps_cells hg hr h1 h2)
 ·rcases hO.2 with ⟨e, _⟩ | ⟨g, cap, cur, e, _, BI, _⟩
  ·left; rw [e]; rfl
  ·right
   intro e2;rw [e] at e2;obtain ⟨o, ho, hc⟩ := hr g e2.symm;rw [BI] at ho
   cases ho
   cases hc
theorem bZ.rowc {q : Nat -> Prop} {mb : Nat} {v : Value} {M : List St} {w : World} (h : bZ q mb v M w) {g : Nat} (hg : v.ownBlock = some g) : ∃ o : Obj, w.heap[g]? = some o /\ o.isCells = true := by
 obtain ⟨xs, hC, hO⟩ := h.row
 rcases hO.2 with ⟨e, _⟩ | ⟨g', cap, cur, e, _, BI, _⟩
 ·rw [e] at hg; cases hg
 ·rw [e] at hg;obtain rfl : g' = g := Option.some.inj hg;exact ⟨_, BI, rfl⟩
end Rgx
theorem Tt (F : Fence) (n : Nat) (hf : F.fn 92) (hro : F.round = none) (B : Option Addr) (m d : Nat) (w : World) : CallsIn F n Tryz.prog 92 #[.slice B m d] w fun e w' => e = .returned (.func (.func 126) #[] #[.pointer (pt w.heap.size)]) /\ w' = w.alloc (.cells #[.slice B m d] 23) := by
 refine callsIn_of_wp Tryz.func92 rfl hf ?_ hro;simp only [Tryz.ntmps92, List.size_toArray, List.length_cons, List.length_nil, Nat.reduceAdd, Nat.reduceSub, Array.replicate_succ, Array.replicate_zero, List.push_toArray, List.append_toArray, List.nil_append, List.cons_append]
 gi_wp2
 go_ret;exact ⟨rfl, rfl⟩
theorem Ti (F : Fence) (n : Nat) (hf : F.fn 126) (hro : F.round = none) (hn : 1 <= n) (gb : Nat) (B : Option Addr) (m d : Nat) (hm : m <= 1000000000000) (Vf : Fin m -> Value) (Kl : World -> World -> Prop) (RR : World -> Prop) (w0 : World) (h0 : ∀ W, Bw w0 W -> RR W) (hs : ∀ W W', RR W -> Kl W W' -> RR W') (hr : ∀ W, RR W -> W.cell? ⟨gb, 0, none⟩ = some (.slice B m d) /\ ∀ i : Fin m, ∃ b o k A n1 c1 B2 m2 d2, B = some ⟨b, o, none⟩ /\ Vf i = .agg #[.int .i64 k, .slice A n1 c1, .slice B2 m2 d2] /\ W.cell? ⟨b, o + i.1 * 3, none⟩ = some (.int .i64 k) /\ W.cell? ⟨b, o + i.1 * 3 + 1, none⟩ = some (.slice A n1 c1) /\ W.cell? ⟨b, o + i.1 * 3 + 2, none⟩ = some (.slice B2 m2 d2)) :
  SeqStopsK F n Tryz.prog 126 #[.pointer (pt gb)] (fun i : Fin m => #[.int .i64 (i.1 : Int), Vf i]) Kl (fun ys => ys = o8 m) (fun _ => True) m w0 := fun l J Jx W hW _ _ hY ER => by
 have kL := Lh (h0 W hW);have HS := Lh hs;have HR := Lh hr;have HY := Lh hY;clear hY hs hr;refine callsIn_of_wp Tryz.func126 rfl hf ?_ hro;simp only [Tryz.ntmps126, List.size_toArray, List.length_cons, List.length_nil, Nat.reduceAdd, Nat.reduceSub, Array.replicate_succ, Array.replicate_zero, List.push_toArray, List.append_toArray, List.nil_append, List.cons_append];have hc0 := (HR.out W kL.out).1
 gi_wp2
 gi_loopw [3] (fun i wr => ∃ k : Nat, k <= m /\ i = .int .i64 ((m : Int) - 1 - (k : Int)) /\ J ((o8 m).take k) wr /\ RR wr) (fun i _ => (intOf i + 1).toNat)
 case atStart => exact ⟨0, Nat.zero_le _, by simp, ER, kL.out⟩
 case round =>
  obtain ⟨k, hk, rfl, hJs, hRR⟩ := hrel;have xm := Lh hRR;have HJ := Lh hJs;clear hRR hJs
  by_cases hlt : k < m
  ·obtain ⟨i, hi⟩ : ∃ i : Nat, i = m - 1 - k := ⟨_, rfl⟩;have tq : i < m := by omega
   have hie : (m : Int) - 1 - (k : Int) = (i : Int) := by omega
   have iL : Hid ((o8 m).take (k + 1) = (o8 m).take k ++ [⟨i, tq⟩]) := Lh (by rw [Tm hlt]; simp only [hi]);obtain ⟨b, o, kk, A, n1, c1, B2, m2, d2, rfl, hV, e1, e2, e3⟩ := (HR.out wr xm.out).2 ⟨i, tq⟩;have hcb := (HR.out wr xm.out).1;obtain ⟨fn, tmps, assign, body, hy, hR⟩ := HY.out _ ⟨i, tq⟩ wr HJ.out (by rw [List.length_take, Gf]; omega);rw [hV] at hy
   dsimp only at hy e1 e2 e3
   rw [hie];have HHR := Lh hR;have uP : 0 <= (i : Int) := by omega
   have HW : Hid ((m : Int) - 1 - ((k + 1 : Nat) : Int) = (i : Int) - 1) := Lh (by omega);clear hie hi hV hR
   gi_wp2
   refine HHR.out.mono ?_;rintro e W3 (⟨rfl, hJ3, hk3⟩ | ⟨rfl, hJx3⟩)
   ·gi_wp2
    go_roundw
    case rel => exact ⟨k + 1, by omega, by rw [HW.out], by rw [iL.out]; exact hJ3, HS.out _ _ xm.out hk3⟩
    case measure => simp [intOf]
   ·gi_wp2
    refine bodyPost_ret (results_none rfl _ _ _) rfl ?_;exact ⟨⟨_, rfl⟩, .inr ⟨_, trivial, hJx3⟩⟩
  ·obtain rfl : k = m := by omega
   have hcb := (HR.out wr xm.out).1
   gi_wp2
   go_end0;exact ⟨⟨_, rfl⟩, .inl ⟨_, rfl, by have h1 := HJ.out; rwa [List.take_of_length_le (by rw [Gf]; exact Nat.le_refl _)] at h1⟩⟩
structure Ko (mb : Nat) (v : Value) (G : Nat) (w w' : World) : Prop where
 os : w'.os = w.os
 tape : w'.tape = w.tape
 output : w'.output = w.output
 size : w.heap.size <= w'.heap.size
 block : ∀ k, k < w.heap.size -> k ≠ mb -> some k ≠ v.ownBlock -> k ≠ G -> w'.heap[k]? = w.heap[k]?
def Kl (mb : Nat) (v : Value) (G N : Nat) (W W' : World) : Prop := ∀ k, k < N -> k ≠ mb -> some k ≠ v.ownBlock -> k ≠ G -> W'.heap[k]? = W.heap[k]?
def AxS {m : Nat} (N : Nat) (fk : Fin m -> Int × Option Addr × Nat × Nat × Option Addr × Nat × Nat) (fr : Nat -> Fin m -> Act) (x : Fin m) (a' : Act) (W : World) : Prop := ∃ Bx, N <= Bx /\ ae W Bx [.int .i64 (fk x).1, .slice (fk x).2.1 (fk x).2.2.1 (fk x).2.2.2.1, .slice (fk x).2.2.2.2.1 (fk x).2.2.2.2.2.1 (fk x).2.2.2.2.2.2] 25 /\ a' = fr Bx x
theorem ND {w w1 : World} {row : Option Nat} {b : Nat} {C : List Value} {T : TypeId} (h : ae w b C T) (hg : w.grownBy w1 row) (hr : ∀ r, row = some r -> ∃ o : Obj, w.heap[r]? = some o /\ o.isCells = false) : ae w1 b C T := (grownBy_keeps_cells hg hr (show w.heap[b]? = _ from h) rfl).trans h
theorem UR (r : Rx) (hk : r.kind = 3) (hv : aC r = true) (ih : ∀ x ∈ r.kids, qR x) : qR r := by
 intro q mb v M w K A B n c m d t2 hK hq hM ht hc h;have HX := LH (ak (fun b => b ≠ mb /\ some b ≠ v.ownBlock) w r A n c B m d /\ K = r.kind /\ aC r = true) ⟨h, hK, hv⟩;have HQ := Lh hq;have HT := Lh ht;have dH := Lh ih;have ve : m <= 1000000 := by have h2 := vZ r; have h3 := h.o.mlen; have h4 := Ms (r := r) (by omega); omega
 have hch : ∀ i : Fin m, ∃ t : Int × Option Addr × Nat × Nat × Option Addr × Nat × Nat, ∃ b o, B = some ⟨b, o, none⟩ /\ (b ≠ mb /\ some b ≠ v.ownBlock) /\ t.1 = (av r.kids i.1).kind /\ w.rangeAt b (o + i.1 * 3) (zV t.1 t.2.1 t.2.2.1 t.2.2.2.1 t.2.2.2.2.1 t.2.2.2.2.2.1 t.2.2.2.2.2.2) /\ ak (fun b => b ≠ mb /\ some b ≠ v.ownBlock) w (av r.kids i.1) t.2.1 t.2.2.1 t.2.2.2.1 t.2.2.2.2.1 t.2.2.2.2.2.1 t.2.2.2.2.2.2 := fun i => by
  have hi : i.1 < r.kids.length := by rw [<- h.o.mlen]; exact i.2
  obtain ⟨b, o, hB⟩ := h.kids.1.place (by omega);have hp := h.kids.2 (List.ne_nil_of_length_pos (by omega)) b o hB;subst hB;obtain ⟨A', n', c', B', m', d', h1, h2⟩ := h.kids.1.kid hi;exact ⟨((av r.kids i.1).kind, A', n', c', B', m', d'), b, o, rfl, hp, rfl, h1, h2⟩
 obtain ⟨fk, hfk⟩ := Classical.axiomOfChoice hch;have HFK := Lh hfk;have dQ := LH (ae (((w.alloc (.cells #[.pointer (pt mb)] 107)).alloc (zC K A n c B m d)).alloc (.cells #[.int .i64 (t2 : Int)] 3)) w.heap.size [.pointer (pt mb)] 107 /\ ae (((w.alloc (.cells #[.pointer (pt mb)] 107)).alloc (zC K A n c B m d)).alloc (.cells #[.int .i64 (t2 : Int)] 3)) (w.heap.size + 1) (zV K A n c B m d) 25 /\ ae (((w.alloc (.cells #[.pointer (pt mb)] 107)).alloc (zC K A n c B m d)).alloc (.cells #[.int .i64 (t2 : Int)] 3)) (w.heap.size + 1 + 1) [.int .i64 (t2 : Int)] 3 /\ Bw w (((w.alloc (.cells #[.pointer (pt mb)] 107)).alloc (zC K A n c B m d)).alloc (.cells #[.int .i64 (t2 : Int)] 3))) ⟨((ae.at w [.pointer (pt mb)] _ 107 _ rfl rfl).alloc _).alloc _, (ae.at (w.alloc (.cells #[.pointer (pt mb)] 107)) (zV K A n c B m d) _ 25 _ rfl (by simp)).alloc _, ae.at ((w.alloc (.cells #[.pointer (pt mb)] 107)).alloc (zC K A n c B m d)) [.int .i64 (t2 : Int)] _ 3 _ rfl (by simp), aF (aF (ai _ _) _) _⟩;have jG := LH (mb < w.heap.size /\ ∀ g, v.ownBlock = some g -> mb < g /\ g < w.heap.size) hM.lt;have HMW := Lh hM;have k3 : K = 3 := hK.trans hk;have pJ : (K == 1) = false := bF (by omega);have sF : (K == 2) = false := bF (by omega);have uG : (K == 3) = true := bT (by omega);have BF : (((w.alloc (.cells #[.pointer (pt mb)] 107)).alloc (zC K A n c B m d)).alloc (.cells #[.int .i64 (t2 : Int)] 3)).cell? ⟨(w.heap.size + 1), 0, none⟩ = some (.int .i64 K) := dQ.out.2.1.cell (j := 0) rfl;have wO : (((w.alloc (.cells #[.pointer (pt mb)] 107)).alloc (zC K A n c B m d)).alloc (.cells #[.int .i64 (t2 : Int)] 3)).cell? ⟨(w.heap.size + 1), 2, none⟩ = some (.slice B m d) := dQ.out.2.1.cell (j := 2) rfl
 have HL := LH (aN M t2 r = eT M t2 r.kids) (by rw [qf, if_neg (by omega), if_neg (by omega), if_pos hk]);have HBND := LH (∀ y ∈ r.kids, ∀ ml pl : Nat, pl < m -> (ml : Int) <= M.length + (pl : Int) * (aj r.kids + 1 - (m : Int)) -> (ml : Int) + lZ y <= 1000000000) fun y hy ml pl hpl mP => by
  have h1 := I7 hy;have h2 := fP r;have h3 := fQ y;have h4 := mW r.kids;rw [<- h.o.mlen] at h1 h4;obtain ⟨CC, hCC⟩ : ∃ C : Int, C = aj r.kids + 1 - (m : Int) := ⟨_, rfl⟩;rw [<- hCC] at mP;have h5 : (pl : Int) * CC <= ((m : Int) - 1) * CC := Int.mul_le_mul_of_nonneg_right (by omega) (by omega);have h6 : az y * az y <= CC * CC := Int.mul_le_mul (by omega) (by omega) (by omega) (by omega);have h7 : ((m : Int) - 1) * CC + CC * CC = ((m : Int) - 1 + CC) * CC := (Int.add_mul _ _ _).symm;have h8 : ((m : Int) - 1 + CC) * CC <= az r * az r := Int.mul_le_mul (by omega) (by omega) (by omega) (by omega);have h9 : lZ y = az y * az y := rfl;have h10 : lZ r = az r * az r := rfl;omega
 clear h hK hk hq hM ht hc hv ih hch hfk k3;refine (callsIn_wide (n := 6)).1 ?_;have hro : Fence.wide.round = none := rfl;refine callsIn_of_wp_marks Tryz.func60 rfl trivial ?_ hro;simp only [Tryz.ntmps60, List.size_toArray, List.length_cons, List.length_nil, Nat.reduceAdd, Nat.reduceSub, Array.replicate_succ, Array.replicate_zero, List.push_toArray, List.append_toArray, List.nil_append, List.cons_append]
 gi_wp2_with (refine ⟨trivial, ?_⟩; gi_at_call 92; refine (Tt Fence.wide _ trivial rfl B m d _).mono ?_; rintro e w' ⟨rfl, rfl⟩)
 obtain ⟨W4, BA⟩ := eX ((((w.alloc (.cells #[.pointer (pt mb)] 107)).alloc (zC K A n c B m d)).alloc (.cells #[.int .i64 (t2 : Int)] 3)).alloc (.cells #[.slice B m d] 23));have nO := LH (W4 = ((((w.alloc (.cells #[.pointer (pt mb)] 107)).alloc (zC K A n c B m d)).alloc (.cells #[.int .i64 (t2 : Int)] 3)).alloc (.cells #[.slice B m d] 23)) /\ W4.heap.size = ((w.heap.size + 1 + 1) + 1) + 1 /\ Below (((w.alloc (.cells #[.pointer (pt mb)] 107)).alloc (zC K A n c B m d)).alloc (.cells #[.int .i64 (t2 : Int)] 3)).heap.size (((w.alloc (.cells #[.pointer (pt mb)] 107)).alloc (zC K A n c B m d)).alloc (.cells #[.int .i64 (t2 : Int)] 3)) W4 /\ ae W4 ((w.heap.size + 1 + 1) + 1) [.slice B m d] 23 /\ ae W4 (w.heap.size + 1 + 1) [.int .i64 (t2 : Int)] 3 /\ ae W4 w.heap.size [.pointer (pt mb)] 107 /\ Bw w W4) (by
  subst BA;exact ⟨rfl, by simp, ai _ _, ae.at (((w.alloc (.cells #[.pointer (pt mb)] 107)).alloc (zC K A n c B m d)).alloc (.cells #[.int .i64 (t2 : Int)] 3)) _ _ 23 _ rfl (by simp), dQ.out.2.2.1.alloc _, dQ.out.1.alloc _, aF dQ.out.2.2.2 _⟩)
 rw [<- BA];clear BA;have xm := LH (∀ W, Kl mb v (w.heap.size + 1 + 1) W4.heap.size W4 W -> W.cell? ⟨((w.heap.size + 1 + 1) + 1), 0, none⟩ = some (.slice B m d) /\ W.cell? ⟨w.heap.size, 0, none⟩ = some (.pointer (pt mb)) /\ ∀ i : Fin m, ∃ b o, B = some ⟨b, o, none⟩ /\ W.rangeAt b (o + i.1 * 3) [.int .i64 (fk i).1, .slice (fk i).2.1 (fk i).2.2.1 (fk i).2.2.2.1, .slice (fk i).2.2.2.2.1 (fk i).2.2.2.2.2.1 (fk i).2.2.2.2.2.2]) fun W hW => by
  have hlt := jG.out;have hsz := nO.out.2.1;have hown : ∀ b, w.heap.size <= b -> some b ≠ v.ownBlock := fun b hb e => by have := (hlt.2 b e.symm).2; omega
  refine ⟨(World.cell?_of_block (hW ((w.heap.size + 1 + 1) + 1) (by omega) (by omega) (hown _ (by omega)) (by omega))).trans (nO.out.2.2.2.1.cell (j := 0) rfl), (World.cell?_of_block (hW w.heap.size (by omega) (by omega) (hown _ (by omega)) (by omega))).trans (nO.out.2.2.2.2.2.1.cell (j := 0) rfl), fun i => ?_⟩;obtain ⟨b, o, hB, hp, _, h1, _⟩ := HFK.out i;refine ⟨b, o, hB, fun j u hu => ?_⟩;have h2 := h1 j u hu;have h3 : b < w.heap.size := World.block_lt_of_cell? w _ h2;exact (World.cell?_of_block (hW b (by omega) hp.1 hp.2 (by omega))).trans ((nO.out.2.2.2.2.2.2.cell (p := ⟨b, _, none⟩) h3).trans h2)
 have HI0 := LH (∃ v1, bZ (fun b => q b /\ b ≠ (w.heap.size + 1 + 1)) mb v1 (kv r.kids (M, t2) ([] : List (Fin m))).1 W4 /\ ae W4 (w.heap.size + 1 + 1) [.int .i64 ((kv r.kids (M, t2) ([] : List (Fin m))).2 : Int)] 3 /\ Ko mb v (w.heap.size + 1 + 1) W4 W4 /\ Nw W4 v v1) ⟨v, (HMW.out.mono (q2 := fun b => q b /\ b ≠ (w.heap.size + 1 + 1)) (fun b hb hl => ⟨hb, by omega⟩)).below nO.out.2.2.2.2.2.2, nO.out.2.2.2.2.1, ⟨rfl, rfl, rfl, Nat.le_refl _, fun _ _ _ _ _ => rfl⟩, Nw.refl _ _⟩;refine wpIn_rangeFunc_ownH (α := Fin m) hro (by omega) (gf := 126) (lb := #[.pointer (some ⟨((w.heap.size + 1 + 1) + 1), 0, none⟩)]) rfl trivial (enters_of Tryz.func126 (by kernel_rfl) rfl)
  (Ti Fence.wide _ trivial rfl (by omega) ((w.heap.size + 1 + 1) + 1) B m d (by omega) (fun x => .agg #[.int .i64 (fk x).1, .slice (fk x).2.1 (fk x).2.2.1 (fk x).2.2.2.1, .slice (fk x).2.2.2.2.1 (fk x).2.2.2.2.2.1 (fk x).2.2.2.2.2.2]) (Kl mb v (w.heap.size + 1 + 1) W4.heap.size) (Kl mb v (w.heap.size + 1 + 1) W4.heap.size W4) W4 (fun W hW k hk _ _ _ => hW.block k hk) (fun W W' h1 h2 k hk a b c => (h2 k hk a b c).trans (h1 k hk a b c)) (fun W hW => ⟨(xm.out W hW).1, fun i => by
    obtain ⟨b, o, hB, h1⟩ := (xm.out W hW).2.2 i;exact ⟨b, o, _, _, _, _, _, _, _, hB, rfl, h1 0 _ rfl, h1 1 _ rfl, h1 2 _ rfl⟩⟩))
  (fun h1 h2 k hk a b c => (h2 k hk a b c).trans (h1 k hk a b c)) (fun W l o o' hl h _ _ k hk _ _ _ => World.putObj_heap_other (by omega)) (Below.refl _ _) (fun _ => rfl)
  (fun pre W => (∃ v1, bZ (fun b => q b /\ b ≠ (w.heap.size + 1 + 1)) mb v1 (kv r.kids (M, t2) pre).1 W /\ ae W (w.heap.size + 1 + 1) [.int .i64 ((kv r.kids (M, t2) pre).2 : Int)] 3 /\ Ko mb v (w.heap.size + 1 + 1) W4 W /\ Nw W4 v v1))
  (fun _ _ _ => False)
  (fun pre W W' row hI hg hr => by
    obtain ⟨v1, h1, h2, h3, h4⟩ := hI;have hr2 : ∀ r, row = some r -> ∃ o : Obj, W.heap[r]? = some o /\ o.isCells = false := fun r e => (hr r e).2
    exact ⟨v1, h1.turn hg hr2, ND h2 hg hr2, ⟨hg.os.trans h3.os, hg.tape.trans h3.tape, hg.output.trans h3.output, Nat.le_trans h3.size hg.size, fun k hk a b c => (hg.block k (Nat.lt_of_lt_of_le hk h3.size) (fun e => by have := (hr k e.symm).1; omega)).trans (h3.block k hk a b c)⟩, h4⟩)
  (fun _ _ _ _ _ hs _ _ => hs)
  HI0.out
  (AxS W4.heap.size fk fun Bx x => { tmps := #[.pointer (pt mb), .agg #[.int .i64 K, .slice A n c, .slice B m d], .int .i64 (t2 : Int), .pointer (pt w.heap.size), .pointer (pt (w.heap.size + 1)), .pointer (pt (w.heap.size + 1 + 1)), .int .i64 0, undef, .pointer (pt Bx), undef, undef, undef, undef, undef, .pointer (pt (w.heap.size + 1)), .int .i64 K, .bool false, .bool false, undef, .bool false, .bool false, undef, undef, undef, undef, undef, undef, undef, .bool true, .bool true, .pointer (some ⟨w.heap.size + 1, 2, none⟩), .slice B m d, .func (.func 126) #[] #[.pointer (some ⟨(w.heap.size + 1 + 1) + 1, 0, none⟩)], .int .i64 (x.1 : Int), .agg #[.int .i64 (fk x).1, .slice (fk x).2.1 (fk x).2.2.1 (fk x).2.2.2.1, .slice (fk x).2.2.2.2.1 (fk x).2.2.2.2.2.1 (fk x).2.2.2.2.2.2], undef, undef, undef, undef, undef, undef, undef, undef, undef, undef, undef, undef, undef, undef, undef, undef, undef, undef, undef, undef, undef, undef, undef, undef, undef, undef, undef, undef, undef, undef, undef, undef, undef, undef, undef, undef, undef, undef, undef, undef, undef, undef, undef, undef, undef, undef, undef, undef, undef, undef, undef, undef, undef, undef, undef, undef, undef, undef, undef, undef, undef, undef, undef, undef], defers := [] })
  (fun x a' _ X Y row hs hg hr => by
    obtain ⟨Bx, h1, h2, h3⟩ := hs;exact ⟨Bx, h1, ND h2 hg (fun r e => (hr r e).2), h3⟩)
  ?assign ?body ?done ?stop
 case assign =>
  rintro l pre x W KK ⟨v1, h1, h2, h3, h4⟩ hK
  gi_wp2
  exact hK _ _ ((KeepsOthers.alloc _ _).from _) (fun k hk _ _ _ => heap_alloc_old W _ (Nat.lt_of_lt_of_le hk h3.size)) ⟨v1, h1.below (ai _ _), h2.alloc _, ⟨h3.os, h3.tape, h3.output, by rw [World.size_alloc]; exact Nat.le_succ_of_le h3.size, fun k hk a b c => (heap_alloc_old W _ (Nat.lt_of_lt_of_le hk h3.size)).trans (h3.block k hk a b c)⟩, h4⟩ ⟨W.heap.size, h3.size, ae.at W _ _ 25 _ rfl rfl, rfl⟩
 case body =>
  rintro l pre x a' W hl0 _ ⟨v1, h1, h2, h3, h4⟩ ⟨Bx, hBx, mq, rfl⟩ hlen;have hlt := jG.out;have hsz := nO.out.2.1;have BA := h3.size;have hG5 : (w.heap.size + 1 + 1) < W.heap.size := h2.lt;have hcb0 := mq.cell (j := 0) rfl;have O1 := mq.cell (j := 1) rfl;have hcb2 := mq.cell (j := 2) rfl;have ze := h2.cell (j := 0) rfl;have hKL : Kl mb v (w.heap.size + 1 + 1) W4.heap.size W4 W := fun k hk a b c => h3.block k hk a b c
  have hcp := (xm.out W hKL).2.1;obtain ⟨b, o, hB, hpb, Eb, _, bO⟩ := HFK.out x;have Es : x.1 < r.kids.length := by rw [<- HX.out.1.o.mlen]; exact x.2
  obtain ⟨y, hy⟩ := eX (av r.kids x.1);obtain ⟨M1, Ba⟩ := eX ((kv r.kids (M, t2) pre).1);obtain ⟨t1, EC⟩ := eX ((kv r.kids (M, t2) pre).2);rw [<- EC] at ze h2;rw [<- Ba] at h1;rw [<- hy] at bO Eb;have oG : ak (fun b => b ≠ mb /\ some b ≠ v1.ownBlock) W y (fk x).2.1 (fk x).2.2.1 (fk x).2.2.2.1 (fk x).2.2.2.2.1 (fk x).2.2.2.2.2.1 (fk x).2.2.2.2.2.2 := by
    have h5 := bO.lt7.keep (W := W) fun bb oo hp => (World.cell?_of_block ((hKL bb (by omega) hp.1.1 hp.1.2 (by omega)).trans (nO.out.2.2.2.2.2.2.block bb hp.2)))
    refine h5.mono fun bb hp => ⟨hp.1.1, fun e => ?_⟩
    rcases h4 with hn | ⟨g, hg, hgl⟩
    ·exact hp.1.2 (e.trans hn)
    ·rw [hg] at e; have e := Option.some.inj e; omega
  have Pe : Cz 60 #[.pointer (pt mb), .agg #[.int .i64 (fk x).1, .slice (fk x).2.1 (fk x).2.2.1 (fk x).2.2.2.1, .slice (fk x).2.2.2.2.1 (fk x).2.2.2.2.2.1 (fk x).2.2.2.2.2.2], .int .i64 (t1 : Int)] W (jV (fun b => q b /\ b ≠ (w.heap.size + 1 + 1)) mb v1 (aN M1 t1 y).1 (aN M1 t1 y).2 W) := by
    refine Gu (dH.out y (by rw [hy]; exact gU Es)) Eb (fun bb hb => ⟨HQ.out bb (by omega), by omega⟩) h1 (by rw [Ba, EC]; exact UZ _ M t2 HT.out pre) ?_ oG;have h5 := WE r.kids HX.out.1.o.mlen M t2 pre;rw [<- Ba] at h5;exact HBND.out y (by rw [hy]; exact gU Es) M1.length pre.length hlen h5
  have yK := Lh Pe;have rX := LH (∀ w7 v7 (t7 : Nat), bZ (fun b => q b /\ b ≠ (w.heap.size + 1 + 1)) mb v7 (aN M1 t1 y).1 w7 -> Kp mb v1 W w7 -> Nw W v1 v7 -> t7 = (aN M1 t1 y).2 -> ae w7 (w.heap.size + 1 + 1) [.int .i64 (t1 : Int)] 3 /\ ownPostG W4.heap.size (Kl mb v (w.heap.size + 1 + 1) W4.heap.size) (fun pre W => (∃ v1, bZ (fun b => q b /\ b ≠ (w.heap.size + 1 + 1)) mb v1 (kv r.kids (M, t2) pre).1 W /\ ae W (w.heap.size + 1 + 1) [.int .i64 ((kv r.kids (M, t2) pre).2 : Int)] 3 /\ Ko mb v (w.heap.size + 1 + 1) W4 W /\ Nw W4 v v1)) (fun _ _ _ => False) (pre ++ [x]) W .normal { tmps := #[], defers := [] } (w7.setCell ⟨(w.heap.size + 1 + 1), 0, none⟩ (.int .i64 (t7 : Int)))) fun w7 v7 t7 g1 g2 g3 g4 => by
    have jf : ae w7 (w.heap.size + 1 + 1) [.int .i64 (t1 : Int)] 3 := g2.blk h2 (by omega) (fun e => h4.ne (by omega) (fun e => by have := (hlt.2 _ e).2; omega) e.symm);have hst := aT.of_setCell jf 0 (.int .i64 (t7 : Int));have hgr := dG hst;have hkp : ∀ k, k < W4.heap.size -> k ≠ mb -> some k ≠ v.ownBlock -> k ≠ (w.heap.size + 1 + 1) -> (w7.setCell ⟨(w.heap.size + 1 + 1), 0, none⟩ (.int .i64 (t7 : Int))).heap[k]? = W.heap[k]? := fun k hk a b c => (hst.2.1 k c).trans (g2.block k (by omega) a (fun e => by
     rcases h4 with hn | ⟨g, hg, hgl⟩
     ·exact b (e.trans hn)
     ·rw [hg] at e; have e := Option.some.inj e; omega))
    refine ⟨jf, ⟨by rw [hst.2.2.1]; exact g2.size, fun k ob hk hob hoc => ?_⟩, hkp, v7, ?_, ?_, ⟨hst.2.2.2.1.trans (g2.os.trans h3.os), hst.2.2.2.2.1.trans (g2.tape.trans h3.tape), hst.2.2.2.2.2.trans (g2.output.trans h3.output), by rw [hst.2.2.1]; exact Nat.le_trans BA g2.size, fun k hk a b c => (hkp k hk a b c).trans (h3.block k hk a b c)⟩, h4.tr BA g3⟩
    ·have lh : k < W.heap.size := (Array.getElem?_eq_some_iff.1 hob).1;exact (hst.2.1 k (by omega)).trans ((g2.block k lh (by omega) (fun e => by
      obtain ⟨o2, vJ, hc2⟩ := h1.rowc e.symm;rw [hob] at vJ; cases vJ; rw [hoc] at hc2; cases hc2)).trans hob)
    ·rw [Gi, <- Ba, <- EC, <- hy];exact g1.grown hgr (by omega) (g3.ne hG5 (fun e => h4.ne (by omega) (fun e => by have := (hlt.2 _ e).2; omega) e)) (fun b hb => hb.2)
    ·rw [Gi, <- Ba, <- EC, <- hy, <- g4];exact hst.1
  clear h1 h2 h3 h4 bO oG Pe mq hKL Ba EC hy hB Eb hpb
  gi_wp2_with (refine ⟨trivial, ?_⟩; gi_at_call 60; refine (CallsIn.inRound l (callsIn_wide.2 yK.out)).mono ?_; rintro e w7 hp; obtain ⟨v7, rfl, g1, g2, g3⟩ := sS hp; obtain ⟨t7, uW⟩ := eX ((aN M1 t1 y).2); rw [<- uW]; have HP7 := Lh (rX.out w7 v7 t7 g1 g2 g3 uW); have hcc := HP7.out.1.cell (j := 0) rfl; have hff := HP7.out.1.frozen 0; clear hp g1 g2 g3 uW)
  exact HP7.out.2
 case done =>
  rintro D zs W hD rfl ⟨v1, h1, h2, h3, h4⟩ hK;have ze := h2.cell (j := 0) rfl;have hlt := jG.out;have hsz := nO.out.2.1;have lW := LH (∀ W', W' = W.putObj D (.deferred none) -> jV q mb v (aN M t2 r).1 (aN M t2 r).2 w (.returned (.int .i64 ((kv r.kids (M, t2) (o8 m)).2 : Int))) W') fun W' hW' => by
    subst hW';rw [RX r.kids M t2 HX.out.1.o.mlen] at h1 ⊢;have hgr : W.grownBy (W.putObj D (.deferred none)) (some D) := grownBy_putObj' W D _;have wQ : ∀ r, some D = some r -> ∃ o : Obj, W.heap[r]? = some o /\ o.isCells = false := fun r e => by cases e; exact ⟨_, hK, rfl⟩
    rw [HL.out];refine ⟨v1, rfl, (h1.turn hgr wQ).mono (fun b hb _ => hb.1), ⟨h3.os.trans nO.out.2.2.2.2.2.2.os, h3.tape.trans nO.out.2.2.2.2.2.2.tape, h3.output.trans nO.out.2.2.2.2.2.2.output, Nat.le_trans nO.out.2.2.2.2.2.2.size (Nat.le_trans h3.size hgr.size), fun k hk a b => (hgr.block k (by have := h3.size; omega) (fun e => by have e := Option.some.inj e; omega)).trans ((h3.block k (by omega) a b (by omega)).trans (nO.out.2.2.2.2.2.2.block k hk))⟩, h4.of nO.out.2.2.2.2.2.2.size⟩
  clear h1 h2 h3 h4
  gi_wp2
  refine ⟨by simp, .inl ⟨_, _, rfl, run_takeDeferred hK, ?_⟩⟩;refine ⟨_, results_tmp rfl _ _ _, ?_⟩;exact lW.out _ rfl
 case stop =>
  rintro D c pre W _ _ h _;exact h.elim
theorem Lc : ∀ (z : Nat) (r : Rx), SizeOf.sizeOf r <= z -> aC r = true -> qR r
 |0, r, hz, hv => by cases r; simp at hz
 |z + 1, r, hz, hv => by
  have ih : ∀ x ∈ r.kids, qR x := fun x hx => Lc z x (by have := jZ hx; omega) (jL hv x hx)
  exact Te r hv (fun hk => UR r hk hv ih) ih
end
theorem Ng {gr N : Nat} {step : Int} {M : List St} {S : List Nat} {w w' : World} {e : Ending} (h : FY gr N step M S w e w') : ∃ L A c Rk, e = .returned (.slice A L.length c) /\ gT (fun b => w.heap.size <= b) w' L A L.length c /\ zw M S L /\ L.Nodup /\ (∀ n ∈ L, n < N) /\ ae w' gr (iv Rk) 3 /\ Rk.length = N /\ (∀ n, n < N -> Rk.getD n 0 <= step) /\ w.grownBy w' (some gr) := h
theorem bZ.start (q : Nat -> Prop) (w : World) : bZ q w.heap.size (.slice none 0 0) [] (w.alloc (.cells #[.slice none 0 0] 70)) := ⟨ae.at w [.slice none 0 0] _ 70 _ rfl rfl, [], jT.nil _ _, World.ownsRow_nil _ _ _ _⟩
theorem Mr {r : Rx} {A B : Option Addr} {n c m d : Nat} {w : World} (h : aI w r A n c B m d) (yV : az r <= 30000) (l : List Int) (A2 : Option Addr) (n2 c2 : Nat) (tY : n2 = l.length) (hc2 : n2 <= c2) (lF : c2 <= 9223372036854775807) (hl9 : n2 <= 1000000000) (hL : Rd w A2 (iv l)) (V : Bool) (hV : V = true ↔ (aC r = true /\ ic r l)) : Calls Tryz.prog 28 #[.agg #[.int .i64 r.kind, .slice A n c, .slice B m d], .slice A2 n2 c2] w (aU w V) := by
 obtain ⟨K, hK⟩ := eX r.kind;rw [<- hK];have HH := LH (aI w r A n c B m d /\ K = r.kind) ⟨h, hK⟩;have hr1 : (w.alloc (zC K A n c B m d)).rangeAt w.heap.size 0 (zV K A n c B m d) := fun j v hv => by rw [Nat.zero_add]; exact kH (Below.refl _ _) j v hv
 cases hv : aC r with
 |false =>
  have HB := LH (V = false) (by
   cases V with
   |false => rfl
   |true => have := (hV.1 rfl).1; rw [hv] at this; cases this)
  have iJ := LH (Cz 14 #[.agg #[.int .i64 K, .slice A n c, .slice B m d]] (w.alloc (zC K A n c B m d)) (aU (w.alloc (zC K A n c B m d)) false)) (by rw [hK]; exact IQ (h.below (ai _ _)) false hv.symm);clear h yV hL hV hK hv;go_enter Tryz.func28, Tryz.ntmps28
  go_wp2_with (first
   |(refine aG rfl (.tmp 2) rfl w.heap.size (0) rfl K A B n c m d hr1 ?_)
   |((with_reducible refine iJ.out.mono ?_); rintro e w2 hp; obtain ⟨rfl, hb⟩ := aV hp; have H2 := LH (Bw w w2) (ah (ai _ _) hb); clear hp hb))
  go_ret;exact ⟨by have h := HB.out; subst h; rfl, H2.out⟩
 |true =>
  have iJ := LH (Cz 14 #[.agg #[.int .i64 K, .slice A n c, .slice B m d]] (w.alloc (zC K A n c B m d)) (aU (w.alloc (zC K A n c B m d)) true)) (by rw [hK]; exact IQ (h.below (ai _ _)) true hv.symm);obtain ⟨t0, yI⟩ := eX ((aN [(0, [])] 0 r).2);obtain ⟨M, hM⟩ := eX ((aN [(0, [])] 0 r).1);obtain ⟨qq, hqq⟩ : ∃ q : Nat, q = (az r).toNat + 1 := ⟨_, rfl⟩;have hcp := fQ r;have ax := Gb (q := qq) (by omega) r (Ce hv) hv (by omega) [(0, [])] 0 ⟨fun x hx n hn => (by rw [List.mem_singleton.1 hx] at hn; cases hn), fun x hx => (by rw [List.mem_singleton.1 hx]; exact Nat.zero_le _), fun x hx => (by rw [List.mem_singleton.1 hx]; decide)⟩ (by simp);have hlen := CU r [(0, [])] 0;rw [<- hM] at ax hlen;rw [<- yI] at ax;obtain ⟨N, hN⟩ := eX M.length;have wP : N <= 30001 := by simp at hlen; omega
  have HM := LH (mK qq M /\ t0 < M.length /\ N = M.length /\ qq <= 30001 /\ M = (aN [(0, [])] 0 r).1 /\ t0 = (aN [(0, [])] 0 r).2) ⟨ax.1, ax.2, hN, by omega, hM, yI⟩;have ht9 : t0 <= 1000000000 := by omega
  have HANY := LH (Any M [t0] l ↔ V = true) (by
   rw [hV, hv];have h1 := TY hv l;unfold Ck at h1;rw [<- hM, <- yI] at h1;rw [<- h1];constructor
   ·rintro ⟨s, hs, h2⟩;rw [List.mem_singleton.1 hs] at h2;exact ⟨rfl, h2⟩
   ·rintro ⟨_, h2⟩;exact ⟨t0, by simp, h2⟩)
  have HAD := LH (∀ w2, Below (w.alloc (zC K A n c B m d)).heap.size (w.alloc (zC K A n c B m d)) w2 -> Cz 59 #[.pointer (pt w2.heap.size), .int .u64 0, .slice none 0 0] (w2.alloc (.cells #[.slice none 0 0] 70)) (jV (fun _ => True) w2.heap.size (.slice none 0 0) [(0, [])] 0 (w2.alloc (.cells #[.slice none 0 0] 70)))) fun w2 hb => BQ (w2.alloc (.cells #[.slice none 0 0] 70)) (fun _ _ => trivial) (bZ.start _ w2) 0 [] none 0 0 (gy.nil _ _) (by decide)
  have HLD := LH (∀ w2 w4 v4, Below (w.alloc (zC K A n c B m d)).heap.size (w.alloc (zC K A n c B m d)) w2 -> bZ (fun _ => True) w2.heap.size v4 [(0, [])] w4 -> Kp w2.heap.size (.slice none 0 0) (w2.alloc (.cells #[.slice none 0 0] 70)) w4 -> Nw (w2.alloc (.cells #[.slice none 0 0] 70)) (.slice none 0 0) v4 -> w4.rangeAt w.heap.size 0 (zV K A n c B m d) /\ Cz 60 #[.pointer (pt w2.heap.size), .agg #[.int .i64 K, .slice A n c, .slice B m d], .int .i64 0] w4 (jV (fun _ => True) w2.heap.size v4 M t0 w4)) fun w2 w4 v4 hb hm hk hn => by
   have hs := hb.size;have hs1 : (w.alloc (zC K A n c B m d)).heap.size = w.heap.size + 1 := by simp
   have hne : ∀ b, b < w2.heap.size -> b ≠ w2.heap.size /\ some b ≠ v4.ownBlock := fun b hb => ⟨by omega, fun e => by
    rcases hn with h | ⟨g, hg, hl⟩
    · rw [h] at e; cases e
    · rw [hg] at e; have := Option.some.inj e; simp at hl; omega⟩
   have hcell : ∀ b o, b < w2.heap.size -> w4.cell? ⟨b, o, none⟩ = w2.cell? ⟨b, o, none⟩ := fun b o hlt => (hk.cell (b := b) (o := o) (by simp; omega) (by omega) (by intro e; cases e)).trans (World.cell?_of_block (heap_alloc_old w2 _ hlt))
   refine ⟨fun j u hu => ?_, ?_⟩
   ·have h1 := hr1 j u hu;exact (hcell _ _ (by omega)).trans ((hb.cell (p := ⟨w.heap.size, 0 + j, none⟩) (by simp)).trans h1)
   ·rw [hM, yI];have h2 : (([(0, [])] : List St).length : Int) + lZ r <= 1000000000 := by
      have h3 : lZ r <= 30000 * 30000 := Int.mul_le_mul yV yV (by omega) (by omega);simp; omega
    exact Gu (t2 := 0) (Lc _ r (Nat.le_refl _) hv) hK (fun _ _ => trivial) hm (by simp) h2 ((h.toP.keep (W := w4) fun b o hp => (hcell b o (by omega)).trans ((hb.cell (p := ⟨b, o, none⟩) (by simp; omega)).trans ((ai w _).cell (p := ⟨b, o, none⟩) hp))).mono fun b hp => hne b (by omega))
  have JW : M ≠ [] := List.ne_nil_of_length_pos (by omega);have wE := fun W => NR N (by omega) W
  obtain ⟨Z, hZ⟩ := eX ((iv (List.replicate N 0)).toArray);rw [<- hZ] at wE;have HZ := Lh hZ;have HL := LH (∀ W, (∀ b o, b < w.heap.size -> W.cell? ⟨b, o, none⟩ = w.cell? ⟨b, o, none⟩) -> Rd W A2 (iv l)) fun W hk => by
   by_cases hl : l = []
   ·subst hl; exact .inl rfl
   ·obtain ⟨b, o, e, hc⟩ := hL.open (by intro e; apply hl; cases l with | nil => rfl | cons x t => simp [iv] at e);exact .inr ⟨b, o, e, fun k v hv => (hk b _ (by cases l with | nil => exact absurd rfl hl | cons x t => exact World.block_lt_of_cell? w _ (hc 0 _ rfl))).trans (hc k v hv)⟩
  have HN2 := LH (n2 = l.length) tY;have HNE := Lh JW;have tF := LH (N = M.length /\ 0 < N) ⟨hN, by omega⟩;have HW5 := LH (∀ w2 w4 w5 v4 v5, Below (w.alloc (zC K A n c B m d)).heap.size (w.alloc (zC K A n c B m d)) w2 -> Kp w2.heap.size (.slice none 0 0) (w2.alloc (.cells #[.slice none 0 0] 70)) w4 -> Nw (w2.alloc (.cells #[.slice none 0 0] 70)) (.slice none 0 0) v4 -> Kp w2.heap.size v4 w4 w5 -> bZ (fun _ => True) w2.heap.size v5 M w5 -> Nw w4 v4 v5 -> ∃ g dm, v5 = .slice (pt g) N dm /\ N <= dm /\ dm <= 9223372036854775807 /\ (w5.alloc (.cells #[.int .i64 (t0 : Int)] 3)).cell? ⟨w2.heap.size, 0, none⟩ = some v5 /\ Bw w w5 /\ bZ (fun b => b < w5.heap.size) w2.heap.size v5 M ((w5.alloc (.cells #[.int .i64 (t0 : Int)] 3)).alloc (.cells Z 3)) /\ w2.heap.size < w5.heap.size /\ g < w5.heap.size) fun w2 w4 w5 v4 v5 hb hk hn hk2 hm tY => by
   obtain ⟨g, dm, e, h1, h2, h3, h4⟩ := hm.place JW;rw [<- hN] at e h3;have hs := hb.size;have hs1 : (w.alloc (zC K A n c B m d)).heap.size = w.heap.size + 1 := by simp
   have Dy := hk.size;have hs5 := hk2.size;simp at Dy;have hb2 : Bw w w2 := ah (ai _ _) hb;have hb4 : Bw w w4 := ⟨hk.os.trans hb2.os, hk.tape.trans hb2.tape, hk.output.trans hb2.output, by omega, fun k kF => (hk.block k (by simp; omega) (by omega) (by intro e; cases e)).trans ((heap_alloc_old w2 _ (by omega)).trans (hb2.block k kF))⟩;have bq : Bw w w5 := ⟨hk2.os.trans hb4.os, hk2.tape.trans hb4.tape, hk2.output.trans hb4.output, by omega, fun k kF => (hk2.block k (by omega) (by omega) (fun e => by
    rcases hn with h | ⟨g, hg, hl⟩
    · rw [h] at e; cases e
    · rw [hg] at e; have := Option.some.inj e; simp at hl; omega)).trans (hb4.block k kF)⟩
   refine ⟨g, dm, e, h3, by unfold maxLen at h4; exact h4, ((ai w5 _).cell (p := ⟨w2.heap.size, 0, none⟩) hm.box.lt).trans (hm.box.cell (j := 0) rfl), bq, ?_, hm.box.lt, h2⟩;exact (hm.mono (q2 := fun b => b < w5.heap.size) fun b _ hb => hb).below (aF (ai _ _) _)
  clear h yV hL hV hK hv yI hM hqq hcp ax hlen hN JW hZ hr1 tY;have hr1 : (w.alloc (zC K A n c B m d)).rangeAt w.heap.size 0 (zV K A n c B m d) := fun j v hv => by rw [Nat.zero_add]; exact kH (Below.refl _ _) j v hv
  go_enter Tryz.func28, Tryz.ntmps28
  go_upto_region 7 with (first
   |(refine aG rfl (.tmp 2) rfl w.heap.size (0) rfl K A B n c m d hr1 ?_)
   |(refine aG rfl (.tmp 2) rfl w.heap.size (0) rfl K A B n c m d hr4 ?_)
   |((with_reducible refine iJ.out.mono ?_); rintro e w2 hp; obtain ⟨rfl, hb⟩ := aV hp; have H2 := Lh hb; clear hp hb)
   |((with_reducible refine (HAD.out w2 H2.out).mono ?_); rintro e w4 hp; obtain ⟨v4, rfl, h1, h2, h3⟩ := sS hp; have H4 := Lh (And.intro h1 (And.intro h2 h3)); clear hp h1 h2 h3; have hr4 := (HLD.out w2 w4 v4 H2.out H4.out.1 H4.out.2.1 H4.out.2.2).1; have HL4 := Lh (HLD.out w2 w4 v4 H2.out H4.out.1 H4.out.2.1 H4.out.2.2).2)
   |((with_reducible refine HL4.out.mono ?_); rintro e w5 hp; obtain ⟨v5, rfl, h1, h2, h3⟩ := sS hp; obtain ⟨g, dm, D9, kD, wV, hcm, h5⟩ := HW5.out w2 w4 w5 v4 v5 H2.out H4.out.2.1 H4.out.2.2 h2 h1 h3; subst D9; have H5 := Lh h5; clear hp h1 h2 h3 h5))
  obtain ⟨mb, AQ⟩ := eX w2.heap.size;obtain ⟨gr, hgr⟩ := eX (w5.heap.size + 1);obtain ⟨x7, ou⟩ := eX ((w5.alloc (.cells #[.int .i64 (t0 : Int)] 3)).alloc (.cells Z 3));have H7 := LH (bZ (fun b => b < gr) mb (.slice (pt g) N dm) M x7 /\ ae x7 gr (iv (List.replicate N 0)) 3 /\ gT (fun b => b ≠ gr) x7 [t0] (pt w5.heap.size) 1 1 /\ Bw w x7 /\ mb < gr /\ g < gr /\ w.heap.size <= gr) (by
   have h := H5.out;refine ⟨?_, ?_, ?_, ?_, by omega, by omega, by have := h.1.size; omega⟩
   ·rw [ou, AQ];exact h.2.1.mono fun b hb _ => by omega
   ·rw [ou, hgr];exact ae.at (w5.alloc (.cells #[.int .i64 (t0 : Int)] 3)) (iv (List.replicate N 0)) Z 3 _ HZ.out (by simp)
   ·rw [ou];exact (gy.of_blk (l := [t0]) (p := fun b => b ≠ gr) ((ae.at w5 (iv (nl [t0])) _ 3 _ rfl rfl).alloc _) (by simp) (by omega)).toL
   ·rw [ou];exact aF (aF h.1 _) _)
  clear wE hcm hr1 hr4 iJ HAD HLD HL4 HW5 H4 H5;obtain ⟨ns, kC⟩ := eX w5.heap.size;rw [<- ou, <- AQ, <- hgr, <- kC];rw [<- kC] at H7;clear ou AQ hgr kC;have GQ := LH (∀ W, x7.grownBy W (some gr) -> Bw w W) fun W hg => eH H7.out.2.2.2.1 (row := some gr) hg (fun g hg => by have := Option.some.inj hg; have := H7.out.2.2.2.2.2.2; omega)
  have HMW := LH (∀ W, x7.grownBy W (some gr) -> bZ (fun b => b < gr) mb (.slice (pt g) N dm) M W) fun W hg => H7.out.1.grown hg (by have := H7.out.2.2.2.2; omega) (fun e => by have h1 : g = gr := Option.some.inj e; have := H7.out.2.2.2.2; omega) (fun b hb e => by omega)
  have xe := LH (∀ (S : List Nat) (Rk : List Int) (i : Nat) A0 n0 c0 W, i <= 1000000000 -> x7.grownBy W (some gr) -> gT (fun b => b ≠ gr) W S A0 n0 c0 -> (∀ k ∈ S, k < N) -> ae W gr (iv Rk) 3 -> Rk.length = N -> (∀ k, k < N -> Rk.getD k 0 <= (i : Int)) -> Cz 62 #[.pointer (pt mb), .slice A0 n0 c0, .slice (pt gr) N N, .int .i64 ((i : Int) + 1)] W (FY gr N ((i : Int) + 1) M S W)) fun S Rk i A0 n0 c0 W hi hg hS hlt hR hRl Di => by
   have h7 := H7.out;exact VG _ mb gr N _ M S Rk _ (by omega) A0 n0 c0 W tF.out.1 (by have := tF.out; omega) (HMW.out W hg) (fun b hb => by omega) ⟨by omega, fun e => by have h1 : g = gr := Option.some.inj e; omega⟩ HM.out.1.nx HM.out.1.bit hS hlt hR hRl (fun k hk => by have := Di k hk; omega)
  have rU := LH (∀ (L : List Nat) A0 c0 x W W0, x7.grownBy W (some gr) -> gT (fun b => W0 <= b) W L A0 L.length c0 -> L.Nodup -> (∀ k ∈ L, k < N) -> Cz 61 #[.pointer (pt mb), .slice A0 L.length c0, .int .i64 x] W (xQ M x L qq W)) fun L A0 c0 x W W0 hg hL AO hlt => by
   refine RB _ mb _ M L A0 L.length c0 qq x W (HMW.out W hg) (by have := tF.out; omega) HM.out.1.nx HM.out.1.few HM.out.1.bit (hL.lt.mono fun b hb => hb.2) (fun k hk => by rw [<- tF.out.1]; exact hlt k hk) ?_;have h1 := FZ N L AO hlt;have h2 : L.length * qq <= 30001 * 30001 := Nat.mul_le_mul (by omega) HM.out.2.2.2.1;omega
  go_wp2_with fail
  go_loopg [7, 25] n2 (fun gq s7 Ea wr => ∃ (i : Nat) (now : List Nat) (A0 : Option Addr) (n0 c0 : Nat), i + gq = n2 /\ Ea = .int .i64 (i : Int) /\ s7 = .slice A0 n0 c0 /\ Hid (∃ Rk, gT (fun b => b ≠ gr) wr now A0 n0 c0 /\ (∀ k ∈ now, k < N) /\ now ≠ [] /\ ae wr gr (iv Rk) 3 /\ Rk.length = N /\ (∀ k, k < N -> Rk.getD k 0 <= (i : Int)) /\ x7.grownBy wr (some gr) /\ (Any M now (l.drop i) ↔ V = true)))
  case atStart =>
   refine ⟨0, [t0], _, _, _, by omega, rfl, rfl, Lh ⟨_, H7.out.2.2.1, fun k hk => ?_, by simp, H7.out.2.1, by simp, fun k hk => ?_, World.grownBy.refl _ _, HANY.out⟩⟩
   ·rw [List.mem_singleton.1 hk, tF.out.1]; exact HM.out.2.1
   ·simp [List.getD, hk]
  case round =>
   obtain ⟨i, now, A0, n0, c0, hi, rfl, rfl, HI⟩ := hrel;obtain ⟨Rk, h1, h2, h3, h4, h5, h6, h7, h8⟩ := HI.out;have hi9 : i <= 1000000000 := by omega
   have HSC := Lh (xe.out now Rk i A0 n0 c0 wr hi9 h7 h1 h2 h4 h5 h6);have HJ := Lh h8;have H77 := Lh h7;have HNW := Lh h3;clear h1 h2 h3 h4 h5 h6 h8 HI;have qC := HL.out wr (fun b o hb => (GQ.out wr h7).cell (p := ⟨b, o, none⟩) hb);clear h7
   by_cases hlt : i < n2
   ·obtain ⟨gg, rfl⟩ : ∃ g, gk = g + 1 := ⟨gk - 1, by omega⟩;have aH : i < l.length := by rw [<- HN2.out]; exact hlt
    obtain ⟨b, o, rfl, hcs⟩ := qC.open (by intro e; have := congrArg List.length e; simp [iv] at this; rw [this] at aH; simp at aH);obtain ⟨x, hx⟩ := eX (l[i]);have bS : wr.cell? ⟨b, o + i, none⟩ = some (.int .i64 x) := by rw [hx]; exact hcs i _ (by simp [iv, aH])
    have HDR := LH (l.drop i = x :: l.drop (i + 1)) (by rw [hx]; exact List.drop_eq_getElem_cons aH);clear hx hcs qC aH
    go_upto_region 11 with (first
      |((with_reducible refine HSC.out.mono ?_); rintro e w6 hp; obtain ⟨L6, A6, c6, Rk6, rfl, h1, h2, h3, h4, h5, h6, h7, h8⟩ := Ng hp; have H6 := Lh (And.intro h2 (And.intro h5 (And.intro h6 (And.intro h7 (H77.out.trans h8))))); have HRC := Lh (rU.out L6 A6 c6 x w6 _ (H77.out.trans h8) h1 h3 h4); clear hp h1 h2 h3 h4 h5 h6 h7 h8)
      |((with_reducible refine HRC.out.mono ?_); rintro e w8 hp; obtain ⟨R8, A8, n8, c8, rfl, h1, h2, h3, h4, h5⟩ := QP hp; have hn8 := h1.len; subst hn8; have H8 := Lh (And.intro h1 (And.intro h2 (And.intro h3 h5))); clear hp h1 h2 h3 h4 h5))
    have uU := LH (Any M R8 (l.drop (i + 1)) ↔ V = true) (by
      have h1 := HJ.out;rw [HDR.out, any_cons H6.out.1 H8.out.2.1] at h1;exact h1)
    by_cases hR : R8 = []
    · have HF := LH (V = false) (by
       cases V with
       | false => rfl
       | true => have h1 := uU.out.2 rfl; rw [hR] at h1; exact absurd h1 RI)
      have AZ : R8.length = 0 := by rw [hR]; rfl
      have uB := LH (Bw w w8) ((GQ.out w6 H6.out.2.2.2.2).trans (H8.out.2.2.2.mono (GQ.out w6 H6.out.2.2.2.2).size));obtain ⟨nr, Ah⟩ := eX R8.length;rw [<- Ah] at AZ ⊢;clear hR Ah;subst AZ;go_wp2_with fail;go_ret;exact ⟨by have h := HF.out; subst h; rfl, uB.out⟩
    · have AZ : R8.length ≠ 0 := by intro e; exact hR (List.eq_nil_of_length_eq_zero e)
      obtain ⟨nr, Ah⟩ := eX R8.length;have qw := Lh Ah;rw [<- Ah] at AZ ⊢;have e1 : ((nr : Int) == 0) = false := bF (by omega);have e2 : decide (nr = 0) = false := dF AZ;have e3 : decide ((nr : Int) = 0) = false := dF (by omega);have HRN := LH (R8 ≠ []) hR;clear hR AZ Ah;have HG8 := LH (∃ Rk, gT (fun b => b ≠ gr) w8 R8 A8 nr c8 /\ (∀ k ∈ R8, k < N) /\ R8 ≠ [] /\ ae w8 gr (iv Rk) 3 /\ Rk.length = N /\ (∀ k, k < N -> Rk.getD k 0 <= ((i + 1 : Nat) : Int)) /\ x7.grownBy w8 (some gr) /\ (Any M R8 (l.drop (i + 1)) ↔ V = true)) (by
       have h6 := H6.out;have h8 := H8.out;have hgb : gr < w6.heap.size := h6.2.1.lt;exact ⟨Rk6, by rw [qw.out]; exact h8.1.mono fun b hb => (by omega), fun k hk => by rw [tF.out.1]; exact h8.2.2.1 k hk, HRN.out, h6.2.1.below h8.2.2.2 hgb, h6.2.2.1, fun k hk => by have := h6.2.2.2.1 k hk; push_cast; exact this, h6.2.2.2.2.trans ⟨h8.2.2.2.os, h8.2.2.2.tape, h8.2.2.2.output, h8.2.2.2.size, fun k hk _ => h8.2.2.2.block k hk⟩, uU.out⟩)
      go_wp2_with fail
      go_roundg gg
      case rel => exact ⟨i + 1, R8, _, _, _, by omega, by go_num, rfl, HG8⟩
      case measure => omega
   ·obtain rfl : n2 = i := by omega
    have HDR := LH (l.drop n2 = []) (by rw [HN2.out]; exact List.drop_length);have lD := LH (∀ (L : List Nat) A0 c0 W, gT (fun _ => True) W L A0 L.length c0 -> Cz 63 #[.slice A0 L.length c0, .int .i64 0] W fun e w' => e = .returned (.bool ((nl L).contains 0)) /\ w' = W) fun L A0 c0 W h => by
      by_cases hl : L = []
      ·subst hl;have h1 := Tryz.slices_Contains_int_empty A0 c0 0 W;exact h1
      ·obtain ⟨b, o, e, hc⟩ := h.rd.open (uo hl);subst e;have h1 := Tryz.slices_Contains_int b o L.length c0 (nl L) 0 W (by rw [IG]; exact Nat.le_refl _) (by have := h.cap; have := h.max; omega) (fun j hj => hc j _ (Nu hj));rw [List.take_of_length_le (by rw [IG]; exact Nat.le_refl _)] at h1;exact h1
    clear qC
    go_wp2_with (first
      |((with_reducible refine HSC.out.mono ?_); rintro e w6 hp; obtain ⟨L6, A6, c6, Rk6, rfl, h1, h2, h3, h4, h5, h6, h7, h8⟩ := Ng hp; have H6 := Lh (And.intro h2 (H77.out.trans h8)); have HRC := Lh (lD.out L6 A6 c6 w6 (h1.mono fun _ _ => trivial)); clear hp h1 h2 h3 h4 h5 h6 h7 h8)
      |((with_reducible refine HRC.out.mono ?_); rintro e w8 ⟨rfl, hw8⟩; have iR := hw8.symm; clear hw8; subst iR))
    go_ret;refine ⟨?_, GQ.out _ H6.out.2⟩;have h1 := HJ.out;rw [HDR.out, any_nil H6.out.1] at h1;have h2 : decide ((0 : Int) ∈ nl L6) = V := by
      rw [Bool.eq_iff_iff, <- h1];simp [nl]
    exact congrArg (fun v => Ending.returned (Value.bool v)) h2
end Go.Proofs.YtakcjlimbabbfaaGreatDoor
