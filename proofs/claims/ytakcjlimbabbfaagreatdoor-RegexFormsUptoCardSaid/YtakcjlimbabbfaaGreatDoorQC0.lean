/- Part of the proof of the laws of layer 7: what they share. -/
import Derived.WalkKit
import Derived.WalkSpells
import Derived.WalkLawsBesides
import Derived.Deep.AppendLies
import Derived.Deep.AppendSrc
import Derived.Deep.QuietTactic
import Derived.BigQuiet
import Derived.Maps.AppendAt
import Derived.Lib.Hide
import Derived.Laws.BytesArg
import Derived.Laws.CopyOwn
import Derived.Deep.LoopGhost
import Derived.Deep.MidRow
import Derived.Deep.WholeRow
import Derived.IntWalk
import Derived.Test.YtakcjlimbabbfaaGreatDoorProg
import Derived.Lib.Bytealg
import Derived.Lib.IndexLaws
import Derived.Lib.Strings
import Derived.Lib.Slices
import Derived.Lib.Walk
import Derived.Laws.Strings3
import Derived.BigCall
import Derived.BigGuard
import Derived.Deep.Draws
import Derived.Maps.OwnSet
import Derived.BigRegion
import Derived.Laws.OwnMore
import Derived.Deep.CutBlock
import Derived.Deep.CutRange
import Derived.Shelf.SlGeneric
import Derived.Ground.SlsfProg
import Derived.Shelf.SlLaysF0
import Derived.Ground.SlgnProg
import Derived.Shelf.SlLaysE0
import Derived.Ground.Names8Prog
import Derived.Shelf.Lays8
import Derived.Shelf.Small.Bits
import Derived.Shelf.Small.Strs
import Derived.Shelf.Small.Wraps
import Derived.Shelf.Strconv.Itoa0
import Derived.Shelf.Strings.Search1
import Derived.Shelf.Strings.Prefix
import Derived.Shelf.Slices.Turned
import Derived.Ground.Names2Prog
import Derived.Shelf.Slices.SearchI
import Derived.Shelf.SlSortCmp.WholeK
import Derived.Shelf.SlSortCmp.NoneTotal
import Derived.Lib.TrailingZeros
import Derived.Shelf.Spec.TrailingZeros
import Derived.Deep.RegionHeld
import Derived.Shelf.SlicesQ.Reverse
import Derived.Shelf.Spec.SlicesGrow
import Derived.RangeFuncNested
import Derived.RangeFuncBound
import Derived.RangeFuncCalls
import Derived.RangeFuncLeaves
import Derived.Shelf.Abstract
import Derived.Shelf.RegionOpen
import Derived.OwnWalkIn
import Derived.TacticsInMore
import Derived.LoopNIn
import Derived.LoopIn
import Derived.Test.YtakcjlimbabbfaaGreatDoorRows
import Derived.Test.YtakcjlimbabbfaaGreatDoorTie
import Derived.Test.YtakcjlimbabbfaaGreatDoorCards
import Derived.ProofKit
import Derived.LaidMore
import Derived.OpenShut
import Derived.Stop.Joined
import Derived.JoinedCond
import Derived.SliceStrings
import Derived.SizedLaws
import Derived.SevenTiedAt
import Derived.ChangeMaps5
import Derived.Lay
import Derived.HandedShaped
import Derived.Shelf.Vars
import Derived.Lib.LaidTab
import Derived.Lib.SmallJoins
import Derived.Deep.DeepHandedRow
set_option linter.unusedVariables false
set_option linter.unusedSimpArgs false
set_option maxRecDepth 1000000
set_option maxHeartbeats 8000000
namespace Go.Proofs.YtakcjlimbabbfaaGreatDoor
abbrev zR : Obj := .cells #[.int .i64 0, .slice none 0 0, .slice none 0 0] 25
abbrev zT : Obj := .cells #[.int .u8 0, .int .i64 0, .int .i64 0, .slice none 0 0, .slice none 0 0] 80
abbrev zL : List Value := [.int .i64 0, .slice none 0 0, .slice none 0 0]
abbrev zM : List Value := [.int .u8 0, .int .i64 0, .int .i64 0, .slice none 0 0, .slice none 0 0]
abbrev zC (K : Int) (A : Option Addr) (n c : Nat) (B : Option Addr) (m d : Nat) : Obj := .cells #[.int .i64 K, .slice A n c, .slice B m d] 25
abbrev zV (K : Int) (A : Option Addr) (n c : Nat) (B : Option Addr) (m d : Nat) : List Value := [.int .i64 K, .slice A n c, .slice B m d]
abbrev pt (b : Nat) : Option Addr := some ⟨b, 0, none⟩
theorem LH (p : Prop) (h : p) : RowKit.Hid p := Lib.hid h
theorem eX.{u} {α : Sort u} (a : α) : ∃ b, b = a := ⟨a, rfl⟩
abbrev Cz := Calls Tryz.prog
abbrev Bw (w W : World) : Prop := RowKit.Below w.heap.size w W
theorem pP : (∀ {α : Type} (l : List α) (i : Nat) (a : α), l.toArray.setIfInBounds i a = (l.set i a).toArray) ∧ (∀ {α : Type} (l : List α) (a b : α), (a :: l).set 0 b = b :: l) ∧ (∀ {α : Type} (l : List α) (n : Nat) (a b : α), (a :: l).set (n + 1) b = a :: l.set n b) := ⟨fun l i a => List.setIfInBounds_toArray l i a, fun _ _ _ => rfl, fun _ _ _ _ => rfl⟩
theorem dT {p : Prop} [Decidable p] (h : p) : decide p = true := decide_eq_true h
theorem dF {p : Prop} [Decidable p] (h : ¬p) : decide p = false := decide_eq_false h
theorem Lh {p : Prop} (h : p) : RowKit.Hid p := Lib.hid h
theorem dP {P : Program} {md : Region.Mode} {ops : Array Oper} {Q : Exit -> Act -> World -> Prop} {S : World -> Prop} {fuel : Nat} {listed : Array Bool} {a b : Act} {w : World} {d : Option Tmp} {op : Op} {ty : TypeId} {pos : String} {af : Array Edge} {gd : Option (Nat × Bool)} {v : Value} (i : Nat) (h : wpAnyH P md ops Q S fuel (listed.setIfInBounds i true) b w) (hi : ops[i]? = some ⟨d, op, ty, pos, af, gd⟩ := by rfl) (hy : YieldsIf P ops S ⟨d, op, ty, pos, af, gd⟩ v a := by exact Or.inl ⟨by rfl, by intro w' h; go_simp; try with_reducible rfl⟩) (hb : a.put d v = b := by (try simp only [Act.put, pP]); try rfl) (hS : S w := by assumption) (hs : Region.noSelect ops = true := by kernel_rfl) (hf : Region.free md ops listed i = true := by kernel_rfl) (hr : (Region.ready md ops listed).contains i = true := by kernel_rfl) (hQ : ∀ c a w, Q (.panic c) (a.put d v) w -> Q (.panic c) a w := by exact fun _ _ _ h => h) : wpAnyH P md ops Q S (fuel + 1) listed a w := by subst hb; exact wpAnyH_take hi hs hf hr hQ hy hS h
theorem aL {P : Program} {md : Region.Mode} {ops : Array Oper} {Q : Exit -> Act -> World -> Prop} {S : World -> Prop} {fuel : Nat} {listed : Array Bool} {a b : Act} {w : World} {d : Option Tmp} {op : Op} {ty : TypeId} {pos : String} {af : Array Edge} {gd : Option (Nat × Bool)} {v : Value} (i : Nat) (h : wpAnyH P md ops Q S fuel (listed.setIfInBounds i true) b w) (hi : ops[i]? = some ⟨d, op, ty, pos, af, gd⟩ := by rfl) (hy : YieldsIf P ops S ⟨d, op, ty, pos, af, gd⟩ v a := by exact Or.inl ⟨by rfl, by rintro w' ⟨h1, h2⟩; go_simp; try with_reducible rfl⟩) (hb : a.put d v = b := by (try simp only [Act.put, pP]); try rfl) (hS : S w := by assumption) (hs : Region.noSelect ops = true := by kernel_rfl) (hf : Region.free md ops listed i = true := by kernel_rfl) (hr : (Region.ready md ops listed).contains i = true := by kernel_rfl) (hQ : ∀ c a w, Q (.panic c) (a.put d v) w -> Q (.panic c) a w := by exact fun _ _ _ h => h) : wpAnyH P md ops Q S (fuel + 1) listed a w := by subst hb; exact wpAnyH_take hi hs hf hr hQ hy hS h
theorem bJ {P : Program} {md : Region.Mode} {ops : Array Oper} {Q : Exit -> Act -> World -> Prop} {S : World -> Prop} {fuel : Nat} {listed : Array Bool} {a b : Act} {w : World} {d : Option Tmp} {op : Op} {ty : TypeId} {pos : String} {af : Array Edge} {gd : Option (Nat × Bool)} {v : Value} (i : Nat) (h : wpAnyH P md ops Q S fuel (listed.setIfInBounds i true) b w) (hi : ops[i]? = some ⟨d, op, ty, pos, af, gd⟩ := by rfl) (hy : YieldsIf P ops S ⟨d, op, ty, pos, af, gd⟩ v a := by exact Or.inl ⟨by rfl, by rintro w' ⟨h1, h2, h3⟩; go_simp; try with_reducible rfl⟩) (hb : a.put d v = b := by (try simp only [Act.put, pP]); try rfl) (hS : S w := by assumption) (hs : Region.noSelect ops = true := by kernel_rfl) (hf : Region.free md ops listed i = true := by kernel_rfl) (hr : (Region.ready md ops listed).contains i = true := by kernel_rfl) (hQ : ∀ c a w, Q (.panic c) (a.put d v) w -> Q (.panic c) a w := by exact fun _ _ _ h => h) : wpAnyH P md ops Q S (fuel + 1) listed a w := by subst hb; exact wpAnyH_take hi hs hf hr hQ hy hS h
theorem ik {P : Program} {md : Region.Mode} {ops : Array Oper} {Q : Exit -> Act -> World -> Prop} {S : World -> Prop} {fuel : Nat} {listed : Array Bool} {a b : Act} {w : World} {d : Option Tmp} {op : Op} {ty : TypeId} {pos : String} {af : Array Edge} {gd : Option (Nat × Bool)} {v : Value} (i : Nat) (h : wpAnyH P md ops Q S fuel (listed.setIfInBounds i true) b w) (hi : ops[i]? = some ⟨d, op, ty, pos, af, gd⟩ := by rfl) (hy : YieldsIf P ops S ⟨d, op, ty, pos, af, gd⟩ v a := by exact Or.inl ⟨by rfl, by rintro w' ⟨h1, h2, h3, h4⟩; go_simp; try with_reducible rfl⟩) (hb : a.put d v = b := by (try simp only [Act.put, pP]); try rfl) (hS : S w := by assumption) (hs : Region.noSelect ops = true := by kernel_rfl) (hf : Region.free md ops listed i = true := by kernel_rfl) (hr : (Region.ready md ops listed).contains i = true := by kernel_rfl) (hQ : ∀ c a w, Q (.panic c) (a.put d v) w -> Q (.panic c) a w := by exact fun _ _ _ h => h) : wpAnyH P md ops Q S (fuel + 1) listed a w := by subst hb; exact wpAnyH_take hi hs hf hr hQ hy hS h
theorem wS {P : Program} {md : Region.Mode} {ops : Array Oper} {Q : Exit -> Act -> World -> Prop} {S : World -> Prop} {fuel : Nat} {listed : Array Bool} {a b : Act} {w : World} {d : Option Tmp} {op : Op} {ty : TypeId} {pos : String} {af : Array Edge} {gd : Option (Nat × Bool)} {v : Value} (i : Nat) (h : wpAnyH P md ops Q S fuel (listed.setIfInBounds i true) b w) (hi : ops[i]? = some ⟨d, op, ty, pos, af, gd⟩ := by rfl) (hy : YieldsIf P ops S ⟨d, op, ty, pos, af, gd⟩ v a := by exact Or.inr ⟨by rfl, rfl⟩) (hb : a.put d v = b := by (try simp only [Act.put, pP]); try rfl) (hS : S w := by assumption) (hs : Region.noSelect ops = true := by kernel_rfl) (hf : Region.free md ops listed i = true := by kernel_rfl) (hr : (Region.ready md ops listed).contains i = true := by kernel_rfl) (hQ : ∀ c a w, Q (.panic c) (a.put d v) w -> Q (.panic c) a w := by exact fun _ _ _ h => h) : wpAnyH P md ops Q S (fuel + 1) listed a w := by subst hb; exact wpAnyH_take hi hs hf hr hQ hy hS h
theorem wX {P : Program} {md : Region.Mode} {ops : Array Oper} {Q : Exit -> Act -> World -> Prop} {S : World -> Prop} {fuel : Nat} {listed : Array Bool} {a b : Act} {w : World} {d : Option Tmp} {op : Op} {ty : TypeId} {pos : String} {af : Array Edge} {gd : Option (Nat × Bool)} {v : Value} (i : Nat) (hi : ops[i]? = some ⟨d, op, ty, pos, af, gd⟩) (hy : YieldsIf P ops S ⟨d, op, ty, pos, af, gd⟩ v a) (h : wpAnyH P md ops Q S fuel (listed.setIfInBounds i true) b w) (hb : a.put d v = b := by (try simp only [Act.put, pP]); try rfl) (hS : S w := by assumption) (hs : Region.noSelect ops = true := by kernel_rfl) (hf : Region.free md ops listed i = true := by kernel_rfl) (hr : (Region.ready md ops listed).contains i = true := by kernel_rfl) (hQ : ∀ c a w, Q (.panic c) (a.put d v) w -> Q (.panic c) a w := by exact fun _ _ _ h => h) : wpAnyH P md ops Q S (fuel + 1) listed a w := by subst hb; exact wpAnyH_take hi hs hf hr hQ hy hS h
theorem wA {P : Program} {md : Region.Mode} {ops : Array Oper} {Q : Exit -> Act -> World -> Prop} {S : World -> Prop} {fuel : Nat} {listed : Array Bool} {a : Act} {w : World} {d : Option Tmp} {op : Op} {ty : TypeId} {pos : String} {af : Array Edge} {gd : Option (Nat × Bool)} {i : Nat} {rs : List Nat} (ho : ops[i]? = some ⟨d, op, ty, pos, af, gd⟩) (h : ∀ K' : Act -> World -> Prop, Shut (∀ a w, S w -> (S w -> wpAnyH P md ops Q S fuel (listed.setIfInBounds i true) a w) -> K' a w) -> if Region.wanted ⟨d, op, ty, pos, af, gd⟩ (yielded ops a.tmps) = true then Oper.wp P ⟨d, op, ty, pos, af, gd⟩ a w K' Q else K' (a.put d undef) w) (hs : AllReadyH P md ops Q S fuel listed a w rs) : AllReadyH P md ops Q S fuel listed a w (i :: rs) := AllReadyH.cons ho h hs
theorem bF {α : Type} [BEq α] [LawfulBEq α] {a b : α} (h : a ≠ b) : (a == b) = false := beq_eq_false_iff_ne.2 h
theorem bT {α : Type} [BEq α] [LawfulBEq α] {a b : α} (h : a = b) : (a == b) = true := beq_iff_eq.2 h
theorem wT {P : Program} {md : Region.Mode} {ops : Array Oper} {Q : Exit -> Act -> World -> Prop} {S : World -> Prop} {fuel : Nat} {listed : Array Bool} {a : Act} {w : World} (i : Nat) (oi : Oper) {v : Value} (hy : YieldsIf P ops S oi v a) (h : wpAnyH P md ops Q S fuel (listed.setIfInBounds i true) (a.put oi.dst v) w) (hS : S w := by assumption) (hi : ops[i]? = some oi := by rfl) (hs : Region.noSelect ops = true := by kernel_rfl) (hf : Region.free md ops listed i = true := by kernel_rfl) (hr : (Region.ready md ops listed).contains i = true := by kernel_rfl) (hQ : ∀ c a w, Q (.panic c) (a.put oi.dst v) w -> Q (.panic c) a w := by exact fun _ _ _ h => h) : wpAnyH P md ops Q S (fuel + 1) listed a w := wpAnyH_take hi hs hf hr hQ hy hS h
section
open Go.RowKit
def by8 (c : UInt8) : Value := .int .u8 c.toNat
def bs (l : List UInt8) : List Value := l.map by8
theorem Qs {l : List UInt8} {k : Nat} (h : k < l.length) : (bs l)[k]? = some (.int .u8 l[k].toNat) := by simp [bs, by8, h]
def Rd (w : World) (A : Option Addr) (xs : List Value) : Prop :=
 xs = [] \/ ∃ b o, A = some ⟨b, o, none⟩ /\ ∀ k v, xs[k]? = some v -> w.cell? ⟨b, o + k, none⟩ = some v
section
variable {w w' : World} {A : Option Addr} {xs : List Value}
theorem Rd.keep (h : Rd w A xs) (hk : ∀ b o, b < w.heap.size -> w'.cell? ⟨b, o, none⟩ = w.cell? ⟨b, o, none⟩) : Rd w' A xs := by
 rcases h with h | ⟨b, o, hA, hc⟩
 ·exact .inl h
 ·exact .inr ⟨b, o, hA, fun k v hv => (hk b _ (World.block_lt_of_cell? w _ (hc k v hv))).trans (hc k v hv)⟩
theorem Rd.below (h : Rd w A xs) (hb : Bw w w') : Rd w' A xs := h.keep fun b o hlt => hb.cell (p := ⟨b, o, none⟩) hlt
theorem Rd.open (h : Rd w A xs) (hn : xs ≠ []) : ∃ b o, A = some ⟨b, o, none⟩ /\ ∀ k v, xs[k]? = some v -> w.cell? ⟨b, o + k, none⟩ = some v := by
 rcases h with h | h
 ·exact absurd h hn
 ·exact h
theorem Rd.of_own {base : Nat} {e : TypeId} {n size : Nat} {v : Value} (h : w.ownsRow base e size v n xs) : ∃ A c, v = .slice A n c /\ Rd w A xs /\ n <= c /\ c <= maxLen := by
 have hx := h.1
 rcases h.2 with ⟨rfl, rfl⟩ | ⟨g, cap, cur, rfl, hb, hg, hn, hm, hs, ht⟩
 ·exact ⟨none, 0, rfl, .inl (List.eq_nil_of_length_eq_zero (by simpa using hx)), Nat.le_refl _, Nat.zero_le _⟩
 ·refine ⟨_, cap, rfl, .inr ⟨g, 0, rfl, fun k u hu => ?_⟩, hn, hm⟩;have hc := h.cells (g := g) rfl k u hu;have ha : (⟨g, 0, none⟩ : Addr).add k = ⟨g, 0 + k, none⟩ := by unfold Addr.add; split <;> simp_all
  rw [ha] at hc;exact hc
end
theorem SA {P : Program} {w : World} {base : Nat} {t tx ty e : TypeId} {i : TypeInfo} {z : Value} {size bytes : Nat} (ht : P.underlying t = some (.slice e)) (hi : P.info? e = some i) (hz : i.zero = some z)
  (hsize : i.size = size) (hby : i.bytes = bytes) (hzs : z.cells.size = size) {v : Value} {n : Nat} {xs : List Value} (hown : w.ownsRow base e size v n xs)
  {x : Value} {m : Nat} {news : List Value} (hs : Src P i.size tx x m news w) (h63 : n + m <= maxLen) (hbytes : (n + m) * bytes <= 140737488355328) (hbase : base <= w.heap.size) :
  ∃ v' w', (Builtin.append_ #[t, tx] ty #[v, x]).run P w = .ok v' w' /\ w'.ownsRow base e size v' (n + m) (xs ++ news) /\ w.grownBy w' v.ownBlock /\ (v'.ownBlock = v.ownBlock \/ v'.ownBlock = some w.heap.size) := by
 subst hsize;subst hby
 have hlen : (xs ++ news).length = (n + m) * i.size := by rw [List.length_append, hown.1, hs.newsLen, Nat.add_mul]
 have h63' : n + m <= 9223372036854775807 := by simp only [maxLen] at h63; omega
 rcases Nat.eq_zero_or_pos m with hm | hm
 ·subst hm;have hnil : news = [] := List.eq_nil_of_length_eq_zero (by simpa using hs.newsLen);subst hnil;have hc := hs.cells;rw [List.append_nil, Nat.add_zero];refine ⟨v, w, ?_, hown, ⟨rfl, rfl, rfl, Nat.le_refl _, fun _ _ _ => rfl⟩, .inl rfl⟩
  rcases hown.2 with ⟨rfl, rfl⟩ | ⟨g, cap, cur, rfl, hbg, hg, jd, hcm, hcs, Pt⟩
  · rcases hs.kind with ⟨e', hk⟩ | hk <;> simp [Builtin.append_, run_underlying ht, run_underlying hk, sizeOf, typeInfo, hi, hs.len, hc]
  · have h := run_append_room_src (P := P) w t tx ty e i ht hi g 0 n cap x 0 [] hs (by omega) (by simp) (by simp);exact h
 ·have grown : ∀ (old : Nat), (hold : old < n + m) ->
     (w.drew.alloc (.cells ((xs ++ news).toArray ++ Builtin.zeroCells z.cells (grownCap w (n + m) old e - (n + m))) e)).ownsRow base e i.size
       (.slice (pt w.heap.size) (n + m) (grownCap w (n + m) old e)) (n + m) (xs ++ news) := by
    intro old ho;have xn := grownCap_ge w (n + m) old e;refine ⟨hlen, .inr ⟨w.heap.size, _, _, rfl, hbase, heap_alloc_new w.drew _, xn, grownCap_le_maxLen w (n + m) old e h63, ?_, ?_⟩⟩
    ·simp only [Array.size_append, List.size_toArray, size_zeroCells, hzs, hlen, <- Nat.add_mul]
     congr 1
     omega
    ·simp only [Array.toList_append];rw [<- hlen];exact List.take_left
  rcases hown.2 with ⟨rfl, rfl⟩ | ⟨g, cap, cur, rfl, hbg, hg, jd, hcm, hcs, Pt⟩
  · have hx : xs = [] := List.eq_nil_of_length_eq_zero (by simpa using hown.1);subst hx;have hr := run_append_grow_src (P := P) w t tx ty e i z ht hi hz none 0 0 [] (run_firstCells_none w.drew i.size 0 0 0) x m news hs (by omega) (by omega) (growslice_fits (by omega) (by simpa using hbytes));have hgr := grown 0 (by omega);exact ⟨_, _, hr, hgr, ⟨rfl, rfl, rfl, by simp, fun k hk _ => Below.heap_alloc w.drew _ k hk⟩, .inr rfl⟩
  · by_cases hroom : n + m <= cap
    ·have hfit : n * i.size + news.length <= cur.size := by rw [hs.newsLen, hcs, <- Nat.add_mul]; exact Nat.mul_le_mul_right _ hroom
     have hst := run_storeCells_at P g (n * i.size) e news 0 cur w hg (by simpa using hfit) hs.one;simp only [Nat.add_zero] at hst;refine ⟨.slice (pt g) (n + m) cap, w.setRow g (cur.toList.take (n * i.size) ++ news ++ cur.toList.drop (n * i.size + news.length)).toArray, ?_,
       ⟨hlen, .inr ⟨g, cap, _, rfl, hbg, setRow_heap w g cur _ e _ hg, hroom, hcm, ?_, ?_⟩⟩, ⟨rfl, rfl, rfl, by simp, fun k _ hk => setRow_other w g k _ (fun e => hk (by simp [Value.ownBlock, e]))⟩, .inl rfl⟩
     · rcases hs.kind with ⟨e', hk⟩ | hk <;> simp [Builtin.append_, run_underlying ht, run_underlying hk, sizeOf, typeInfo, hi, hs.len, hroom, hs.cells, Addr.add_lit, hst]
     · simp only [List.size_toArray, List.length_append, List.length_take, List.length_drop, Array.length_toList];omega
     · rw [Pt, <- hlen];exact List.take_left
    ·have holds : ∀ j u, xs[j]? = some u -> w.drew.cell? ((⟨g, 0, none⟩ : Addr).add j) = some u := hown.cells (g := g) rfl;have hr := run_append_grow_src (P := P) w t tx ty e i z ht hi hz (pt g) n cap xs (run_firstCells_some w.drew i.size n ⟨g, 0, none⟩ n cap xs hown.1 holds) x m news hs (by omega) (by omega) (growslice_fits (by omega) hbytes);have hgr := grown cap (by omega);exact ⟨_, _, hr, hgr, ⟨rfl, rfl, rfl, by simp, fun k hk _ => Below.heap_alloc w.drew _ k hk⟩, .inr rfl⟩
theorem Nq {P : Program} {w : World} {o : Oper} {a : Act} {K : Act -> World -> Prop} {Q : Exit -> Act -> World -> Prop} (s x : Operand) (t tx : TypeId)
  (ho : o.op = .call { callee := .builtin .append, args := #[s, x], argTypes := #[t, tx] })
  (base : Nat) (e : TypeId) (i : TypeInfo) (z : Value) (size bytes : Nat) (ht : P.underlying t = some (.slice e)) (hi : P.info? e = some i) (hz : i.zero = some z)
  (hsize : i.size = size) (hby : i.bytes = bytes) (hzs : z.cells.size = size) (v : Value) (n : Nat) (xs : List Value) (hs : a.eval s = v) (hown : w.ownsRow base e size v n xs)
  (y : Value) (m : Nat) (news : List Value) (hx : a.eval x = y) (jl : Src P i.size tx y m news w) (h63 : n + m <= maxLen) (hbytes : (n + m) * bytes <= 140737488355328) (hbase : base <= w.heap.size)
  (h : ∀ v' w', w'.ownsRow base e size v' (n + m) (xs ++ news) -> w.grownBy w' v.ownBlock -> (v'.ownBlock = v.ownBlock \/ v'.ownBlock = some w.heap.size) -> K (a.put o.dst v') w') : o.wp P a w K Q := by
 obtain ⟨v', w', hr, h2, h3, h4⟩ := SA (P := P) (ty := o.type) ht hi hz hsize hby hzs hown jl h63 hbytes hbase;unfold Oper.wp execOp;simp only [ho, resolve, invoke, builtin, Sem.run_bind, Sem.run_pure, Result.andThen_ok, List.map_toArray, List.map_cons, List.map_nil, hs, hx, hr];exact h v' w' h2 h3 h4
theorem gW {P : Program} {w : World} {ops : Array Oper} {rest : List Oper} {o : Oper} {a : Act} {Q : Exit -> Act -> World -> Prop} (hgd : o.guard = none) (s x : Operand) (t tx : TypeId)
  (ho : o.op = .call { callee := .builtin .append, args := #[s, x], argTypes := #[t, tx] })
  (base : Nat) (e : TypeId) (i : TypeInfo) (z : Value) (size bytes : Nat) (ht : P.underlying t = some (.slice e)) (hi : P.info? e = some i) (hz : i.zero = some z)
  (hsize : i.size = size) (hby : i.bytes = bytes) (hzs : z.cells.size = size) (v : Value) (n : Nat) (xs : List Value) (hs : a.eval s = v) (hown : w.ownsRow base e size v n xs)
  (y : Value) (m : Nat) (news : List Value) (hx : a.eval x = y) (jl : Src P i.size tx y m news w) (h63 : n + m <= maxLen) (hbytes : (n + m) * bytes <= 140737488355328) (hbase : base <= w.heap.size)
  (h : ∀ v' w', w'.ownsRow base e size v' (n + m) (xs ++ news) -> w.grownBy w' v.ownBlock -> (v'.ownBlock = v.ownBlock \/ v'.ownBlock = some w.heap.size) -> wpList P ops Q rest (a.put o.dst v') w') : wpList P ops Q (o :: rest) a w :=
 wpList_plain hgd fun _ hK => Nq s x t tx ho base e i z size bytes ht hi hz hsize hby hzs v n xs hs hown y m news hx jl h63 hbytes hbase fun v' w' h2 h3 h4 => hK _ _ (h v' w' h2 h3 h4)
def j4 (w w' : World) (B B' : Option Nat) : Prop := w.grownBy w' B /\ (B' = B \/ ∃ g, B' = some g /\ w.heap.size <= g)
theorem j4.refl (w : World) (B : Option Nat) : j4 w w B B := ⟨World.grownBy.refl w B, .inl rfl⟩
theorem j4.step {w w1 w2 : World} {B B1 B2 : Option Nat} (h : j4 w w1 B B1) (hg : w1.grownBy w2 B1) (hb : B2 = B1 \/ ∃ g, B2 = some g /\ w1.heap.size <= g) : j4 w w2 B B2 := by
 obtain ⟨h1, h2⟩ := h;refine ⟨⟨hg.os.trans h1.os, hg.tape.trans h1.tape, hg.output.trans h1.output, Nat.le_trans h1.size hg.size, fun i hi hne => ?_⟩, ?_⟩
 ·have hi1 : i < w1.heap.size := Nat.lt_of_lt_of_le hi h1.size;refine (hg.block i hi1 ?_).trans (h1.block i hi hne)
  rcases h2 with rfl | ⟨g, rfl, hg2⟩
  ·exact hne
  ·intro e;have : i = g := by simpa using e
   omega
 ·rcases hb with rfl | ⟨g, rfl, hg2⟩
  ·exact h2
  ·exact .inr ⟨g, rfl, Nat.le_trans h1.size hg2⟩
theorem j4.append {w w1 w2 : World} {B : Option Nat} {v v' : Value} (h : j4 w w1 B v.ownBlock) (hg : w1.grownBy w2 v.ownBlock) (hb : v'.ownBlock = v.ownBlock \/ v'.ownBlock = some w1.heap.size) : j4 w w2 B v'.ownBlock :=
 h.step hg (hb.imp id fun e => ⟨_, e, Nat.le_refl _⟩)
theorem j4.setCell {w w1 : World} {B : Option Nat} {g : Nat} (h : j4 w w1 B (some g)) (o : Nat) (u : Value) : j4 w (w1.setCell ⟨g, o, none⟩ u) B (some g) :=
 h.step ⟨rfl, rfl, rfl, by simp [World.setCell], fun k hk hne => Below.heap_setCell _ _ _ _ (by rintro rfl; exact hne rfl)⟩ (.inl rfl)
theorem j4.size {w w' : World} {B B' : Option Nat} (h : j4 w w' B B') : w.heap.size <= w'.heap.size := h.1.size
theorem j4.below {w0 w w' : World} {B B' : Option Nat} (hb : Bw w0 w) (h : j4 w w' B B') (hB : ∀ g, B = some g -> w0.heap.size <= g) : Bw w0 w' := hb.grown h.1 hb.size hB
theorem FD {P : Program} {size : Nat} {tx e' : TypeId} (hk : P.underlying tx = some (.slice e')) (hs : size = 1) (w : World) (x : Value) (t : TypeId) (h1 : x.oneCell' = true) :
  Src P size tx (.slice (pt w.heap.size) 1 1) 1 [x] (w.alloc (.cells #[x] t)) :=
 Src.ofSlice _ hk _ _ _ _ (by simp [hs]) (cell_one_new _ _ _) (by simpa using h1)
theorem gu {w w' : World} {base : Nat} {e : TypeId} {size n : Nat} {v : Value} {xs : List Value} (h : w.ownsRow base e size v n xs) (hb : Bw w w') : w'.ownsRow base e size v n xs := by
 refine h.kept (row := none) ⟨hb.os, hb.tape, hb.output, hb.size, fun k hk _ => hb.block k hk⟩ ?_
 cases hv : v.ownBlock <;> simp
theorem eH {w0 w w' : World} {row : Option Nat} (hb : Bw w0 w) (hg : w.grownBy w' row) (hr : ∀ g, row = some g -> w0.heap.size <= g) : Bw w0 w' := hb.grown hg hb.size hr
theorem strOfNums_bytes (l : List UInt8) : strOfNums (l.map fun c => (c.toNat : Int)) = ⟨l.toArray⟩ := by
 apply ByteArray.ext
 apply Array.ext'
 rw [strOfNums_data, List.map_map]
 conv => rhs; rw [List.toList_toArray, <- List.map_id l]
 apply List.map_congr_left
 intro c _;simp
theorem TG {P : Program} {src dst e : TypeId} (hs : P.underlying src = some (.slice e)) (he : P.underlying e = some (.int .u8)) (hd : P.underlying dst = some .string) {w : World} {A : Option Addr} {l : List UInt8} (h : Rd w A (bs l)) (c : Nat) :
  (convert src dst (.slice A l.length c)).run P w = .ok (.string ⟨l.toArray⟩) w := by
 have key : ∀ b o, (∀ k v, (bs l)[k]? = some v -> w.cell? ⟨b, o + k, none⟩ = some v) -> (convert src dst (.slice (some ⟨b, o, none⟩) l.length c)).run P w = .ok (.string ⟨l.toArray⟩) w := by
  intro b o hc;have := run_convert_bytes_arg (P := P) w src e hs he b o l.length c (l.map fun c => (c.toNat : Int)) (by simp) (fun i hi => by
    rw [hc i (.int .u8 l[i].toNat) (Qs hi)];simp [List.getD, hi]) dst hd
  rw [strOfNums_bytes] at this;exact this
 rcases h with h | ⟨b, o, rfl, hc⟩
 ·have hl : l = [] := by simpa [bs] using h
  subst hl
  cases A with
  | none => exact run_convert_bytes_nil w src e hs he 0 c dst hd
  | some a =>
    rw [run_convert_bytes_string w src dst e (some a) _ c hs he hd, run_bytesToString w a _ c [] (by simp [loadCells, loadCellsFrom])]
    rfl
 ·exact key b o hc
def ae (w : World) (B : Nat) (C : List Value) (T : TypeId) : Prop := w.heap[B]? = some (.cells C.toArray T (0, 0))
section
variable {w w' : World} {B : Nat} {C : List Value} {T : TypeId}
theorem ae.lt (h : ae w B C T) : B < w.heap.size := (Array.getElem?_eq_some_iff.1 h).1
theorem ae.cell (h : ae w B C T) {j : Nat} {v : Value} (hv : C[j]? = some v) : w.cell? ⟨B, j, none⟩ = some v := by
 rw [cell_of_row w B j _ _ _ h]
 simpa using hv
theorem ae.frozen (h : ae w B C T) (j : Nat) : w.frozen? ⟨B, j, none⟩ = false := frozen_of_row w B j _ _ h
theorem ae.new (w : World) (C : List Value) (T : TypeId) : ae (w.alloc (.cells C.toArray T)) w.heap.size C T := heap_alloc_new w _
theorem ae.new' (w : World) (C : List Value) (A : Array Value) (T : TypeId) (h : A = C.toArray) : ae (w.alloc (.cells A T)) w.heap.size C T := by subst h; exact heap_alloc_new w _
theorem ae.alloc (h : ae w B C T) (o : Obj) : ae (w.alloc o) B C T := (Below.heap_alloc w o B h.lt).trans h
theorem ae.set (h : ae w B C T) (j : Nat) (v : Value) : ae (w.setCell ⟨B, j, none⟩ v) B (C.set j v) T := by
 have := heap_setCell_same w B j _ T v h;rw [ae, this];simp
theorem ae.set_other (h : ae w B C T) (a : Addr) (v : Value) (hne : B ≠ a.block) : ae (w.setCell a v) B C T := (heap_setCell_other w a B v hne).trans h
theorem ae.below (h : ae w B C T) {n : Nat} (hb : Below n w w') (hn : B < n) : ae w' B C T := (hb.block _ hn).trans h
theorem ae.range (h : ae w B C T) (o n : Nat) : w.rangeAt B o ((C.drop o).take n) := fun j v hv => by
 refine h.cell ?_;rw [List.getElem?_take] at hv
 split at hv
 ·rw [List.getElem?_drop] at hv;exact hv
 ·cases hv
theorem ae.there (h : ae w B C T) (o n : Nat) (hn : o + n <= C.length) : w.there B o n := fun j hj => by
 have hl : o + j < C.length := by omega
 exact ⟨by rw [h.cell (List.getElem?_eq_getElem hl)]; rfl, h.frozen _⟩
theorem ae.setCells : ∀ (vs : List Value) {w : World} {C : List Value} (o : Nat), ae w B C T -> o + vs.length <= C.length -> ae (w.setCells B o vs) B (C.take o ++ vs ++ C.drop (o + vs.length)) T
 |[], w, C, o, h, hl => by simpa [World.setCells] using h
 |v :: vs, w, C, o, h, hl => by
  simp only [List.length_cons] at hl;have h1 := ae.setCells vs (o + 1) (h.set o v) (by simp; omega);rw [World.setCells];have e : (C.set o v).take (o + 1) ++ vs ++ (C.set o v).drop (o + 1 + vs.length) = C.take o ++ (v :: vs) ++ C.drop (o + (v :: vs).length) := by
   have ho : o < C.length := by omega
   rw [List.take_succ_eq_append_getElem (by simpa using ho), List.take_set, List.set_eq_of_length_le (by simp; omega)];rw [List.drop_set_of_lt (by omega)];simp;omega
  rw [e] at h1;exact h1
theorem heap_setCells_other (B k : Nat) (hk : k ≠ B) : ∀ (vs : List Value) (o : Nat) (w : World), (w.setCells B o vs).heap[k]? = w.heap[k]?
 |[], _, _ => rfl
 |v :: vs, o, w => by rw [World.setCells, heap_setCells_other B k hk vs, heap_setCell_other _ _ _ _ hk]
theorem size_setCells (B : Nat) : ∀ (vs : List Value) (o : Nat) (w : World), (w.setCells B o vs).heap.size = w.heap.size
 |[], _, _ => rfl
 |v :: vs, o, w => by rw [World.setCells, size_setCells B vs]; simp [World.setCell]
end
def aT (w w1 : World) (g : Nat) (D : List Value) (T : TypeId) : Prop := ae w1 g D T /\ (∀ k, k ≠ g -> w1.heap[k]? = w.heap[k]?) /\ w1.heap.size = w.heap.size /\ w1.os = w.os /\ w1.tape = w.tape /\ w1.output = w.output
section
variable {w w1 w0 : World} {g : Nat} {D : List Value} {T : TypeId}
theorem aT.other (h : aT w w1 g D T) {B : Nat} {C : List Value} {T' : TypeId} (hb : ae w B C T') (hne : B ≠ g) : ae w1 B C T' := (h.2.1 B hne).trans hb
theorem aT.below (h : aT w w1 g D T) {n : Nat} (hb : Below n w0 w) (hn : n <= g) : Below n w0 w1 :=
 ⟨h.2.2.2.1.trans hb.os, h.2.2.2.2.1.trans hb.tape, h.2.2.2.2.2.trans hb.output, by rw [h.2.2.1]; exact hb.size, fun k hk => (h.2.1 k (by omega)).trans (hb.block k hk)⟩
end
theorem KX (B : Nat) : ∀ (vs : List Value) (o : Nat) (w : World), (w.setCells B o vs).os = w.os /\ (w.setCells B o vs).tape = w.tape /\ (w.setCells B o vs).output = w.output
 |[], _, _ => ⟨rfl, rfl, rfl⟩
 |v :: vs, o, w => by rw [World.setCells]; exact KX B vs (o + 1) (w.setCell ⟨B, o, none⟩ v)
theorem aT.of_setCells {w : World} {g : Nat} {C : List Value} {T : TypeId} (h : ae w g C T) (o : Nat) (vs : List Value) (hl : o + vs.length <= C.length) : aT w (w.setCells g o vs) g (C.take o ++ vs ++ C.drop (o + vs.length)) T :=
 ⟨h.setCells vs o hl, fun k hk => heap_setCells_other g k hk vs o w, size_setCells g vs o w, KX g vs o w⟩
theorem aT.of_setCell {w : World} {g : Nat} {C : List Value} {T : TypeId} (h : ae w g C T) (o : Nat) (v : Value) : aT w (w.setCell ⟨g, o, none⟩ v) g (C.set o v) T :=
 ⟨h.set o v, fun k hk => heap_setCell_other _ _ _ _ hk, by simp [World.setCell], rfl, rfl, rfl⟩
theorem LK {P : Program} {w : World} {ops : Array Oper} {rest : List Oper} {o : Oper} {a : Act} {Q : Exit -> Act -> World -> Prop} (hgd : o.guard = none) (ty : TypeId) (x : Operand) (ho : o.op = .load ty x)
  (g j : Nat) (hx : a.eval x = .pointer (some ⟨g, j, none⟩)) {C : List Value} {T : TypeId} (hb : ae w g C T) (d : TypeDesc) (hu : P.underlying ty = some d) (hd : d.isRow = true) (n : Nat) (hi : (P.info? ty).map (·.size) = some n) (hn : j + n <= C.length)
  (h : wpList P ops Q rest (a.put o.dst (.agg ((C.drop j).take n).toArray)) w) : wpList P ops Q (o :: rest) a w :=
 wpList_load_mid hgd ty x ho g j hx _ d (hb.range j n) hu hd (by rw [hi, List.length_take, List.length_drop]; congr 1; omega) h
theorem Sl {P : Program} {w : World} {ops : Array Oper} {rest : List Oper} {o : Oper} {a : Act} {Q : Exit -> Act -> World -> Prop} (hgd : o.guard = none) (ty : TypeId) (x y : Operand) (ho : o.op = .store ty x y)
  (g j : Nat) (hx : a.eval x = .pointer (some ⟨g, j, none⟩)) (D : List Value) (hy : a.eval y = .agg D.toArray) {C : List Value} {T : TypeId} (hb : ae w g C T) (n : Nat) (hi : (P.info? ty).map (·.size) = some n) (hD : D.length = n) (hn : j + n <= C.length) (h1 : ∀ u ∈ D, u.oneCell' = true)
  (h : ∀ w1, aT w w1 g (C.take j ++ D ++ C.drop (j + n)) T -> wpList P ops Q rest (a.put o.dst undef) w1) : wpList P ops Q (o :: rest) a w := by
 subst hD;refine wpList_store_mid hgd ty x y ho g j D.toArray hx hy (hb.there j _ (by simpa using hn)) (by simpa using hi) (all_oneCell_toArray h1) ?_;exact h _ (aT.of_setCells hb j D hn)
theorem cK {P : Program} {fn : Func} {p : Tmp} {ty : TypeId} {R : Ending -> World -> Prop} {a : Act} {w : World} (hr : fn.results = #[.cell p ty]) (g : Nat) (hp : a.tmps.getD p undef = .pointer (pt g)) {C : List Value} {T : TypeId} (hb : ae w g C T) (d : TypeDesc) (hu : P.underlying ty = some d) (hd : d.isRow = true)
  (hi : (P.info? ty).map (·.size) = some C.length) (hdf : a.defers = []) (hR : R (.returned (.agg C.toArray)) w) : bodyPost P fn R .ret a w :=
 bodyPost_ret (results_cell_row hr _ w g T C.toArray (0, 0) d hp hb hu (by cases d <;> simp_all) (by simpa using hi)) hdf hR
def tb (l : List UInt8) : ByteArray := ⟨l.toArray⟩
theorem kI (l : List UInt8) : (tb l).size = l.length := by simp [tb, ByteArray.size]
theorem C9 (l : List UInt8) : (tb l).data.toList = l := by simp [tb]
theorem oN (l : List UInt8) : (tb l).toList = l := ByteArray.toList_mk l
theorem ah {w0 w w' : World} (h : Bw w0 w) (k : Bw w w') : Bw w0 w' := h.trans (k.mono h.size)
theorem below_drewN {w0 w : World} (h : Bw w0 w) (n : Nat) : Bw w0 (w.drewN n) := ⟨h.os, h.tape, h.output, h.size, h.block⟩
theorem ai (w : World) (o : Obj) : Bw w (w.alloc o) := (Below.refl _ _).alloc (Nat.le_refl _) o
theorem aF {w0 w : World} (h : Bw w0 w) (o : Obj) : Bw w0 (w.alloc o) := h.alloc h.size o
theorem ae.at (w : World) (C : List Value) (A : Array Value) (T : TypeId) (B : Nat) (hA : A = C.toArray) (hB : B = w.heap.size) : ae (w.alloc (.cells A T)) B C T := by subst hB; exact ae.new' w C A T hA
def iv (l : List Int) : List Value := l.map (Value.int .i64)
theorem FN (l : List Int) : (iv l).length = l.length := by simp [iv]
theorem Cy {l : List Int} {k : Nat} (h : k < l.length) : (iv l)[k]? = some (.int .i64 (l.getD k 0)) := by simp [iv, h]
theorem QA {l : List Int} (h : l ≠ []) : iv l ≠ [] := by intro e; exact h (by simpa [iv] using e)
def fM (n : Int) : Prop := -9223372036854775808 <= n /\ n <= 9223372036854775807
theorem KF : (Tryz.prog.info? 5).map (fun i => (i.zero, i.size, i.bytes)) = some (some (.int .u8 0), 1, 1) := by kernel_rfl
theorem Lu {P : Program} {tx e' : TypeId} {size n : Nat} (hk : P.underlying tx = some (.slice e')) (hs : size = 1) {w : World} {B : Nat} {C : List Value} {T : TypeId} (h : ae w B C T) (hn : C.length = n) (h1 : ∀ u ∈ C, u.oneCell' = true) (c : Nat) : Src P size tx (.slice (pt B) n c) n C w := by
 refine Src.ofSlice _ hk _ _ _ _ (by rw [hs, hn, Nat.mul_one]) (fun j u hu => ?_) h1;have rO : (⟨B, 0, none⟩ : Addr).add j = ⟨B, j, none⟩ := by unfold Addr.add; split <;> simp_all
 rw [rO];exact h.cell hu
theorem xM {P : Program} {w : World} {ops : Array Oper} {o : Oper} {a : Act} {K : Act -> World -> Prop} {Q : Exit -> Act -> World -> Prop} {E : Prop} (hgd : o.guard = none) (s x : Operand) (t tx : TypeId)
  (ho : o.op = .call { callee := .builtin .append, args := #[s, x], argTypes := #[t, tx] })
  (base : Nat) (e : TypeId) (i : TypeInfo) (z : Value) (size bytes : Nat) (ht : P.underlying t = some (.slice e)) (hi : P.info? e = some i) (hz : i.zero = some z)
  (hsize : i.size = size) (hby : i.bytes = bytes) (hzs : z.cells.size = size) (v : Value) (n : Nat) (xs : List Value) (hs : a.eval s = v) (hown : w.ownsRow base e size v n xs)
  (y : Value) (m : Nat) (news : List Value) (hx : a.eval x = y) (jl : Src P i.size tx y m news w) (h63 : n + m <= maxLen) (hbytes : (n + m) * bytes <= 140737488355328) (hbase : base <= w.heap.size)
  (h : ∀ v' w', w'.ownsRow base e size v' (n + m) (xs ++ news) -> w.grownBy w' v.ownBlock -> (v'.ownBlock = v.ownBlock \/ v'.ownBlock = some w.heap.size) -> K (a.put o.dst v') w') :
  if Region.wanted o (yielded ops a.tmps) = true then Oper.wp P o a w K Q else E := by
 rw [if_pos (by simp [Region.wanted, hgd])];exact Nq s x t tx ho base e i z size bytes ht hi hz hsize hby hzs v n xs hs hown y m news hx jl h63 hbytes hbase h
theorem Q4 {w : World} {base : Nat} {e : TypeId} {size n : Nat} {v : Value} {xs : List Value} (h : w.ownsRow base e size v n xs) (o : Obj) : (w.alloc o).ownsRow base e size v n xs := gu h (ai w o)
theorem MM {a b : Bool} (h : a = b) : Ending.returned (.bool a) = .returned (.bool b) := by rw [h]
theorem Nt {k : IntKind} {a b : Int} (h : a = b) : Ending.returned (.int k a) = .returned (.int k b) := by rw [h]
end
theorem wB {P : Program} {w : World} {ops : Array Oper} {rest : List Oper} {o : Oper} {a : Act} {Q : Exit -> Act -> World -> Prop} (hgd : o.guard = none) (ty : TypeId) (x y : Operand) (ho : o.op = .store ty x y) (g j : Nat) (hx : a.eval x = .pointer (some ⟨g, j, none⟩)) (D : List Value) (hy : a.eval y = .agg D.toArray) {C : List Value} {T : TypeId} (hb : ae w g C T) (n : Nat) (hi : (P.info? ty).map (·.size) = some n) (h : ∀ w1, aT w w1 g (C.take j ++ D ++ C.drop (j + n)) T -> wpList P ops Q rest (a.put o.dst undef) w1) (hD : D.length = n := by rfl) (hn : j + n <= C.length := by simp) (h1 : ∀ u ∈ D, u.oneCell' = true := by simp [Value.oneCell']) : wpList P ops Q (o :: rest) a w := Sl hgd ty x y ho g j hx D hy hb n hi hD hn h1 h
namespace Alp
abbrev B := List UInt8
structure Lt where
 text : B
 base : Int
 mark : Int
 cas : Int
 width : Int
def z : Lt := ⟨[], 0, 0, 0, 0⟩
theorem WB {a b : Lt} (h1 : a.text = b.text) (h2 : a.base = b.base) (h3 : a.mark = b.mark) (h4 : a.cas = b.cas) (h5 : a.width = b.width) : a = b := by
 cases a; cases b; simp_all
instance : DecidableEq Lt := fun a b => decidable_of_iff (a.text = b.text /\ a.base = b.base /\ a.mark = b.mark /\ a.cas = b.cas /\ a.width = b.width)
 ⟨fun h => WB h.1 h.2.1 h.2.2.1 h.2.2.2.1 h.2.2.2.2, fun h => by subst h; exact ⟨rfl, rfl, rfl, rfl, rfl⟩⟩
def marks : B := [45, 35, 46, 124, 40, 41, 42, 63, 123, 125, 62, 47, 95, 126, 59, 58, 44, 61, 34, 64]
def sM (c : UInt8) : Bool := decide (48 <= c.toNat) && decide (c.toNat <= 57)
def oQ (c : UInt8) : Bool := decide (c.toNat < 33) || (sM c || marks.contains c)
def plain (t : B) : Bool := decide (1 <= t.length) && (decide (t.length <= 4) && t.all fun c => !oQ c)
theorem JB (t : B) : plain t = true ↔ 1 <= t.length /\ t.length <= 4 /\ ∀ c ∈ t, oQ c = false := by
 unfold plain;simp
def iO : List Lt -> B -> Option Nat
 |[], _ => none
 |l :: L, t => if l.text = t then some 0 else (iO L t).map (· + 1)
theorem VE {L : List Lt} {t : B} : iO L t = none ↔ ∀ l ∈ L, l.text ≠ t := by
 induction L with
 |nil => simp [iO]
 |cons l L ih =>
  unfold iO
  by_cases h : l.text = t
  ·simp [h]
  ·simp [h, ih]
theorem JA (L : List Lt) (l : Lt) (t : B) : iO (L ++ [l]) t = match iO L t with | some i => some i | none => if l.text = t then some L.length else none := by
 induction L with
 |nil => simp [iO]
 |cons a L ih =>
  simp only [List.cons_append, iO]
  by_cases he : a.text = t
  ·simp [he]
  ·rw [if_neg he, if_neg he, ih]
   cases hi : iO L t with
   |some k => simp
   |none =>
    by_cases hl : l.text = t <;> simp [hl]
def nU (L : List Lt) : List B := L.map (·.text)
theorem OE {L : List Lt} {i : Nat} (h : i < L.length) : L.getD i z = L[i] := by simp [List.getD, h]
theorem gU {L : List Lt} {i : Nat} (h : i < L.length) : L.getD i z ∈ L := by rw [OE h]; exact List.getElem_mem h
theorem Ov (L : List Lt) (l : Lt) : (nU (L ++ [l])).Nodup ↔ (nU L).Nodup /\ iO L l.text = none := by
 have e : nU (L ++ [l]) = nU L ++ [l.text] := by simp [nU]
 rw [e, List.nodup_append, VE];simp only [nU, List.mem_map, List.mem_singleton];constructor
 ·rintro ⟨h1, _, h3⟩;exact ⟨h1, fun a ha => h3 a.text ⟨a, ha, rfl⟩ l.text rfl⟩
 ·rintro ⟨h1, h2⟩;refine ⟨h1, by simp, ?_⟩;rintro a ⟨x, hx, rfl⟩ b rfl;exact h2 x hx
def lok (L : List Lt) (n : Nat) (l : Lt) : Bool :=
 plain l.text && (decide (0 <= l.base /\ l.base < L.length) && (decide ((L.getD l.base.toNat z).base = l.base) && (decide (0 <= l.mark /\ l.mark <= 15) && (decide (0 <= l.cas /\ l.cas <= 1) &&
 (decide (1 <= l.width /\ l.width <= 1000) && decide (l.base ≠ n \/ (l.mark = 0 /\ l.cas = 0)))))))
def vS (L : List Lt) (n : Nat) : Bool := lok L n (L.getD n z)
def uz (L : List Lt) : Bool := decide (1 <= L.length) && (decide (L.length <= 60) && ((List.range L.length).all (vS L) && decide (nU L).Nodup))
theorem Ga (L : List Lt) : uz L = true ↔ 1 <= L.length /\ L.length <= 60 /\ (∀ n, n < L.length -> vS L n = true) /\ (nU L).Nodup := by
 unfold uz;simp
theorem II (L : List Lt) (n : Nat) (l : Lt) : lok L n l = true ↔ plain l.text = true /\ (0 <= l.base /\ l.base < L.length) /\ (L.getD l.base.toNat z).base = l.base /\ (0 <= l.mark /\ l.mark <= 15) /\ (0 <= l.cas /\ l.cas <= 1) /\ (1 <= l.width /\ l.width <= 1000) /\ (l.base ≠ n \/ (l.mark = 0 /\ l.cas = 0)) := by
 unfold lok;simp [and_assoc]
end Alp
end Go.Proofs.YtakcjlimbabbfaaGreatDoor
section
namespace Go.Proofs
open Go.RowKit Go.Lib
theorem WW (s : ByteArray) (c : Int) (w : World) : Calls Tryz.prog 170 #[.string s, .int .u8 c] w fun e w' => e = .returned (.int .i64 (Lib.indexByte s.data.toList c.toNat.toUInt8)) /\ w' = w := by
 go_enter Tryz.func170, Tryz.ntmps170
 go_wp2
 rw [run_callFunc_extern Tryz.func179 (by kernel_rfl) (by kernel_rfl) (by kernel_rfl) (e := Extern.BytealgIndexByte.indexByte) (by kernel_rfl), Lib.run_indexByteString];simp only [Result.andThen];rw [Oper.upon_value]
 go_wp2
 go_ret;exact ⟨rfl, rfl⟩
theorem PZ (s : ByteArray) (c : Int) (w : World) : Calls Tryz.prog 151 #[.string s, .int .u8 c] w fun e w' => e = .returned (.int .i64 (Lib.indexByte s.data.toList c.toNat.toUInt8)) /\ w' = w := by
 go_enter Tryz.func151, Tryz.ntmps151
 go_wp2_with ((with_reducible refine (WW _ _ _).mono ?_); rintro e w' ⟨rfl, rfl⟩)
 go_ret;exact ⟨rfl, rfl⟩
end Go.Proofs
end
namespace Go.Proofs.YtakcjlimbabbfaaGreatDoor
open Go.RowKit
open Alp
def FI (w : World) (b : Bool) (e : Ending) (w' : World) : Prop := e = .returned (.bool b) /\ w = w'
theorem Qj {c : UInt8} (h : sM c = true) : 48 <= c.toNat /\ c.toNat <= 57 := by unfold sM at h; simpa using h
theorem U9 {c : UInt8} (h : sM c = false) : c.toNat < 48 \/ 57 < c.toNat := by
 unfold sM at h
 by_cases h1 : 48 <= c.toNat
 ·right
  simp [h1] at h;exact h
 ·exact .inl (by omega)
theorem Qi (c : UInt8) (w : World) : Calls Tryz.prog 173 #[.int .u8 c.toNat] w (FI w (sM c)) := by
 have hc : c.toNat < 256 := c.toNat_lt
 cases h : sM c
 ·rcases U9 h with h1 | h1
  ·clear h;go_enter Tryz.func173, Tryz.ntmps173
   go_wp2
   go_ret;exact ⟨rfl, rfl⟩
  ·clear h;have hd : decide ((c.toNat : Int) <= 57) = false := dF (by omega);go_enter Tryz.func173, Tryz.ntmps173
   go_wp2
   go_ret;exact ⟨rfl, rfl⟩
 ·obtain ⟨h1, h2⟩ := Qj h;clear h;have hd : decide ((c.toNat : Int) <= 57) = true := dT (by omega);go_enter Tryz.func173, Tryz.ntmps173
  go_wp2
  go_ret;exact ⟨rfl, rfl⟩
theorem Ur (l : List UInt8) (c : UInt8) : (0 <= Lib.indexByte l c) ↔ c ∈ l := by
 have hg := Lib.indexByte_ge l c;constructor
 ·intro h;obtain ⟨o, ho⟩ : ∃ o : Nat, Lib.indexByte l c = o := ⟨(Lib.indexByte l c).toNat, by omega⟩;exact List.mem_of_getElem? (Lib.indexByte_some ho).1
 ·intro h
  rcases Int.lt_or_le (Lib.indexByte l c) 0 with h1 | h1
  ·have h2 : Lib.indexByte l c = -1 := by omega
   obtain ⟨k, hk, e⟩ := List.getElem_of_mem h;exact absurd (by rw [List.getElem?_eq_getElem hk, e]) (Lib.indexByte_none h2 k)
  ·exact h1
theorem R4 {c : UInt8} (h : sM c = true) : oQ c = true := by unfold oQ; rw [h]; simp
theorem Sb {c : UInt8} (h : c.toNat < 33) : oQ c = true := by unfold oQ; simp [h]
theorem QZ {c : UInt8} (h1 : ¬ c.toNat < 33) (h2 : sM c = false) : oQ c = decide (c ∈ marks) := by unfold oQ; rw [h2, dF h1]; simp [List.contains_eq_mem]
theorem Wq (c : UInt8) (w : World) : Calls Tryz.prog 151 #[.string ⟨#[45, 35, 46, 124, 40, 41, 42, 63, 123, 125, 62, 47, 95, 126, 59, 58, 44, 61, 34, 64]⟩, .int .u8 c.toNat] w fun e w' => e = .returned (.int .i64 (Lib.indexByte marks c)) /\ w = w' :=
 (PZ _ _ w).mono fun e w' ⟨he, hw⟩ => ⟨by rw [he]; show Ending.returned (.int .i64 (Lib.indexByte marks ((c.toNat : Int).toNat.toUInt8))) = _; rw [Int.toNat_natCast]; simp, hw.symm⟩
theorem Vu (c : UInt8) (w : World) : Calls Tryz.prog 158 #[.int .u8 c.toNat] w (FI w (oQ c)) := by
 have hc : c.toNat < 256 := c.toNat_lt
 by_cases h1 : c.toNat < 33
 ·rw [Sb h1];go_enter Tryz.func158, Tryz.ntmps158;go_wp2_with fail;go_ret;exact ⟨rfl, rfl⟩
 ·have HD := Lh fun W => Qi c W
  have hdl : decide ((c.toNat : Int) < 33) = false := dF (by omega)
  cases h2 : sM c
  ·rw [QZ h1 h2];rw [h2] at HD;have HX := Lh fun W => Wq c W
   obtain ⟨x, hx⟩ := eX (Lib.indexByte marks c);have hm := Ur marks c;rw [<- hx] at HX hm
   by_cases h3 : 0 <= x
   ·rw [dT (hm.1 h3)];clear hm hx h2;go_enter Tryz.func158, Tryz.ntmps158
    go_wp2_with (first
     |((with_reducible refine (HD.out _).mono ?_); rintro e w1 ⟨rfl, rfl⟩)
     |((with_reducible refine (HX.out _).mono ?_); rintro e w1 ⟨rfl, rfl⟩))
    go_ret;exact ⟨rfl, rfl⟩
   ·rw [dF (fun h => h3 (hm.2 h))];have hd : decide (0 <= x) = false := dF h3;clear hm hx h2;go_enter Tryz.func158, Tryz.ntmps158
    go_wp2_with (first
     |((with_reducible refine (HD.out _).mono ?_); rintro e w1 ⟨rfl, rfl⟩)
     |((with_reducible refine (HX.out _).mono ?_); rintro e w1 ⟨rfl, rfl⟩))
    go_ret;exact ⟨rfl, rfl⟩
  ·rw [R4 h2];rw [h2] at HD;clear h2;go_enter Tryz.func158, Tryz.ntmps158
   go_wp2_with ((with_reducible refine (HD.out _).mono ?_); rintro e w1 ⟨rfl, rfl⟩)
   go_ret;exact ⟨rfl, rfl⟩
theorem SF {t : B} (h : t.length < 1 \/ 4 < t.length) : plain t = false := by
 rw [Bool.eq_false_iff];intro e;have := (JB t).1 e;omega
theorem Wm {t : B} {k : Nat} (hk : k < t.length) (h : oQ t[k] = true) : plain t = false := by
 rw [Bool.eq_false_iff];intro e;have := ((JB t).1 e).2.2 _ (List.getElem_mem hk);rw [h] at this
 cases this
theorem VM {t : B} (h1 : 1 <= t.length) (h2 : t.length <= 4) (h : ∀ j (hj : j < t.length), oQ t[j] = false) : plain t = true :=
 (JB t).2 ⟨h1, h2, fun c hc => by
   obtain ⟨j, hj, rfl⟩ := List.getElem_of_mem hc;exact h j hj⟩
theorem Ql (t : B) (ht : t.length <= maxLen) (w : World) : Calls Tryz.prog 137 #[.string (tb t)] w (FI w (plain t)) := by
 unfold maxLen at ht;obtain ⟨m, hm⟩ := eX t.length;have hsz : (tb t).size = m := by rw [kI, hm]
 by_cases hs : m < 1 \/ 4 < m
 ·rw [SF (by rw [<- hm]; exact hs)];rw [<- hm] at ht;clear hm
  rcases hs with h1 | h1
  ·go_enter Tryz.func137, Tryz.ntmps137;go_wp2_with fail;go_ret;exact ⟨rfl, rfl⟩
  ·go_enter Tryz.func137, Tryz.ntmps137;go_wp2_with fail;go_ret;exact ⟨rfl, rfl⟩
 ·have h1 : 1 <= m := by omega
  have h2 : m <= 4 := by omega
  obtain ⟨b, hb⟩ := eX (plain t);rw [<- hb];have HM := Lh hm;have HB := Lh hb;clear hm hs ht hb;go_enter Tryz.func137, Tryz.ntmps137;go_wp2_with fail
  go_loopg [3, 14] m (fun g s3 s14 wr => ∃ (k : Nat), k + g = m /\ s14 = .int .i64 (k : Int) /\ Hid (∀ j (hj : j < t.length), j < k -> oQ t[j] = false) /\ w = wr)
  case atStart => exact ⟨0, by omega, rfl, Lh fun j _ h => by omega, rfl⟩
  case round =>
   obtain ⟨k, hk, rfl, HF, rfl⟩ := hrel
   by_cases hlt : k < m
   ·obtain ⟨g, rfl⟩ : ∃ g, gk = g + 1 := ⟨gk - 1, by omega⟩;have eU : k < t.length := by rw [<- HM.out]; exact hlt
    obtain ⟨c, hc⟩ := eX (t[k]);have hg : (tb t)[k]'(by rw [hsz]; exact hlt) = c := by rw [hc]; rfl
    have HR := Lh fun W => Vu c W
    have HC := Lh hc;clear hc
    cases hr : oQ c
    ·rw [hr] at HR;have Bp := Lh hr;clear hr
     go_wp2_with ((with_reducible refine (HR.out _).mono ?_); rintro e w1 ⟨rfl, rfl⟩)
     go_roundg g
     case rel => exact ⟨k + 1, by omega, by go_num, Lh fun j hj hjk => by
      rcases Nat.lt_or_ge j k with h | h
      ·exact HF.out j hj h
      ·obtain rfl : j = k := by omega
       rw [<- HC.out]; exact Bp.out, rfl⟩
     case measure => omega
    ·rw [hr] at HR;have HE := LH (b = false) (by rw [HB.out]; exact Wm eU (by rw [<- HC.out]; exact hr));clear hr
     go_wp2_with ((with_reducible refine (HR.out _).mono ?_); rintro e w1 ⟨rfl, rfl⟩)
     go_ret;exact ⟨MM HE.out.symm, rfl⟩
   ·obtain rfl : k = m := by omega
    have HE := LH (b = true) (by rw [HB.out]; exact VM (by rw [<- HM.out]; exact h1) (by rw [<- HM.out]; exact h2) fun j hj => HF.out j hj (by rw [HM.out]; exact hj));go_wp2_with fail;go_ret;exact ⟨MM HE.out.symm, rfl⟩
theorem TZ (A : Option Addr) (n c : Nat) (x : Int) (w : World) (b : Bool) (hb : b = decide (0 <= x /\ x < n)) : Calls Tryz.prog 138 #[.slice A n c, .int .i64 x] w (FI w b) := by
 subst hb
 by_cases h1 : 0 <= x
 ·by_cases h2 : x < n
  ·have e : decide (0 <= x /\ x < n) = true := dT ⟨h1, h2⟩;rw [e];clear e;go_enter Tryz.func138, Tryz.ntmps138
   go_wp2
   go_ret;exact ⟨rfl, rfl⟩
  ·have e : decide (0 <= x /\ x < n) = false := dF fun h => h2 h.2
   rw [e];clear e;go_enter Tryz.func138, Tryz.ntmps138
   go_wp2
   go_ret;exact ⟨rfl, rfl⟩
 ·have e : decide (0 <= x /\ x < n) = false := dF fun h => h1 h.1
  rw [e];clear e;go_enter Tryz.func138, Tryz.ntmps138
  go_wp2
  go_ret;exact ⟨rfl, rfl⟩
def lc (l : Lt) : List Value := [.string (tb l.text), .int .i64 l.base, .int .i64 l.mark, .int .i64 l.cas, .int .i64 l.width]
def lv (L : List Lt) : List Value := L.flatMap lc
theorem Cg (l : Lt) : (lc l).length = 5 := rfl
theorem Qk (L : List Lt) : (lv L).length = 5 * L.length := by
  induction L with
  | nil => rfl
  | cons a L ih => have : lv (a :: L) = lc a ++ lv L := by simp [lv]
                   rw [this, List.length_append, ih, Cg, List.length_cons]; omega
theorem Uy {L : List Lt} (h : L ≠ []) : lv L ≠ [] := by
 intro e;have := congrArg List.length e;rw [Qk, List.length_nil] at this;exact h (List.eq_nil_of_length_eq_zero (by omega))
theorem R3 (L : List Lt) (k : Nat) (h : k < L.length) (j : Nat) (hj : j < 5) : (lv L)[k * 5 + j]? = (lc (L.getD k z))[j]? := by
 induction L generalizing k with
 |nil => simp at h
 |cons a L ih =>
  have e : lv (a :: L) = lc a ++ lv L := by simp [lv]
  rw [e]
  cases k with
  |zero => rw [Nat.zero_mul, Nat.zero_add, List.getElem?_append_left (by rw [Cg]; exact hj)]; simp
  |succ k =>
   rw [List.getElem?_append_right (by rw [Cg]; omega), Cg, show (k + 1) * 5 + j - 5 = k * 5 + j by omega, ih k (by simpa using h)];simp
def RL (w : World) (b o : Nat) (L : List Lt) : Prop := ∀ k, k < L.length -> ∀ j v, (lc (L.getD k z))[j]? = some v -> w.cell? ⟨b, o + k * 5 + j, none⟩ = some v
theorem z8 {w : World} {A : Option Addr} {L : List Lt} (h : Rd w A (lv L)) (hn : L ≠ []) : ∃ b o, A = some ⟨b, o, none⟩ /\ RL w b o L := by
 obtain ⟨b, o, hA, hc⟩ := h.open (Uy hn);refine ⟨b, o, hA, fun k hk j v hv => ?_⟩;have hj : j < 5 := by have := (List.getElem?_eq_some_iff.1 hv).1; rwa [Cg] at this
 rw [Nat.add_assoc];exact hc (k * 5 + j) v (by rw [R3 L k hk j hj]; exact hv)
theorem RL.below {w w' : World} {b o : Nat} {L : List Lt} (h : RL w b o L) (hb : Bw w w') : RL w' b o L := fun k hk j v hv => by
 have h1 := h k hk j v hv;exact (hb.cell (p := ⟨b, o + k * 5 + j, none⟩) (World.block_lt_of_cell? w _ h1)).trans h1
theorem RL.c0 {w : World} {b o : Nat} {L : List Lt} (h : RL w b o L) {k : Nat} (hk : k < L.length) {l : Lt} (hl : l = L.getD k z) : w.cell? ⟨b, o + k * 5, none⟩ = some (.string (tb l.text)) := by subst hl; exact h k hk 0 _ rfl
theorem RL.c1 {w : World} {b o : Nat} {L : List Lt} (h : RL w b o L) {k : Nat} (hk : k < L.length) {l : Lt} (hl : l = L.getD k z) : w.cell? ⟨b, o + k * 5 + 1, none⟩ = some (.int .i64 l.base) := by subst hl; exact h k hk 1 _ rfl
theorem RL.c2 {w : World} {b o : Nat} {L : List Lt} (h : RL w b o L) {k : Nat} (hk : k < L.length) {l : Lt} (hl : l = L.getD k z) : w.cell? ⟨b, o + k * 5 + 2, none⟩ = some (.int .i64 l.mark) := by subst hl; exact h k hk 2 _ rfl
theorem RL.c3 {w : World} {b o : Nat} {L : List Lt} (h : RL w b o L) {k : Nat} (hk : k < L.length) {l : Lt} (hl : l = L.getD k z) : w.cell? ⟨b, o + k * 5 + 3, none⟩ = some (.int .i64 l.cas) := by subst hl; exact h k hk 3 _ rfl
theorem RL.c4 {w : World} {b o : Nat} {L : List Lt} (h : RL w b o L) {k : Nat} (hk : k < L.length) {l : Lt} (hl : l = L.getD k z) : w.cell? ⟨b, o + k * 5 + 4, none⟩ = some (.int .i64 l.width) := by subst hl; exact h k hk 4 _ rfl
theorem RL.range {w : World} {b o : Nat} {L : List Lt} (h : RL w b o L) {k : Nat} (hk : k < L.length) {l : Lt} (hl : l = L.getD k z) : w.rangeAt b (o + k * 5) (lc l) := by subst hl; exact fun j v hv => h k hk j v hv
theorem Tryz.sizeLt : (Tryz.prog.info? 90).map (·.size) = some 5 := by kernel_rfl
theorem mX {w : World} {ops : Array Oper} {rest : List Oper} {o : Oper} {a : Act} {Q : Exit -> Act -> World -> Prop} (hgd : o.guard = none) (x : Operand) (ho : o.op = .load 90 x)
  (g q : Nat) (hx : a.eval x = .pointer (some ⟨g, q, none⟩)) (l : Lt) (hc : w.rangeAt g q (lc l))
  (h : wpList Tryz.prog ops Q rest (a.put o.dst (.agg #[.string (tb l.text), .int .i64 l.base, .int .i64 l.mark, .int .i64 l.cas, .int .i64 l.width])) w) : wpList Tryz.prog ops Q (o :: rest) a w :=
 wpList_load_mid hgd 90 x ho g q hx (lc l) _ hc Tryz.underlying90 rfl Tryz.sizeLt h
theorem Jq : Go.Maps.Keyed Tryz.prog 9 := Go.Maps.string_keyed Tryz.underlying9
theorem TA (w : World) : (zeroValue 3).run Tryz.prog w = .ok (.int .i64 0) w := by kernel_rfl
def key (t : B) : Lit := .string t
theorem NU {t : B} (h : t.length <= maxLen) : keyOf Tryz.prog 9 (.string (tb t)) = some (key t) := Go.WideMaps.keyOf_string_mk Tryz.underlying9 (by rw [kI]; exact h)
theorem Oi (t : B) : WideAt.IsKeyLit (key t) := trivial
theorem Mj {s t : B} (h : s ≠ t) : key s ≠ key t := fun e => h (by unfold key at e; simpa using e)
def jJ (w : World) (m : Nat) (L : List Lt) : Prop := ∃ (D : DataW Unit) (n : Nat), w.ownsMap Tryz.prog 9 (plainElem Tryz.prog 3) m n D /\ n <= L.length /\ (∀ t, Go.Maps.has D (key t) = (iO L t).isSome) /\
 (∀ t i, iO L t = some i -> ∀ zd, D.atKey (key t) zd = .lit (.int .i64 (i : Int))) /\ Go.Maps.size D <= L.length /\ (Go.Maps.size D = L.length ↔ (nU L).Nodup)
theorem jJ.made (w : World) : jJ (w.alloc (.map #[] 0)) w.heap.size [] :=
 ⟨_, 0, World.ownsMap_made w _ _ _, Nat.le_refl _, fun t => rfl, fun t i h => by simp [iO] at h, Nat.le_refl _, by simp [nU, Go.Maps.size]⟩
theorem jJ.below {w w' : World} {m : Nat} {L : List Lt} (h : jJ w m L) (hb : Bw w w') : jJ w' m L := by
 obtain ⟨D, n, h1, h2⟩ := h;exact ⟨D, n, h1.kept (row := none) ⟨hb.os, hb.tape, hb.output, hb.size, fun k hk _ => hb.block k hk⟩ (by simp), h2⟩
theorem jJ.skip {w : World} {m : Nat} {L : List Lt} {l : Lt} (h : jJ w m L) (hi : (iO L l.text).isSome = true) : jJ w m (L ++ [l]) := by
 obtain ⟨i, hi⟩ := Option.isSome_iff_exists.1 hi;obtain ⟨D, n, h1, h2, h3, h4, h5, h6⟩ := h;have e : ∀ t, iO (L ++ [l]) t = iO L t := fun t => by
  rw [JA]
  cases ht : iO L t with
  |some k => rfl
  |none =>
   by_cases hl : l.text = t
   ·subst hl; rw [hi] at ht; cases ht
   ·simp [hl]
 refine ⟨D, n, h1, by simp; omega, fun t => by rw [e]; exact h3 t, fun t k hk => h4 t k (by rw [<- e]; exact hk), by simp; omega, ?_⟩;rw [Ov, hi];simp;omega
theorem jJ.put {w w' : World} {m : Nat} {L : List Lt} {l : Lt} {D : DataW Unit} {n : Nat} (h1 : w.ownsMap Tryz.prog 9 (plainElem Tryz.prog 3) m n D) (h2 : n <= L.length) (h3 : ∀ t, Go.Maps.has D (key t) = (iO L t).isSome)
  (h4 : ∀ t i, iO L t = some i -> ∀ zd, D.atKey (key t) zd = .lit (.int .i64 (i : Int))) (h5 : Go.Maps.size D <= L.length) (h6 : Go.Maps.size D = L.length ↔ (nU L).Nodup) (hi : iO L l.text = none)
  (hw : w'.ownsMap Tryz.prog 9 (plainElem Tryz.prog 3) m (n + 1) (D.put (key l.text) (.lit (.int .i64 (L.length : Int))))) : jJ w' m (L ++ [l]) := by
 have hT := h1.tidy Jq;refine ⟨_, n + 1, hw, by simp; omega, fun t => ?_, fun t i ht zd => ?_, ?_, ?_⟩
 ·rw [JA]
  by_cases e : l.text = t
  · subst e;rw [Go.Maps.has_put_same hT.isMap (Oi _), hi];simp
  · rw [Go.Maps.has_put_other (Mj (Ne.symm e)), h3 t]
    cases iO L t <;> simp [e]
 ·rw [JA] at ht
  by_cases e : l.text = t
  · subst e;rw [hi] at ht;simp at ht;subst ht;exact Go.Maps.atKey_put_same hT.isMap (Oi _) _ _
  · rw [Go.Maps.atKey_put_other (Mj (Ne.symm e))]
    cases hx : iO L t with
    |none => rw [hx] at ht; simp [e] at ht
    |some k => rw [hx] at ht; exact h4 t i (hx.trans ht) zd
 ·rw [Go.Maps.size_put hT, h3, hi];simp;omega
 ·rw [Go.Maps.size_put hT, h3, hi, Ov, <- h6];simp [hi]
theorem MX {w : World} {ops : Array Oper} {rest : List Oper} {o : Oper} {a : Act} {Q : Exit -> Act -> World -> Prop} (hgd : o.guard = none) (m x : Operand) (hop : o.op = Op.lookup 98 m x true)
  (mb : Nat) (hm : a.eval m = .map (some mb)) {L : List Lt} (hM : jJ w mb L) (t : B) (ht : t.length <= maxLen) (hx : a.eval x = .string (tb t)) (v : Int) (b : Bool) (hv : v = (((iO L t).getD 0 : Nat) : Int)) (hb : b = (iO L t).isSome)
  (h : wpList Tryz.prog ops Q rest (a.put o.dst (.tuple #[.int .i64 v, .bool b])) w) : wpList Tryz.prog ops Q (o :: rest) a w := by
 obtain ⟨D, n, h1, h2, h3, h4, _, _⟩ := hM;refine wpList_lookup_own_ok_int w hgd m x 98 hop 9 3 .i64 Jq Tryz.underlying98 Tryz.underlying3 (TA w) mb n D hm h1 _ (key t) hx (NU ht) ?_;intro c hat _;have hc : c = v := by
  cases hi : iO L t with
  | none =>
    have hh : Go.Maps.has D (key t) = false := by rw [h3, hi]; rfl
    rw [Go.Maps.atKey_of_not_has hh] at hat;rw [hi] at hv;simp at hat hv;rw [hv, <- hat]
  | some i =>
    rw [h4 t i hi] at hat;rw [hi] at hv;simp at hat hv;rw [hv, <- hat]
 rw [hc, h3, <- hb];exact h
theorem U6 {w : World} {ops : Array Oper} {rest : List Oper} {o : Oper} {a : Act} {Q : Exit -> Act -> World -> Prop} (hgd : o.guard = none) (m x v : Operand) (hop : o.op = Op.mapUpdate 98 m x v)
  (mb : Nat) (hm : a.eval m = .map (some mb)) {L : List Lt} (hM : jJ w mb L) (l : Lt) (ht : l.text.length <= maxLen) (hx : a.eval x = .string (tb l.text)) (hi : iO L l.text = none) (k : Nat) (hlk : L.length = k) (hl : k < maxLen) (hv : a.eval v = .int .i64 (k : Int))
  (h : ∀ w', jJ w' mb (L ++ [l]) -> w.grownBy w' (some mb) -> wpList Tryz.prog ops Q rest (a.put o.dst undef) w') : wpList Tryz.prog ops Q (o :: rest) a w := by
 subst hlk;obtain ⟨D, n, h1, h2, h3, h4, h5, h6⟩ := hM;refine wpList_mapUpdate_own w hgd m x v 98 hop 9 3 Jq Tryz.underlying98 _ mb n D hm h1 (by omega) _ _ (key l.text) hx hv (NU ht) _ [] (plainElem_int Tryz.underlying3 (WalkArith.wf_i64 (by unfold maxLen at hl; omega))) ?_;intro w' hw hg;exact h w' (jJ.put h1 h2 h3 h4 h5 h6 hi hw) hg
theorem QM {P : Program} {t k e : TypeId} (ht : P.underlying t = some (.map k e)) (q : IntKind) (n : Int) (w : World) : (Instr.makeMap t (some (.int q n))).run P w = .ok (.map (some w.heap.size)) (w.alloc (.map #[] 0)) := by
 simp [Instr.makeMap, run_underlying ht, asInt, asIntOf, Result.andThen]
def Gc (w : World) (L : List Lt) (e : Ending) (w' : World) : Prop := ∃ m, e = .returned (.map (some m)) /\ w.heap.size <= m /\ jJ w' m L /\ Bw w w'
theorem Q6 {w w' : World} {L : List Lt} {e : Ending} (h : Gc w L e w') : ∃ m, e = .returned (.map (some m)) /\ w.heap.size <= m /\ jJ w' m L /\ Bw w w' := h
theorem UQ (L : List Lt) (n : Nat) (hn : n = L.length) (b o c : Nat) (hc : n <= c) (hm : c <= maxLen) (hs : ∀ l ∈ L, l.text.length <= maxLen) (w : World) (hr : RL w b o L) :
  Calls Tryz.prog 114 #[.slice (some ⟨b, o, none⟩) n c] w (Gc w L) := by
 have hm' : c <= 9223372036854775807 := by unfold maxLen at hm; omega
 have HN := Lh hn;have HR := Lh hr;have HS := Lh hs;have hmm := fun q n w => QM Tryz.underlying98 q n w
 clear hn hr hs;go_enter Tryz.func114, Tryz.ntmps114;go_wp2_with fail
 go_loopg [13] n (fun g pX wr => ∃ (k : Nat), k + g = n /\ pX = .int .i64 (k : Int) /\ Hid (jJ wr w.heap.size (L.take k) /\ Bw w wr))
 case atStart => exact ⟨0, by omega, rfl, Lh ⟨by rw [List.take_zero]; exact jJ.made w, ai _ _⟩⟩
 case round =>
  obtain ⟨k, hk, rfl, HI⟩ := hrel
  by_cases hlt : k < n
  ·obtain ⟨g, rfl⟩ : ∃ g, gk = g + 1 := ⟨gk - 1, by omega⟩;obtain ⟨l, hl⟩ := eX (L.getD k z);have eU : k < L.length := by rw [<- HN.out]; exact hlt
   have HT := LH (L.take (k + 1) = L.take k ++ [l]) (by rw [List.take_succ_eq_append_getElem eU, hl, OE eU]);have HX := LH (wr.rangeAt b (o + k * 5) (lc l)) ((HR.out.below (w' := wr) HI.out.2).range eU hl);have HLE := Lh hl;clear hl;have HL := LH (l.text.length <= maxLen) (HS.out l (by rw [HLE.out]; exact gU eU));have hkm : (L.take k).length = k := by rw [List.length_take]; omega
   have HK := Lh hkm;have yM : k < maxLen := by omega
   clear hkm
   cases hi : iO (L.take k) l.text with
   |some i =>
    have kg := Lh hi;clear hi
    go_wp2_with (first
     |(refine mX rfl (.tmp 16) rfl b (o + k * 5) rfl l HX.out ?_)
     |(refine MX rfl (.tmp 19) (.tmp 21) rfl w.heap.size rfl (HI.out.1.below (ai _ _)) l.text HL.out rfl (i : Int) true (by rw [kg.out]; rfl) (by rw [kg.out]; rfl) ?_))
    go_roundg g
    case rel => exact ⟨k + 1, by omega, by go_num, Lh ⟨by rw [HT.out]; exact (HI.out.1.below (ai _ _)).skip (by rw [kg.out]; rfl), aF HI.out.2 _⟩⟩
    case measure => omega
   |none =>
    have kg := Lh hi;clear hi
    go_wp2_with (first
     |(refine mX rfl (.tmp 16) rfl b (o + k * 5) rfl l HX.out ?_)
     |(refine MX rfl (.tmp 19) (.tmp 21) rfl w.heap.size rfl (HI.out.1.below (ai _ _)) l.text HL.out rfl 0 false (by rw [kg.out]; rfl) (by rw [kg.out]; rfl) ?_)
     |(refine U6 rfl (.tmp 27) (.tmp 29) (.tmp 30) rfl w.heap.size rfl (HI.out.1.below (ai _ _)) l HL.out rfl kg.out k HK.out yM rfl ?_; intro w2 lF hg2; have HX2 := LH (jJ w2 w.heap.size (L.take (k + 1)) /\ Bw w w2) ⟨by rw [HT.out]; exact lF, (aF HI.out.2 _).grown hg2 (aF HI.out.2 _).size (fun g hg => Nat.le_of_eq (Option.some.inj hg))⟩; clear lF hg2))
    go_roundg g
    case rel => exact ⟨k + 1, by omega, by go_num, HX2⟩
    case measure => omega
  ·obtain rfl : k = n := by omega
   have HE := LH (Gc w L (.returned (.map (some w.heap.size))) wr) ⟨w.heap.size, rfl, Nat.le_refl _, by have := HI.out.1; rwa [HN.out, List.take_length] at this, HI.out.2⟩;go_wp2_with fail;go_ret;exact HE.out
theorem GA {P : Program} {w : World} {ops : Array Oper} {o : Oper} {a : Act} {K : Act -> World -> Prop} {Q : Exit -> Act -> World -> Prop} {E : Prop} (hgd : o.guard = none) (ty : TypeId) (x y : Operand) (ho : o.op = .store ty x y)
  (g : Nat) (hx : a.eval x = .pointer (pt g)) (D : List Value) (hy : a.eval y = .agg D.toArray) {C : List Value} {T : TypeId} (hb : ae w g C T) (hi : (P.info? ty).map (·.size) = some D.length) (hD : D.length = C.length) (h1 : ∀ u ∈ D, u.oneCell' = true)
  (h : ∀ w1, aT w w1 g D T -> K (a.put o.dst undef) w1) : if Region.wanted o (yielded ops a.tmps) = true then Oper.wp P o a w K Q else E := by
 rw [if_pos (by simp [Region.wanted, hgd])];refine wp_store_mid ty x y ho g 0 D.toArray hx hy (hb.there 0 _ (by simpa using Nat.le_of_eq hD)) (by simpa using hi) (all_oneCell_toArray h1) ?_;have := aT.of_setCells hb 0 D (by omega);rw [List.take_zero, List.nil_append, List.drop_of_length_le (by omega), List.append_nil] at this;exact h _ this
theorem aT.cell {w w1 : World} {g : Nat} {D : List Value} {T : TypeId} (h : aT w w1 g D T) {b o : Nat} {v : Value} (hb : b ≠ g) (hc : w.cell? ⟨b, o, none⟩ = some v) : w1.cell? ⟨b, o, none⟩ = some v := by
 rw [<- hc];exact World.cell?_of_block (h.2.1 b hb)
theorem R6 {w W : World} (e : W.heap = w.heap) (p : Addr) : W.cell? p = w.cell? p := by unfold World.cell?; rw [e]
def IL (w : World) (b o : Nat) (l : List Int) : Prop := ∀ k, k < l.length -> w.cell? ⟨b, o + k, none⟩ = some (.int .i64 (l.getD k 0))
theorem vO {w : World} {A : Option Addr} {l : List Int} (h : Rd w A (iv l)) (hn : l ≠ []) : ∃ b o, A = some ⟨b, o, none⟩ /\ IL w b o l := by
 obtain ⟨b, o, hA, hc⟩ := h.open (QA hn);exact ⟨b, o, hA, fun k hk => hc k _ (Cy hk)⟩
theorem IL.below {w w' : World} {b o : Nat} {l : List Int} (h : IL w b o l) (hb : Bw w w') : IL w' b o l := fun k hk => by
 have h1 := h k hk;exact (hb.cell (p := ⟨b, o + k, none⟩) (World.block_lt_of_cell? w _ h1)).trans h1
theorem IL.at {w w' : World} {b o : Nat} {l : List Int} (h : IL w b o l) (hb : Bw w w') {k : Nat} (hk : k < l.length) {x : Int} (hx : x = l.getD k 0) : w'.cell? ⟨b, o + k, none⟩ = some (.int .i64 x) := by subst hx; exact h.below hb k hk
def bG (a b : Int) : Int := if a < b then -1 else if b < a then 1 else 0
namespace Rgx
inductive Rx where
 |mk (kind : Int) (syms : List Int) (kids : List Rx)
def Rx.kind : Rx -> Int
 |.mk k _ _ => k
def Rx.syms : Rx -> List Int
 |.mk _ s _ => s
def Rx.kids : Rx -> List Rx
 |.mk _ _ ks => ks
theorem jZ {r x : Rx} (h : x ∈ r.kids) : SizeOf.sizeOf x < SizeOf.sizeOf r := by
 cases r with
 |mk k s ks =>
  have h1 : SizeOf.sizeOf x < SizeOf.sizeOf ks := List.sizeOf_lt_of_mem h;show SizeOf.sizeOf x < SizeOf.sizeOf (Rx.mk k s ks);rw [Rx.mk.sizeOf_spec];omega
def bW (r : Rx) (i : Nat) : Rx := r.kids.getD i (.mk 0 [] [])
theorem vX {r : Rx} {i : Nat} (h : i < r.kids.length) : bW r i ∈ r.kids := by
 unfold bW;simp only [List.getD, List.getElem?_eq_getElem h, Option.getD_some];exact List.getElem_mem h
def jI : List Int -> Bool
 |[] => true
 |x :: t => decide (0 <= x /\ x < 64) && (match t with | [] => true | y :: _ => decide (x < y)) && jI t
def fO (l : List Int) : Bool := decide (0 < l.length) && jI l
mutual
def aC : Rx -> Bool
 |.mk k s ks => if k < 0 \/ 5 < k then false else if k = 2 then fO s && decide (ks.length = 0) else if 0 < s.length \/ (k <= 1 /\ 0 < ks.length) \/ (k = 5 /\ ks.length ≠ 1) then false else Cm ks
def Cm : List Rx -> Bool
 |[] => true
 |r :: rs => aC r && Cm rs
end
theorem Ji : ∀ ks : List Rx, Cm ks = ks.all aC
 |[] => by rw [Cm]; rfl
 |r :: rs => by rw [Cm, Ji rs]; rfl
theorem mF (r : Rx) : aC r = if r.kind < 0 \/ 5 < r.kind then false else if r.kind = 2 then fO r.syms && decide (r.kids.length = 0) else if 0 < r.syms.length \/ (r.kind <= 1 /\ 0 < r.kids.length) \/ (r.kind = 5 /\ r.kids.length ≠ 1) then false else r.kids.all aC := by
 cases r with
 |mk k s ks => rw [aC, Ji]; rfl
def nY (l : List Int) (i : Nat) : Prop := (0 <= l.getD i 0 /\ l.getD i 0 < 64) /\ (i = 0 \/ l.getD (i - 1) 0 < l.getD i 0)
theorem IC : ∀ l : List Int, jI l = true ↔ ∀ i, i < l.length -> nY l i
 |[] => by simp [jI]
 |[x] => by
  constructor
  ·intro h i hi;obtain rfl : i = 0 := by simpa using hi
   simp [jI] at h;exact ⟨by simpa using h, .inl rfl⟩
  ·intro h;have := (h 0 (by simp)).1;simp [jI]
   simpa using this
 |x :: y :: t => by
  have ih := IC (y :: t);have e : jI (x :: y :: t) = (decide (0 <= x /\ x < 64) && decide (x < y) && jI (y :: t)) := by rw [jI]
  rw [e, Bool.and_eq_true, Bool.and_eq_true, decide_eq_true_eq, decide_eq_true_eq, ih];constructor
  ·rintro ⟨⟨h1, h2⟩, h3⟩ i hi
   cases i with
   |zero => exact ⟨by simpa using h1, .inl rfl⟩
   |succ i =>
    have h4 := h3 i (by simpa using hi);refine ⟨by simpa [nY] using h4.1, .inr ?_⟩
    cases i with
    |zero => simpa using h2
    |succ i =>
     rcases h4.2 with h5 | h5
     ·omega
     ·simpa using h5
  ·intro h;refine ⟨⟨by have := (h 0 (by simp)).1; simpa using this, ?_⟩, fun i hi => ?_⟩
   ·rcases (h 1 (by simp)).2 with h5 | h5
    ·omega
    ·simpa using h5
   ·have h4 := h (i + 1) (by simpa using hi);refine ⟨by simpa [nY] using h4.1, ?_⟩
    cases i with
    |zero => exact .inl rfl
    |succ i =>
     right
     rcases h4.2 with h5 | h5
     ·omega
     ·simpa using h5
theorem Nh {l : List Int} (h0 : 0 < l.length) (h : ∀ i, i < l.length -> nY l i) : fO l = true := by
 unfold fO;rw [(IC l).2 h];simp [h0]
theorem Cv {l : List Int} {i : Nat} (hi : i < l.length) (h : ¬ nY l i) : fO l = false := by
 rw [Bool.eq_false_iff];intro e;unfold fO at e;rw [Bool.and_eq_true] at e;exact h ((IC l).1 e.2 i hi)
mutual
def nX (q : Int) : Rx -> Int
 |.mk _ _ ks => mZ q ks 1
def mZ (q : Int) : List Rx -> Int -> Int
 |[], n => n
 |r :: rs, n => if n <= q then mZ q rs (n + nX q r) else n
end
mutual
def az : Rx -> Int
 |.mk _ _ ks => 1 + aj ks
def aj : List Rx -> Int
 |[] => 0
 |r :: rs => az r + aj rs
end
mutual
theorem fQ : ∀ r : Rx, 1 <= az r
 |.mk k s ks => by rw [az]; have := iF ks; omega
theorem iF : ∀ rs : List Rx, 0 <= aj rs
 |[] => by rw [aj]; omega
 |r :: rs => by rw [aj]; have := fQ r; have := iF rs; omega
end
mutual
theorem IE (q : Int) : ∀ r : Rx, 1 <= nX q r /\ nX q r <= az r
 |.mk k s ks => by
  rw [nX, az]
  exact NT q ks 1
theorem NT (q : Int) : ∀ (rs : List Rx) (n : Int), n <= mZ q rs n /\ mZ q rs n <= n + aj rs
 |[], n => by rw [mZ, aj]; omega
 |r :: rs, n => by
  rw [mZ, aj]
  have h1 := IE q r
  have h2 := NT q rs (n + nX q r)
  have h3 := fQ r
  have h4 := iF rs
  split <;> omega
end
theorem Sw {q n : Int} {rs : List Rx} {i : Nat} (hi : i < rs.length) (hn : n <= q) : mZ q (rs.drop i) n = mZ q (rs.drop (i + 1)) (n + nX q rs[i]) := by
 rw [List.drop_eq_getElem_cons hi, mZ, if_pos hn]
theorem zB {rs : List Rx} {i : Nat} (hi : i < rs.length) : aj (rs.take (i + 1)) = aj (rs.take i) + az rs[i] := by
 induction rs generalizing i with
 |nil => simp at hi
 |cons r rs ih =>
  cases i with
  |zero => simp [aj]
  |succ i =>
   rw [List.take_succ_cons, List.take_succ_cons, aj, aj, ih (by simpa using hi)];simp;omega
theorem vU {rs : List Rx} (i : Nat) : aj (rs.take i) <= aj rs := by
 induction rs generalizing i with
 |nil => simp
 |cons r rs ih =>
  cases i with
  |zero => have := iF (r :: rs); simpa [aj] using this
  |succ i => rw [List.take_succ_cons, aj, aj]; have := ih i; omega
theorem Ni {r x : Rx} (h : x ∈ r.kids) : az x < az r := by
 cases r with
 |mk k s ks =>
  have h2 : ∀ l : List Rx, x ∈ l -> az x <= aj l := by
   intro l
   induction l with
   |nil => intro h; cases h
   |cons y l ih =>
    intro h;rw [aj];have h3 := iF l;have h4 := fQ y
    rcases List.mem_cons.1 h with rfl | h
    ·omega
    ·have := ih h; omega
  rw [az];have := h2 ks h;omega
theorem Qe (q : Int) (r : Rx) : nX q r = mZ q r.kids 1 := by cases r; rw [nX]; rfl
theorem fP (r : Rx) : az r = 1 + aj r.kids := by cases r; rw [az]; rfl
theorem xw {r : Rx} {i : Nat} (h : i < r.kids.length) : bW r i = r.kids[i] := by unfold bW; simp [List.getD, h]
mutual
def aO : Rx -> Bool
 |.mk k _ ks => if k = 3 then vP ks else if k = 4 then vW ks else decide (k = 1 \/ k = 5)
def vP : List Rx -> Bool
 |[] => true
 |r :: rs => aO r && vP rs
def vW : List Rx -> Bool
 |[] => false
 |r :: rs => aO r || vW rs
end
theorem Ob : ∀ ks : List Rx, vP ks = ks.all aO
 |[] => by rw [vP]; rfl
 |r :: rs => by rw [vP, Ob rs]; rfl
theorem LV : ∀ ks : List Rx, vW ks = ks.any aO
 |[] => by rw [vW]; rfl
 |r :: rs => by rw [vW, LV rs]; rfl
theorem CW (r : Rx) : aO r = if r.kind = 3 then r.kids.all aO else if r.kind = 4 then r.kids.any aO else decide (r.kind = 1 \/ r.kind = 5) := by
 cases r with
 |mk k s ks => rw [aO, Ob, LV]; rfl
def dI : List Int -> List Int -> Int
 |[], [] => 0
 |[], _ :: _ => -1
 |_ :: _, [] => 1
 |x :: xs, y :: ys => if bG x y ≠ 0 then bG x y else dI xs ys
mutual
def bI : Rx -> Rx -> Int
 |.mk k s ks, .mk k' s' ks' => if bG k k' ≠ 0 then bG k k' else if dI s s' ≠ 0 then dI s s' else cmpL ks ks'
def cmpL : List Rx -> List Rx -> Int
 |[], [] => 0
 |[], _ :: _ => -1
 |_ :: _, [] => 1
 |x :: xs, y :: ys => if bI x y ≠ 0 then bI x y else cmpL xs ys
end
theorem ql {a b : Int} : bG a b = 0 ↔ a = b := by
 unfold bG
 split
 ·omega
 ·split <;> omega
theorem CS : ∀ {a b : List Int}, dI a b = 0 ↔ a = b
 |[], [] => by simp [dI]
 |[], _ :: _ => by simp [dI]
 |_ :: _, [] => by simp [dI]
 |x :: xs, y :: ys => by
  rw [dI]
  by_cases h : bG x y = 0
  ·rw [if_neg (by simpa using h), CS, ql.1 h]; simp
  ·rw [if_pos h];constructor
   ·intro e; exact absurd e h
   ·intro e;have h1 : x = y := by injection e
    exact absurd (ql.2 h1) h
mutual
theorem qd : ∀ {a b : Rx}, bI a b = 0 ↔ a = b
 |.mk k s ks, .mk k' s' ks' => by
  rw [bI]
  by_cases h1 : bG k k' = 0
  ·rw [if_neg (by simpa using h1)]
   by_cases h2 : dI s s' = 0
   ·rw [if_neg (by simpa using h2), Nl, ql.1 h1, CS.1 h2]; simp
   ·rw [if_pos h2]
    constructor
    ·intro e; exact absurd e h2
    ·intro e
     have h3 : s = s' := by injection e
     exact absurd (CS.2 h3) h2
  ·rw [if_pos h1]
   constructor
   ·intro e; exact absurd e h1
   ·intro e
    have h3 : k = k' := by injection e
    exact absurd (ql.2 h3) h1
theorem Nl : ∀ {a b : List Rx}, cmpL a b = 0 ↔ a = b
 |[], [] => by simp [cmpL]
 |[], _ :: _ => by simp [cmpL]
 |_ :: _, [] => by simp [cmpL]
 |x :: xs, y :: ys => by
  rw [cmpL]
  by_cases h : bI x y = 0
  ·rw [if_neg (by simpa using h), Nl, qd.1 h]; simp
  ·rw [if_pos h]
   constructor
   ·intro e; exact absurd e h
   ·intro e
    have h1 : x = y := by injection e
    exact absurd (qd.2 h1) h
end
theorem I1 (a b : Rx) : bI a b = if bG a.kind b.kind ≠ 0 then bG a.kind b.kind else if dI a.syms b.syms ≠ 0 then dI a.syms b.syms else cmpL a.kids b.kids := by
 cases a with
 |mk k s ks => cases b with
  |mk k' s' ks' => rw [bI]; rfl
theorem F6 {s t : List Int} {i : Nat} (h : i = s.length \/ i = t.length) (hs : i <= s.length) (ht : i <= t.length) : dI (s.drop i) (t.drop i) = bG s.length t.length := by
 rcases h with h | h
 ·rw [h, List.drop_length]
  cases e : t.drop s.length with
  |nil =>
   have h1 := congrArg List.length e;rw [List.length_drop, List.length_nil] at h1;rw [dI, eq_comm, ql]; omega
  |cons y ys =>
   have h1 := congrArg List.length e;rw [List.length_drop, List.length_cons] at h1;rw [dI]; unfold bG; rw [if_pos (by omega)]
 ·rw [h, List.drop_length]
  cases e : s.drop t.length with
  |nil =>
   have h1 := congrArg List.length e;rw [List.length_drop, List.length_nil] at h1;rw [dI, eq_comm, ql]; omega
  |cons y ys =>
   have h1 := congrArg List.length e;rw [List.length_drop, List.length_cons] at h1;rw [dI]; unfold bG; rw [if_neg (by omega), if_pos (by omega)]
theorem NQ {s t : List Int} {i : Nat} (hs : i < s.length) (ht : i < t.length) : dI (s.drop i) (t.drop i) = if bG (s.getD i 0) (t.getD i 0) ≠ 0 then bG (s.getD i 0) (t.getD i 0) else dI (s.drop (i + 1)) (t.drop (i + 1)) := by
 rw [List.drop_eq_getElem_cons hs, List.drop_eq_getElem_cons ht, dI];simp [List.getD, hs, ht]
theorem zq {s t : List Rx} {i : Nat} (h : i = s.length \/ i = t.length) (hs : i <= s.length) (ht : i <= t.length) : cmpL (s.drop i) (t.drop i) = bG s.length t.length := by
 rcases h with h | h
 ·rw [h, List.drop_length]
  cases e : t.drop s.length with
  |nil =>
   have h1 := congrArg List.length e;rw [List.length_drop, List.length_nil] at h1;rw [cmpL, eq_comm, ql]; omega
  |cons y ys =>
   have h1 := congrArg List.length e;rw [List.length_drop, List.length_cons] at h1;rw [cmpL]; unfold bG; rw [if_pos (by omega)]
 ·rw [h, List.drop_length]
  cases e : s.drop t.length with
  |nil =>
   have h1 := congrArg List.length e;rw [List.length_drop, List.length_nil] at h1;rw [cmpL, eq_comm, ql]; omega
  |cons y ys =>
   have h1 := congrArg List.length e;rw [List.length_drop, List.length_cons] at h1;rw [cmpL]; unfold bG; rw [if_neg (by omega), if_pos (by omega)]
theorem Ju {s t : List Rx} {i : Nat} (hs : i < s.length) (ht : i < t.length) : cmpL (s.drop i) (t.drop i) = if bI s[i] t[i] ≠ 0 then bI s[i] t[i] else cmpL (s.drop (i + 1)) (t.drop (i + 1)) := by
 rw [List.drop_eq_getElem_cons hs, List.drop_eq_getElem_cons ht, cmpL]
def seqGo : List Rx -> List Rx -> Option (List Rx)
 |[], out => some out
 |r :: rs, out => if r.kind = 0 then none else if r.kind = 3 then seqGo rs (out ++ r.kids) else if r.kind = 1 then seqGo rs out else seqGo rs (out ++ [r])
def seqEnd : List Rx -> Rx
 |[] => .mk 1 [] []
 |[x] => x
 |out => .mk 3 [] out
def seqP (l : List Rx) : Rx := match seqGo l [] with
 |none => .mk 0 [] []
 |some out => seqEnd out
theorem KL {l out : List Rx} {i : Nat} (hi : i < l.length) : seqGo (l.drop i) out = if l[i].kind = 0 then none else if l[i].kind = 3 then seqGo (l.drop (i + 1)) (out ++ l[i].kids) else if l[i].kind = 1 then seqGo (l.drop (i + 1)) out else seqGo (l.drop (i + 1)) (out ++ [l[i]]) := by
 rw [List.drop_eq_getElem_cons hi, seqGo]
theorem mW : ∀ l : List Rx, (l.length : Int) <= aj l
 |[] => by rw [aj]; simp
 |r :: rs => by rw [aj, List.length_cons]; have := mW rs; have := fQ r; omega
theorem vZ (r : Rx) : (r.kids.length : Int) < az r := by rw [fP]; have := mW r.kids; omega
end Rgx
namespace Rgx
mutual
def iE (w : World) : Rx -> Value -> Value -> Prop
 |.mk k s ks, v1, v2 => (fM k /\ ∀ x ∈ s, fM x) /\ (∃ A n c, v1 = .slice A n c /\ n = s.length /\ n <= c /\ c <= maxLen /\ Rd w A (iv s)) /\ ∃ B m d, v2 = .slice B m d /\ m = ks.length /\ m <= d /\ d <= maxLen /\ dU w ks B 0
def dU (w : World) : List Rx -> Option Addr -> Nat -> Prop
 |[], _, _ => True
 |r :: rs, B, i => (∃ b o v1 v2, B = some ⟨b, o, none⟩ /\ w.cell? ⟨b, o + i * 3, none⟩ = some (.int .i64 r.kind) /\ w.cell? ⟨b, o + i * 3 + 1, none⟩ = some v1 /\ w.cell? ⟨b, o + i * 3 + 2, none⟩ = some v2 /\ iE w r v1 v2) /\ dU w rs B (i + 1)
end
theorem iE.iff (w : World) (r : Rx) (v1 v2 : Value) : iE w r v1 v2 ↔ (fM r.kind /\ ∀ x ∈ r.syms, fM x) /\ (∃ A n c, v1 = .slice A n c /\ n = r.syms.length /\ n <= c /\ c <= maxLen /\ Rd w A (iv r.syms)) /\ ∃ B m d, v2 = .slice B m d /\ m = r.kids.length /\ m <= d /\ d <= maxLen /\ dU w r.kids B 0 := by
 cases r with
 |mk k s ks => rw [iE]; rfl
theorem dU.get {w : World} {B : Option Addr} : ∀ {ks : List Rx} {j : Nat}, dU w ks B j -> ∀ i (h : i < ks.length), ∃ b o v1 v2, B = some ⟨b, o, none⟩ /\ w.cell? ⟨b, o + (j + i) * 3, none⟩ = some (.int .i64 ks[i].kind) /\ w.cell? ⟨b, o + (j + i) * 3 + 1, none⟩ = some v1 /\ w.cell? ⟨b, o + (j + i) * 3 + 2, none⟩ = some v2 /\ iE w ks[i] v1 v2
 |[], j, _, i, h => absurd h (by simp)
 |r :: rs, j, hk, i, h => by
  rw [dU] at hk
  cases i with
  |zero => exact hk.1
  |succ i =>
   have h2 := dU.get hk.2 i (by simpa using h);have e : j + 1 + i = j + (i + 1) := by omega
   rw [e] at h2;exact h2
mutual
theorem iE.below {w w' : World} (hb : Bw w w') : ∀ (r : Rx) {v1 v2 : Value}, iE w r v1 v2 -> iE w' r v1 v2
 |.mk k s ks, v1, v2, h => by
  rw [iE] at h ⊢
  obtain ⟨h0, ⟨A, n, c, e1, e2, e3, e4, e5⟩, B, m, d, f1, f2, f3, f4, f5⟩ := h
  exact ⟨h0, ⟨A, n, c, e1, e2, e3, e4, e5.below hb⟩, B, m, d, f1, f2, f3, f4, dU.below hb ks f5⟩
theorem dU.below {w w' : World} (hb : Bw w w') : ∀ (ks : List Rx) {B : Option Addr} {j : Nat}, dU w ks B j -> dU w' ks B j
 |[], _, _, _ => by rw [dU]; trivial
 |r :: rs, B, j, h => by
  rw [dU] at h ⊢
  obtain ⟨⟨b, o, v1, v2, e1, e2, e3, e4, e5⟩, h2⟩ := h
  exact ⟨⟨b, o, v1, v2, e1, (hb.cell (p := ⟨b, _, none⟩) (World.block_lt_of_cell? w _ e2)).trans e2, (hb.cell (p := ⟨b, _, none⟩) (World.block_lt_of_cell? w _ e3)).trans e3, (hb.cell (p := ⟨b, _, none⟩) (World.block_lt_of_cell? w _ e4)).trans e4, iE.below hb r e5⟩, dU.below hb rs h2⟩
end
def qi (w : World) (v : Value) (r : Rx) : Prop := ∃ v1 v2, v = .agg #[.int .i64 r.kind, v1, v2] /\ iE w r v1 v2
structure aI (w : World) (r : Rx) (A : Option Addr) (n c : Nat) (B : Option Addr) (m d : Nat) : Prop where
 kin : fM r.kind
 sin : ∀ x ∈ r.syms, fM x
 nlen : n = r.syms.length
 ncap : n <= c
 cmax : c <= 9223372036854775807
 syms : Rd w A (iv r.syms)
 mlen : m = r.kids.length
 mcap : m <= d
 dmax : d <= 9223372036854775807
 kids : dU w r.kids B 0
theorem qi.op {w : World} {v : Value} {r : Rx} (h : qi w v r) : ∃ A n c B m d, v = .agg #[.int .i64 r.kind, .slice A n c, .slice B m d] /\ aI w r A n c B m d := by
 obtain ⟨v1, v2, e, h⟩ := h;obtain ⟨⟨h0, h1⟩, ⟨A, n, c, rfl, e2, e3, e4, e5⟩, B, m, d, rfl, f2, f3, f4, f5⟩ := (iE.iff w r v1 v2).1 h;exact ⟨A, n, c, B, m, d, e, h0, h1, e2, e3, by unfold maxLen at e4; exact e4, e5, f2, f3, by unfold maxLen at f4; exact f4, f5⟩
theorem aI.v {w : World} {r : Rx} {A : Option Addr} {n c : Nat} {B : Option Addr} {m d : Nat} (h : aI w r A n c B m d) : qi w (.agg #[.int .i64 r.kind, .slice A n c, .slice B m d]) r :=
 ⟨_, _, rfl, (iE.iff w r _ _).2 ⟨⟨h.kin, h.sin⟩, ⟨A, n, c, rfl, h.nlen, h.ncap, by unfold maxLen; exact h.cmax, h.syms⟩, B, m, d, rfl, h.mlen, h.mcap, by unfold maxLen; exact h.dmax, h.kids⟩⟩
theorem aI.below {w w' : World} {r : Rx} {A : Option Addr} {n c : Nat} {B : Option Addr} {m d : Nat} (h : aI w r A n c B m d) (hb : Bw w w') : aI w' r A n c B m d :=
 ⟨h.kin, h.sin, h.nlen, h.ncap, h.cmax, h.syms.below hb, h.mlen, h.mcap, h.dmax, dU.below hb _ h.kids⟩
theorem aI.place {w : World} {r : Rx} {A : Option Addr} {n c : Nat} {B : Option Addr} {m d : Nat} (h : aI w r A n c B m d) : ∃ b o, (m = 0 \/ B = some ⟨b, o, none⟩) := by
 by_cases h0 : m = 0
 ·exact ⟨0, 0, .inl h0⟩
 ·obtain ⟨b, o, _, _, e, _⟩ := h.kids.get 0 (by have := h.mlen; omega);exact ⟨b, o, .inr e⟩
theorem aI.kid {w : World} {r : Rx} {A : Option Addr} {n c : Nat} {b o m d : Nat} (h : aI w r A n c (some ⟨b, o, none⟩) m d) {i : Nat} (hi : i < m) : ∃ A' n' c' B' m' d', w.rangeAt b (o + i * 3) [.int .i64 (bW r i).kind, .slice A' n' c', .slice B' m' d'] /\ aI w (bW r i) A' n' c' B' m' d' := by
 have hl : i < r.kids.length := by rw [<- h.mlen]; exact hi
 obtain ⟨b', o', v1, v2, e, h1, h2, h3, h4⟩ := h.kids.get i hl;obtain ⟨rfl, rfl⟩ : b = b' /\ o = o' := by simpa using e
 rw [Nat.zero_add] at h1 h2 h3;have ek : bW r i = r.kids[i] := by unfold bW; simp [List.getD, hl]
 obtain ⟨A', n', c', B', m', d', e2, hop⟩ := qi.op (show qi w (.agg #[.int .i64 (bW r i).kind, v1, v2]) (bW r i) from ⟨v1, v2, rfl, by rw [ek]; exact h4⟩);simp only [Value.agg.injEq, Array.mk.injEq, List.cons.injEq, and_true, true_and] at e2;obtain ⟨rfl, rfl⟩ := e2;refine ⟨A', n', c', B', m', d', fun j v hv => ?_, hop⟩
 match j, hv with
 |0, hv => rw [<- ek] at h1; simpa using (by simpa using hv : Value.int IntKind.i64 (bW r i).kind = v) ▸ h1
 |1, hv => exact (by simpa using hv : Value.slice A' n' c' = v) ▸ h2
 |2, hv => exact (by simpa using hv : Value.slice B' m' d' = v) ▸ h3
end Rgx
def aU (w : World) (b : Bool) (e : Ending) (w' : World) : Prop := e = .returned (.bool b) /\ Bw w w'
theorem o7 {t : B} (ht : t.length <= maxLen) {p : Bool} (hp : plain t = p) : Hid (∀ W, Calls Tryz.prog 137 #[.string (tb t)] W fun e w' => e = .returned (.bool p) /\ w' = W) := Lh fun W => (Ql t ht W).mono fun e w' h => by rw [hp] at h; exact ⟨h.1, h.2.symm⟩
theorem qc (A : Option Addr) (n c : Nat) (x : Int) {p : Bool} (h : decide (0 <= x /\ x < n) = p) : Hid (∀ W, Calls Tryz.prog 138 #[.slice A n c, .int .i64 x] W fun e w' => e = .returned (.bool p) /\ w' = W) := Lh fun W => (TZ A n c x W p h.symm).mono fun e w' h => ⟨h.1, h.2.symm⟩
theorem aV {w w' : World} {b : Bool} {e : Ending} (h : aU w b e w') : e = .returned (.bool b) /\ Bw w w' := h
theorem Ui (t : B) (bs mk cs wd : Int) (n c b o k : Nat) (hk : k < n) (hc : n <= c) (hm : c <= maxLen) (ht : t.length <= maxLen) (hp : plain t = false) (w : World) (hr : w.rangeAt b (o + k * 5) (lc ⟨t, bs, mk, cs, wd⟩)) :
  Calls Tryz.prog 113 #[.slice (some ⟨b, o, none⟩) n c, .int .i64 (k : Int)] w (aU w false) := by
 have HQ := o7 ht hp;have HX := Lh hr;clear hr hp;go_enter Tryz.func113, Tryz.ntmps113
 go_wp2_with (refine mX rfl (.tmp 8) rfl b (o + k * 5) rfl ⟨t, bs, mk, cs, wd⟩ HX.out ?_)
 go_quiet ((go_at_call 137; exact Calls.quiet_of_same (HQ.out _)));go_wp2_with fail;go_ret;exact ⟨rfl, below_drewN (ai _ _) _⟩
theorem WM (t : B) (bs mk cs wd : Int) (n c b o k : Nat) (hk : k < n) (hc : n <= c) (hm : c <= maxLen) (ht : t.length <= maxLen) (hp : plain t = true) (h0 : ¬ (0 <= bs /\ bs < n)) (w : World) (hr : w.rangeAt b (o + k * 5) (lc ⟨t, bs, mk, cs, wd⟩)) :
  Calls Tryz.prog 113 #[.slice (some ⟨b, o, none⟩) n c, .int .i64 (k : Int)] w (aU w false) := by
 have HQ := o7 ht hp;have HH := qc (some ⟨b, o, none⟩) n c bs (dF h0);have HX := Lh hr;clear hr hp h0;go_enter Tryz.func113, Tryz.ntmps113
 go_wp2_with (refine mX rfl (.tmp 8) rfl b (o + k * 5) rfl ⟨t, bs, mk, cs, wd⟩ HX.out ?_)
 go_quiet ((first | (go_at_call 137; exact Calls.quiet_of_same (HQ.out _)) | (go_at_call 138; exact Calls.quiet_of_same (HH.out _))));go_wp2_with fail;go_ret;exact ⟨rfl, below_drewN (ai _ _) _⟩
theorem Qv (t : B) (q : Nat) (mk cs wd : Int) (n c b o k : Nat) (hk : k < n) (hc : n <= c) (hm : c <= maxLen) (ht : t.length <= maxLen) (hp : plain t = true) (hq : q < n) (x : Int) (hx : x ≠ q) (w : World) (hr : w.rangeAt b (o + k * 5) (lc ⟨t, (q : Int), mk, cs, wd⟩)) (bS : w.cell? ⟨b, o + q * 5 + 1, none⟩ = some (.int .i64 x)) :
  Calls Tryz.prog 113 #[.slice (some ⟨b, o, none⟩) n c, .int .i64 (k : Int)] w (aU w false) := by
 have h0 : (0 : Int) <= q /\ (q : Int) < n := by omega
 have HQ := o7 ht hp;have HH := qc (some ⟨b, o, none⟩) n c (q : Int) (dT h0);have HX := Lh hr;have hne : (x != (q : Int)) = true := bne_iff_ne.2 hx;have hbl := World.block_lt_of_cell? w _ bS;have qD := (World.cell?_alloc_lt w (.cells #[.string (tb t), .int .i64 (q : Int), .int .i64 mk, .int .i64 cs, .int .i64 wd] 90) ⟨b, o + q * 5 + 1, none⟩ hbl).trans bS;clear hr hp h0 hx bS hbl;go_enter Tryz.func113, Tryz.ntmps113
 go_wp2_with (refine mX rfl (.tmp 8) rfl b (o + k * 5) rfl ⟨t, (q : Int), mk, cs, wd⟩ HX.out ?_)
 go_quiet ((first | (go_at_call 137; exact Calls.quiet_of_same (HQ.out _)) | (go_at_call 138; exact Calls.quiet_of_same (HH.out _))));go_wp2_with fail;go_ret;exact ⟨rfl, below_drewN (ai _ _) _⟩
theorem U3 (t : B) (q : Nat) (mk cs wd : Int) (n c b o k : Nat) (hk : k < n) (hc : n <= c) (hm : c <= maxLen) (ht : t.length <= maxLen) (hp : plain t = true) (hq : q < n) (g0 : mk < 0) (w : World) (hr : w.rangeAt b (o + k * 5) (lc ⟨t, (q : Int), mk, cs, wd⟩)) (bS : w.cell? ⟨b, o + q * 5 + 1, none⟩ = some (.int .i64 (q : Int))) :
  Calls Tryz.prog 113 #[.slice (some ⟨b, o, none⟩) n c, .int .i64 (k : Int)] w (aU w false) := by
 have h0 : (0 : Int) <= q /\ (q : Int) < n := by omega
 have HQ := o7 ht hp;have HH := qc (some ⟨b, o, none⟩) n c (q : Int) (dT h0);have HX := Lh hr;have hbl := World.block_lt_of_cell? w _ bS;have qD := (World.cell?_alloc_lt w (.cells #[.string (tb t), .int .i64 (q : Int), .int .i64 mk, .int .i64 cs, .int .i64 wd] 90) ⟨b, o + q * 5 + 1, none⟩ hbl).trans bS;clear hr hp h0 bS hbl;go_enter Tryz.func113, Tryz.ntmps113
 go_wp2_with (refine mX rfl (.tmp 8) rfl b (o + k * 5) rfl ⟨t, (q : Int), mk, cs, wd⟩ HX.out ?_)
 go_quiet ((first | (go_at_call 137; exact Calls.quiet_of_same (HQ.out _)) | (go_at_call 138; exact Calls.quiet_of_same (HH.out _))));go_wp2_with fail;go_ret;exact ⟨rfl, below_drewN (ai _ _) _⟩
theorem Qf (t : B) (q : Nat) (mk cs wd : Int) (n c b o k : Nat) (hk : k < n) (hc : n <= c) (hm : c <= maxLen) (ht : t.length <= maxLen) (hp : plain t = true) (hq : q < n) (g0 : 0 <= mk) (g1 : 15 < mk) (w : World) (hr : w.rangeAt b (o + k * 5) (lc ⟨t, (q : Int), mk, cs, wd⟩)) (bS : w.cell? ⟨b, o + q * 5 + 1, none⟩ = some (.int .i64 (q : Int))) :
  Calls Tryz.prog 113 #[.slice (some ⟨b, o, none⟩) n c, .int .i64 (k : Int)] w (aU w false) := by
 have h0 : (0 : Int) <= q /\ (q : Int) < n := by omega
 have HQ := o7 ht hp;have HH := qc (some ⟨b, o, none⟩) n c (q : Int) (dT h0);have HX := Lh hr;have hbl := World.block_lt_of_cell? w _ bS;have qD := (World.cell?_alloc_lt w (.cells #[.string (tb t), .int .i64 (q : Int), .int .i64 mk, .int .i64 cs, .int .i64 wd] 90) ⟨b, o + q * 5 + 1, none⟩ hbl).trans bS;clear hr hp h0 bS hbl;have d0 : decide (mk < 0) = false := dF (by omega);go_enter Tryz.func113, Tryz.ntmps113
 go_wp2_with (refine mX rfl (.tmp 8) rfl b (o + k * 5) rfl ⟨t, (q : Int), mk, cs, wd⟩ HX.out ?_)
 go_quiet ((first | (go_at_call 137; exact Calls.quiet_of_same (HQ.out _)) | (go_at_call 138; exact Calls.quiet_of_same (HH.out _))));go_wp2_with fail;go_ret;exact ⟨rfl, below_drewN (ai _ _) _⟩
theorem VL (t : B) (q : Nat) (mk cs wd : Int) (n c b o k : Nat) (hk : k < n) (hc : n <= c) (hm : c <= maxLen) (ht : t.length <= maxLen) (hp : plain t = true) (hq : q < n) (g0 : 0 <= mk) (g1 : mk <= 15) (g2 : cs < 0) (w : World) (hr : w.rangeAt b (o + k * 5) (lc ⟨t, (q : Int), mk, cs, wd⟩)) (bS : w.cell? ⟨b, o + q * 5 + 1, none⟩ = some (.int .i64 (q : Int))) :
  Calls Tryz.prog 113 #[.slice (some ⟨b, o, none⟩) n c, .int .i64 (k : Int)] w (aU w false) := by
 have h0 : (0 : Int) <= q /\ (q : Int) < n := by omega
 have HQ := o7 ht hp;have HH := qc (some ⟨b, o, none⟩) n c (q : Int) (dT h0);have HX := Lh hr;have hbl := World.block_lt_of_cell? w _ bS;have qD := (World.cell?_alloc_lt w (.cells #[.string (tb t), .int .i64 (q : Int), .int .i64 mk, .int .i64 cs, .int .i64 wd] 90) ⟨b, o + q * 5 + 1, none⟩ hbl).trans bS;clear hr hp h0 bS hbl;have d0 : decide (mk < 0) = false := dF (by omega);have d1 : decide (15 < mk) = false := dF (by omega);go_enter Tryz.func113, Tryz.ntmps113
 go_wp2_with (refine mX rfl (.tmp 8) rfl b (o + k * 5) rfl ⟨t, (q : Int), mk, cs, wd⟩ HX.out ?_)
 go_quiet ((first | (go_at_call 137; exact Calls.quiet_of_same (HQ.out _)) | (go_at_call 138; exact Calls.quiet_of_same (HH.out _))));go_wp2_with fail;go_ret;exact ⟨rfl, below_drewN (ai _ _) _⟩
theorem QH (t : B) (q : Nat) (mk cs wd : Int) (n c b o k : Nat) (hk : k < n) (hc : n <= c) (hm : c <= maxLen) (ht : t.length <= maxLen) (hp : plain t = true) (hq : q < n) (g0 : 0 <= mk) (g1 : mk <= 15) (g2 : 0 <= cs) (g3 : 1 < cs) (w : World) (hr : w.rangeAt b (o + k * 5) (lc ⟨t, (q : Int), mk, cs, wd⟩)) (bS : w.cell? ⟨b, o + q * 5 + 1, none⟩ = some (.int .i64 (q : Int))) :
  Calls Tryz.prog 113 #[.slice (some ⟨b, o, none⟩) n c, .int .i64 (k : Int)] w (aU w false) := by
 have h0 : (0 : Int) <= q /\ (q : Int) < n := by omega
 have HQ := o7 ht hp;have HH := qc (some ⟨b, o, none⟩) n c (q : Int) (dT h0);have HX := Lh hr;have hbl := World.block_lt_of_cell? w _ bS;have qD := (World.cell?_alloc_lt w (.cells #[.string (tb t), .int .i64 (q : Int), .int .i64 mk, .int .i64 cs, .int .i64 wd] 90) ⟨b, o + q * 5 + 1, none⟩ hbl).trans bS;clear hr hp h0 bS hbl;have d0 : decide (mk < 0) = false := dF (by omega);have d1 : decide (15 < mk) = false := dF (by omega);have d2 : decide (cs < 0) = false := dF (by omega);go_enter Tryz.func113, Tryz.ntmps113
 go_wp2_with (refine mX rfl (.tmp 8) rfl b (o + k * 5) rfl ⟨t, (q : Int), mk, cs, wd⟩ HX.out ?_)
 go_quiet ((first | (go_at_call 137; exact Calls.quiet_of_same (HQ.out _)) | (go_at_call 138; exact Calls.quiet_of_same (HH.out _))));go_wp2_with fail;go_ret;exact ⟨rfl, below_drewN (ai _ _) _⟩
theorem Us (t : B) (q : Nat) (mk cs wd : Int) (n c b o k : Nat) (hk : k < n) (hc : n <= c) (hm : c <= maxLen) (ht : t.length <= maxLen) (hp : plain t = true) (hq : q < n) (g0 : 0 <= mk) (g1 : mk <= 15) (g2 : 0 <= cs) (g3 : cs <= 1) (g4 : wd < 1) (w : World) (hr : w.rangeAt b (o + k * 5) (lc ⟨t, (q : Int), mk, cs, wd⟩)) (bS : w.cell? ⟨b, o + q * 5 + 1, none⟩ = some (.int .i64 (q : Int))) :
  Calls Tryz.prog 113 #[.slice (some ⟨b, o, none⟩) n c, .int .i64 (k : Int)] w (aU w false) := by
 have h0 : (0 : Int) <= q /\ (q : Int) < n := by omega
 have HQ := o7 ht hp;have HH := qc (some ⟨b, o, none⟩) n c (q : Int) (dT h0);have HX := Lh hr;have hbl := World.block_lt_of_cell? w _ bS;have qD := (World.cell?_alloc_lt w (.cells #[.string (tb t), .int .i64 (q : Int), .int .i64 mk, .int .i64 cs, .int .i64 wd] 90) ⟨b, o + q * 5 + 1, none⟩ hbl).trans bS;clear hr hp h0 bS hbl;have d0 : decide (mk < 0) = false := dF (by omega);have d1 : decide (15 < mk) = false := dF (by omega);have d2 : decide (cs < 0) = false := dF (by omega);have d3 : decide (1 < cs) = false := dF (by omega);go_enter Tryz.func113, Tryz.ntmps113
 go_wp2_with (refine mX rfl (.tmp 8) rfl b (o + k * 5) rfl ⟨t, (q : Int), mk, cs, wd⟩ HX.out ?_)
 go_quiet ((first | (go_at_call 137; exact Calls.quiet_of_same (HQ.out _)) | (go_at_call 138; exact Calls.quiet_of_same (HH.out _))));go_wp2_with fail;go_ret;exact ⟨rfl, below_drewN (ai _ _) _⟩
theorem Vb (t : B) (q : Nat) (mk cs wd : Int) (n c b o k : Nat) (hk : k < n) (hc : n <= c) (hm : c <= maxLen) (ht : t.length <= maxLen) (hp : plain t = true) (hq : q < n) (g0 : 0 <= mk) (g1 : mk <= 15) (g2 : 0 <= cs) (g3 : cs <= 1) (g4 : 1 <= wd) (g5 : 1000 < wd) (w : World) (hr : w.rangeAt b (o + k * 5) (lc ⟨t, (q : Int), mk, cs, wd⟩)) (bS : w.cell? ⟨b, o + q * 5 + 1, none⟩ = some (.int .i64 (q : Int))) :
  Calls Tryz.prog 113 #[.slice (some ⟨b, o, none⟩) n c, .int .i64 (k : Int)] w (aU w false) := by
 have h0 : (0 : Int) <= q /\ (q : Int) < n := by omega
 have HQ := o7 ht hp;have HH := qc (some ⟨b, o, none⟩) n c (q : Int) (dT h0);have HX := Lh hr;have hbl := World.block_lt_of_cell? w _ bS;have qD := (World.cell?_alloc_lt w (.cells #[.string (tb t), .int .i64 (q : Int), .int .i64 mk, .int .i64 cs, .int .i64 wd] 90) ⟨b, o + q * 5 + 1, none⟩ hbl).trans bS;clear hr hp h0 bS hbl;have d0 : decide (mk < 0) = false := dF (by omega);have d1 : decide (15 < mk) = false := dF (by omega);have d2 : decide (cs < 0) = false := dF (by omega);have d3 : decide (1 < cs) = false := dF (by omega);have d4 : decide (wd < 1) = false := dF (by omega);go_enter Tryz.func113, Tryz.ntmps113
 go_wp2_with (refine mX rfl (.tmp 8) rfl b (o + k * 5) rfl ⟨t, (q : Int), mk, cs, wd⟩ HX.out ?_)
 go_quiet ((first | (go_at_call 137; exact Calls.quiet_of_same (HQ.out _)) | (go_at_call 138; exact Calls.quiet_of_same (HH.out _))));go_wp2_with fail;go_ret;exact ⟨rfl, below_drewN (ai _ _) _⟩
theorem Rh (t : B) (q : Nat) (mk cs wd : Int) (n c b o k : Nat) (hk : k < n) (hc : n <= c) (hm : c <= maxLen) (ht : t.length <= maxLen) (hp : plain t = true) (hq : q < n) (g0 : 0 <= mk) (g1 : mk <= 15) (g2 : 0 <= cs) (g3 : cs <= 1) (g4 : 1 <= wd) (g5 : wd <= 1000) (rV : q ≠ k) (w : World) (hr : w.rangeAt b (o + k * 5) (lc ⟨t, (q : Int), mk, cs, wd⟩)) (bS : w.cell? ⟨b, o + q * 5 + 1, none⟩ = some (.int .i64 (q : Int))) :
  Calls Tryz.prog 113 #[.slice (some ⟨b, o, none⟩) n c, .int .i64 (k : Int)] w (aU w true) := by
 have h0 : (0 : Int) <= q /\ (q : Int) < n := by omega
 have HQ := o7 ht hp;have HH := qc (some ⟨b, o, none⟩) n c (q : Int) (dT h0);have HX := Lh hr;have hbl := World.block_lt_of_cell? w _ bS;have qD := (World.cell?_alloc_lt w (.cells #[.string (tb t), .int .i64 (q : Int), .int .i64 mk, .int .i64 cs, .int .i64 wd] 90) ⟨b, o + q * 5 + 1, none⟩ hbl).trans bS;clear hr hp h0 bS hbl;have d0 : decide (mk < 0) = false := dF (by omega);have d1 : decide (15 < mk) = false := dF (by omega);have d2 : decide (cs < 0) = false := dF (by omega);have d3 : decide (1 < cs) = false := dF (by omega);have d4 : decide (wd < 1) = false := dF (by omega);have d5 : decide (1000 < wd) = false := dF (by omega);have e1 : ((q : Int) != (k : Int)) = true := bne_iff_ne.2 (by omega);go_enter Tryz.func113, Tryz.ntmps113
 go_wp2_with (refine mX rfl (.tmp 8) rfl b (o + k * 5) rfl ⟨t, (q : Int), mk, cs, wd⟩ HX.out ?_)
 go_quiet ((first | (go_at_call 137; exact Calls.quiet_of_same (HQ.out _)) | (go_at_call 138; exact Calls.quiet_of_same (HH.out _))));go_wp2_with fail;go_ret;exact ⟨rfl, below_drewN (ai _ _) _⟩
theorem VW (t : B) (q : Nat) (mk cs wd : Int) (n c b o k : Nat) (hk : k < n) (hc : n <= c) (hm : c <= maxLen) (ht : t.length <= maxLen) (hp : plain t = true) (hq : q < n) (g0 : 0 <= mk) (g1 : mk <= 15) (g2 : 0 <= cs) (g3 : cs <= 1) (g4 : 1 <= wd) (g5 : wd <= 1000) (rV : q = k) (ja : mk = 0) (hc0 : cs = 0) (w : World) (hr : w.rangeAt b (o + k * 5) (lc ⟨t, (q : Int), mk, cs, wd⟩)) (bS : w.cell? ⟨b, o + q * 5 + 1, none⟩ = some (.int .i64 (q : Int))) :
  Calls Tryz.prog 113 #[.slice (some ⟨b, o, none⟩) n c, .int .i64 (k : Int)] w (aU w true) := by
 have h0 : (0 : Int) <= q /\ (q : Int) < n := by omega
 have HQ := o7 ht hp;have HH := qc (some ⟨b, o, none⟩) n c (q : Int) (dT h0);have HX := Lh hr;have hbl := World.block_lt_of_cell? w _ bS;have qD := (World.cell?_alloc_lt w (.cells #[.string (tb t), .int .i64 (q : Int), .int .i64 mk, .int .i64 cs, .int .i64 wd] 90) ⟨b, o + q * 5 + 1, none⟩ hbl).trans bS;clear hr hp h0 bS hbl;subst rV ja hc0;have d4 : decide (wd < 1) = false := dF (by omega);have d5 : decide (1000 < wd) = false := dF (by omega);go_enter Tryz.func113, Tryz.ntmps113
 go_wp2_with (refine mX rfl (.tmp 8) rfl b (o + q * 5) rfl ⟨t, (q : Int), 0, 0, wd⟩ HX.out ?_)
 go_quiet ((first | (go_at_call 137; exact Calls.quiet_of_same (HQ.out _)) | (go_at_call 138; exact Calls.quiet_of_same (HH.out _))));go_wp2_with fail;go_ret;exact ⟨rfl, below_drewN (ai _ _) _⟩
theorem Rc (t : B) (q : Nat) (mk cs wd : Int) (n c b o k : Nat) (hk : k < n) (hc : n <= c) (hm : c <= maxLen) (ht : t.length <= maxLen) (hp : plain t = true) (hq : q < n) (g0 : 0 <= mk) (g1 : mk <= 15) (g2 : 0 <= cs) (g3 : cs <= 1) (g4 : 1 <= wd) (g5 : wd <= 1000) (rV : q = k) (ja : mk ≠ 0) (w : World) (hr : w.rangeAt b (o + k * 5) (lc ⟨t, (q : Int), mk, cs, wd⟩)) (bS : w.cell? ⟨b, o + q * 5 + 1, none⟩ = some (.int .i64 (q : Int))) :
  Calls Tryz.prog 113 #[.slice (some ⟨b, o, none⟩) n c, .int .i64 (k : Int)] w (aU w false) := by
 have h0 : (0 : Int) <= q /\ (q : Int) < n := by omega
 have HQ := o7 ht hp;have HH := qc (some ⟨b, o, none⟩) n c (q : Int) (dT h0);have HX := Lh hr;have hbl := World.block_lt_of_cell? w _ bS;have qD := (World.cell?_alloc_lt w (.cells #[.string (tb t), .int .i64 (q : Int), .int .i64 mk, .int .i64 cs, .int .i64 wd] 90) ⟨b, o + q * 5 + 1, none⟩ hbl).trans bS;clear hr hp h0 bS hbl;subst rV;have d0 : decide (mk < 0) = false := dF (by omega);have d1 : decide (15 < mk) = false := dF (by omega);have d2 : decide (cs < 0) = false := dF (by omega);have d3 : decide (1 < cs) = false := dF (by omega);have d4 : decide (wd < 1) = false := dF (by omega);have d5 : decide (1000 < wd) = false := dF (by omega);have e2 : (mk == 0) = false := bF ja;clear ja;go_enter Tryz.func113, Tryz.ntmps113
 go_wp2_with (refine mX rfl (.tmp 8) rfl b (o + q * 5) rfl ⟨t, (q : Int), mk, cs, wd⟩ HX.out ?_)
 go_quiet ((first | (go_at_call 137; exact Calls.quiet_of_same (HQ.out _)) | (go_at_call 138; exact Calls.quiet_of_same (HH.out _))));go_wp2_with fail;go_ret;exact ⟨rfl, below_drewN (ai _ _) _⟩
theorem RH (t : B) (q : Nat) (mk cs wd : Int) (n c b o k : Nat) (hk : k < n) (hc : n <= c) (hm : c <= maxLen) (ht : t.length <= maxLen) (hp : plain t = true) (hq : q < n) (g0 : 0 <= mk) (g1 : mk <= 15) (g2 : 0 <= cs) (g3 : cs <= 1) (g4 : 1 <= wd) (g5 : wd <= 1000) (rV : q = k) (ja : mk = 0) (hc0 : cs ≠ 0) (w : World) (hr : w.rangeAt b (o + k * 5) (lc ⟨t, (q : Int), mk, cs, wd⟩)) (bS : w.cell? ⟨b, o + q * 5 + 1, none⟩ = some (.int .i64 (q : Int))) :
  Calls Tryz.prog 113 #[.slice (some ⟨b, o, none⟩) n c, .int .i64 (k : Int)] w (aU w false) := by
 have h0 : (0 : Int) <= q /\ (q : Int) < n := by omega
 have HQ := o7 ht hp;have HH := qc (some ⟨b, o, none⟩) n c (q : Int) (dT h0);have HX := Lh hr;have hbl := World.block_lt_of_cell? w _ bS;have qD := (World.cell?_alloc_lt w (.cells #[.string (tb t), .int .i64 (q : Int), .int .i64 mk, .int .i64 cs, .int .i64 wd] 90) ⟨b, o + q * 5 + 1, none⟩ hbl).trans bS;clear hr hp h0 bS hbl;subst rV ja;have d2 : decide (cs < 0) = false := dF (by omega);have d3 : decide (1 < cs) = false := dF (by omega);have d4 : decide (wd < 1) = false := dF (by omega);have d5 : decide (1000 < wd) = false := dF (by omega);have e2 : (cs == 0) = false := bF hc0;clear hc0;go_enter Tryz.func113, Tryz.ntmps113
 go_wp2_with (refine mX rfl (.tmp 8) rfl b (o + q * 5) rfl ⟨t, (q : Int), 0, cs, wd⟩ HX.out ?_)
 go_quiet ((first | (go_at_call 137; exact Calls.quiet_of_same (HQ.out _)) | (go_at_call 138; exact Calls.quiet_of_same (HH.out _))));go_wp2_with fail;go_ret;exact ⟨rfl, below_drewN (ai _ _) _⟩
theorem q9 {L : List Lt} {n : Nat} {l : Lt} (h : ¬ (plain l.text = true /\ (0 <= l.base /\ l.base < L.length) /\ (L.getD l.base.toNat z).base = l.base /\ (0 <= l.mark /\ l.mark <= 15) /\ (0 <= l.cas /\ l.cas <= 1) /\ (1 <= l.width /\ l.width <= 1000) /\ (l.base ≠ n \/ (l.mark = 0 /\ l.cas = 0)))) : lok L n l = false := by
 rw [Bool.eq_false_iff];exact fun e => h ((II _ _ _).1 e)
theorem QT (L : List Lt) (n c b o k : Nat) (hn : n = L.length) (hk : k < n) (hc : n <= c) (hm : c <= maxLen) (hs : ∀ l ∈ L, l.text.length <= maxLen) (w : World) (hr : RL w b o L) :
  Calls Tryz.prog 113 #[.slice (some ⟨b, o, none⟩) n c, .int .i64 (k : Int)] w (aU w (vS L k)) := by
 obtain ⟨l, hl⟩ := eX (L.getD k z);have hX := hr.range (by omega) hl;have hT : l.text.length <= maxLen := by rw [hl]; exact hs _ (gU (by omega))
 unfold vS;rw [<- hl];obtain ⟨t, bs, mk, cs, wd⟩ := l
 by_cases hp : plain t = true
 ·by_cases h0 : 0 <= bs /\ bs < n
  ·obtain ⟨q, rfl⟩ : ∃ q : Nat, bs = q := ⟨bs.toNat, by omega⟩;have hq : q < n := by omega
   have bS := hr.c1 (k := q) (by omega) rfl
   by_cases hx : (L.getD q z).base = q
   ·rw [hx] at bS
    by_cases g0 : 0 <= mk
    rotate_left
    ·rw [q9 (fun h => by obtain ⟨_, _, _, h4, h5, h6, h7⟩ := h; simp only at h4 h5 h6 h7; omega)];exact U3 t q mk cs wd n c b o k hk hc hm hT hp hq (by omega) w hX bS
    by_cases g1 : mk <= 15
    rotate_left
    ·rw [q9 (fun h => by obtain ⟨_, _, _, h4, h5, h6, h7⟩ := h; simp only at h4 h5 h6 h7; omega)];exact Qf t q mk cs wd n c b o k hk hc hm hT hp hq g0 (by omega) w hX bS
    by_cases g2 : 0 <= cs
    rotate_left
    ·rw [q9 (fun h => by obtain ⟨_, _, _, h4, h5, h6, h7⟩ := h; simp only at h4 h5 h6 h7; omega)];exact VL t q mk cs wd n c b o k hk hc hm hT hp hq g0 g1 (by omega) w hX bS
    by_cases g3 : cs <= 1
    rotate_left
    ·rw [q9 (fun h => by obtain ⟨_, _, _, h4, h5, h6, h7⟩ := h; simp only at h4 h5 h6 h7; omega)];exact QH t q mk cs wd n c b o k hk hc hm hT hp hq g0 g1 g2 (by omega) w hX bS
    by_cases g4 : 1 <= wd
    rotate_left
    ·rw [q9 (fun h => by obtain ⟨_, _, _, h4, h5, h6, h7⟩ := h; simp only at h4 h5 h6 h7; omega)];exact Us t q mk cs wd n c b o k hk hc hm hT hp hq g0 g1 g2 g3 (by omega) w hX bS
    by_cases g5 : wd <= 1000
    rotate_left
    ·rw [q9 (fun h => by obtain ⟨_, _, _, h4, h5, h6, h7⟩ := h; simp only at h4 h5 h6 h7; omega)];exact Vb t q mk cs wd n c b o k hk hc hm hT hp hq g0 g1 g2 g3 g4 (by omega) w hX bS
    by_cases rV : q = k
    ·by_cases ja : mk = 0
     ·by_cases hc0 : cs = 0
      ·rw [(II _ _ _).2 ⟨hp, ⟨by simp only; omega, by simp only; omega⟩, by simp only [Int.toNat_natCast]; exact hx, ⟨g0, g1⟩, ⟨g2, g3⟩, ⟨g4, g5⟩, .inr ⟨ja, hc0⟩⟩];exact VW t q mk cs wd n c b o k hk hc hm hT hp hq g0 g1 g2 g3 g4 g5 rV ja hc0 w hX bS
      ·rw [q9 (fun h => by obtain ⟨_, _, _, h4, h5, h6, h7⟩ := h; simp only at h4 h5 h6 h7; omega)];exact RH t q mk cs wd n c b o k hk hc hm hT hp hq g0 g1 g2 g3 g4 g5 rV ja hc0 w hX bS
     ·rw [q9 (fun h => by obtain ⟨_, _, _, h4, h5, h6, h7⟩ := h; simp only at h4 h5 h6 h7; omega)];exact Rc t q mk cs wd n c b o k hk hc hm hT hp hq g0 g1 g2 g3 g4 g5 rV ja w hX bS
    ·rw [(II _ _ _).2 ⟨hp, ⟨by simp only; omega, by simp only; omega⟩, by simp only [Int.toNat_natCast]; exact hx, ⟨g0, g1⟩, ⟨g2, g3⟩, ⟨g4, g5⟩, .inl (by simp only; omega)⟩];exact Rh t q mk cs wd n c b o k hk hc hm hT hp hq g0 g1 g2 g3 g4 g5 rV w hX bS
   ·rw [q9 (fun h => hx (by have := h.2.2.1; simpa only [Int.toNat_natCast] using this))];exact Qv t q mk cs wd n c b o k hk hc hm hT hp hq _ hx w hX bS
  ·rw [q9 (fun h => h0 (by rw [hn]; exact h.2.1))];exact WM t bs mk cs wd n c b o k hk hc hm hT hp h0 w hX
 ·have hp' : plain t = false := by simpa using hp
  rw [q9 (fun h => hp h.1)];exact Ui t bs mk cs wd n c b o k hk hc hm hT hp' w hX
open Rgx
structure Wo (S : World -> Prop) where
 wo : World
 ok : S wo
theorem jB {P : Program} {id : Nat} {Q : Exit -> Act -> World -> Prop} {a : Act} {w : World} {l : List Oper} (S : World -> Prop) (hm : P.follows .mixedOrders = true) (hB : Region.lexB .any l.toArray = true) (hS : S w.drew)
  (h : wpQuiet P l.toArray (fun w' => ∃ p : Wo S, w' = p.wo) (fun a' => ∀ w', (∃ p : Wo S, w' = p.wo) -> Q .normal a' w') l a) : (Code.region id l.toArray true).wp P Q a w :=
 wp_region_quiet (C := fun w' => ∃ p : Wo S, w' = p.wo) hm hB ⟨⟨w.drew, hS⟩, rfl⟩ (by simpa using h)
theorem qh {P : Program} {S : World -> Prop} {f : FuncId} {args : Array Value} {v : Value} (h : ∀ W, S W -> Calls P f args W fun e w' => e = .returned v /\ S w') (p : Wo S) : Calls P f args p.wo fun e w'' => e = .returned v /\ ∃ q : Wo S, w'' = q.wo :=
 (h p.wo p.ok).mono fun _ _ ⟨he, hs⟩ => ⟨he, ⟨_, hs⟩, rfl⟩
theorem jC : Tryz.prog.follows .mixedOrders = true := by kernel_rfl
def nV (w : World) (n : Int) (e : Ending) (w' : World) : Prop := e = .returned (.int .i64 n) /\ Bw w w'
theorem qV {w w' : World} {n : Int} {e : Ending} (h : nV w n e w') : e = .returned (.int .i64 n) /\ Bw w w' := h
theorem V7 (a b : Int) (w : World) : Calls Tryz.prog 80 #[.int .i64 a, .int .i64 b] w (nV w (bG a b)) := by
 obtain ⟨R, hR⟩ := eX (bG a b);rw [<- hR]
 by_cases h1 : a < b
 ·have e : R = -1 := by rw [hR]; unfold bG; rw [if_pos h1]
  have d1 : decide (a < b) = true := dT h1;clear hR;subst e;go_enter Tryz.func80, Tryz.ntmps80;go_wp2_with fail;go_ret;exact ⟨rfl, Below.refl _ _⟩
 ·have d1 : decide (a < b) = false := dF h1
  by_cases h2 : b < a
  ·have e : R = 1 := by rw [hR]; unfold bG; rw [if_neg h1, if_pos h2]
   clear hR;subst e;go_enter Tryz.func80, Tryz.ntmps80;go_wp2_with fail;go_ret;exact ⟨rfl, Below.refl _ _⟩
  ·have e : R = 0 := by rw [hR]; unfold bG; rw [if_neg h1, if_neg h2]
   clear hR;subst e;go_enter Tryz.func80, Tryz.ntmps80;go_wp2_with fail;go_ret;exact ⟨rfl, Below.refl _ _⟩
theorem Ug (l : List Int) (A : Option Addr) (n c : Nat) (hn : n = l.length) (hc : n <= c) (hm : c <= 9223372036854775807) (V : Bool) (hV : V = fO l) (w : World) (hr : Rd w A (iv l)) : Calls Tryz.prog 46 #[.slice A n c] w (aU w V) := by
 have HV := LH (V = fO l /\ n = l.length) ⟨hV, hn⟩;have HR := Lh hr;clear hV hn hr;go_enter Tryz.func46, Tryz.ntmps46;go_wp2_with fail
 go_loopg [3] n (fun g s3 wr => ∃ (k : Nat), k + g = n /\ s3 = .int .i64 (k : Int) /\ Hid ((∀ j, j < k -> nY l j) /\ Bw w wr))
 case atStart => exact ⟨0, by omega, rfl, Lh ⟨fun j h => by omega, Below.refl _ _⟩⟩
 case round =>
  obtain ⟨k, hk, rfl, HI⟩ := hrel
  by_cases hlt : k < n
  ·obtain ⟨g, rfl⟩ : ∃ g, gk = g + 1 := ⟨gk - 1, by omega⟩;have eU : k < l.length := by rw [<- HV.out.2]; exact hlt
   obtain ⟨b, o, rfl, aH⟩ := vO HR.out (by intro e; rw [e] at eU; simp at eU);have eG := LH (Bw wr wr) (Below.refl _ _);obtain ⟨x, hx⟩ := eX (l.getD k 0);have l1 : ∀ p : Wo (Below wr.heap.size wr), p.wo.cell? ⟨b, o + k, none⟩ = some (.int .i64 x) := fun p => aH.at (ah HI.out.2 p.ok) eU hx
   have d0 : (k : Int) < (n : Int) := by omega
   by_cases h1 : x < 0
   ·have kz := LH (V = false) (by rw [HV.out.1]; exact Cv eU (fun h => by have := h.1; rw [<- hx] at this; omega));have e1 : decide (x < 0) = true := dT h1;clear hx aH;go_wp2_with fail;haveI : Nonempty (Wo (Below wr.heap.size wr)) := ⟨⟨wr, eG.out⟩⟩;refine jB (Below wr.heap.size wr) jC (by kernel_rfl) (below_drewN eG.out 1) ?_
    repeat (go_big_quiet_step ((fail)))
    refine wpQuiet_nil ?_;intro x1 hw2;obtain ⟨⟨iy, ax⟩, hw3⟩ := hw2;have hw4 : x1 = iy := hw3;subst hw4;have fE := Lh ax;clear hw3 ax;go_wp2_with fail;go_ret;exact ⟨kz.out.symm ▸ rfl, ah HI.out.2 fE.out⟩
   ·have e1 : decide (x < 0) = false := dF h1
    by_cases h2 : 64 <= x
    ·have kz := LH (V = false) (by rw [HV.out.1]; exact Cv eU (fun h => by have := h.1; rw [<- hx] at this; omega));have e2 : decide (64 <= x) = true := dT h2;clear hx aH;go_wp2_with fail;haveI : Nonempty (Wo (Below wr.heap.size wr)) := ⟨⟨wr, eG.out⟩⟩;refine jB (Below wr.heap.size wr) jC (by kernel_rfl) (below_drewN eG.out 1) ?_
     repeat (go_big_quiet_step ((fail)))
     refine wpQuiet_nil ?_;intro x1 hw2;obtain ⟨⟨iy, ax⟩, hw3⟩ := hw2;have hw4 : x1 = iy := hw3;subst hw4;have fE := Lh ax;clear hw3 ax;go_wp2_with fail;go_ret;exact ⟨kz.out.symm ▸ rfl, ah HI.out.2 fE.out⟩
    ·have e2 : decide (64 <= x) = false := dF h2
     by_cases h3 : k = 0
     ·have lC := LH (nY l k) ⟨by rw [<- hx]; omega, .inl h3⟩;subst h3;simp only [Nat.add_zero] at l1;clear hx aH;go_wp2_with fail;haveI : Nonempty (Wo (Below wr.heap.size wr)) := ⟨⟨wr, eG.out⟩⟩;refine jB (Below wr.heap.size wr) jC (by kernel_rfl) (below_drewN eG.out 1) ?_
      repeat (go_big_quiet_step ((fail)))
      refine wpQuiet_nil ?_;intro x1 hw2;obtain ⟨⟨iy, ax⟩, hw3⟩ := hw2;have hw4 : x1 = iy := hw3;subst hw4;have fE := Lh ax;clear hw3 ax;go_wp2_with fail
      go_roundg g
      case rel => exact ⟨0 + 1, by omega, by go_num, Lh ⟨fun j hj => by
       by_cases e : j < 0
       ·exact HI.out.1 j e
       ·obtain rfl : j = 0 := by omega
        exact lC.out, ah HI.out.2 fE.out⟩⟩
      case measure => omega
     ·obtain ⟨jp, hjp⟩ : ∃ jp, jp + 1 = k := ⟨k - 1, by omega⟩;obtain ⟨y, hy⟩ := eX (l.getD jp 0);have l2 : ∀ p : Wo (Below wr.heap.size wr), p.wo.cell? ⟨b, o + jp, none⟩ = some (.int .i64 y) := fun p => aH.at (ah HI.out.2 p.ok) (by omega) hy
      have hjn : jp < n := by omega
      have e3 : decide (0 < (k : Int)) = true := dT (by omega);have e4 : decide (0 < k) = true := dT (by omega);have z1 : (k : Int) - 1 = (jp : Int) := by omega
      have z2 : IntKind.i64.wrap (jp : Int) = (jp : Int) := by rw [IntKind.wrap_i64]; omega
      by_cases h4 : x <= y
      ·have kz := LH (V = false) (by rw [HV.out.1]; exact Cv eU (fun h => by have h5 := h.2.resolve_left h3; rw [show k - 1 = jp by omega, <- hx, <- hy] at h5; omega));have e5 : decide (x <= y) = true := dT h4;clear hx hy aH;go_wp2_with fail;haveI : Nonempty (Wo (Below wr.heap.size wr)) := ⟨⟨wr, eG.out⟩⟩;refine jB (Below wr.heap.size wr) jC (by kernel_rfl) (below_drewN eG.out 1) ?_
       repeat (go_big_quiet_step ((fail)))
       refine wpQuiet_nil ?_;intro x1 hw2;obtain ⟨⟨iy, ax⟩, hw3⟩ := hw2;have hw4 : x1 = iy := hw3;subst hw4;have fE := Lh ax;clear hw3 ax;go_wp2_with fail;go_ret;exact ⟨kz.out.symm ▸ rfl, ah HI.out.2 fE.out⟩
      ·have lC := LH (nY l k) ⟨by rw [<- hx]; omega, .inr (by rw [show k - 1 = jp by omega, <- hx, <- hy]; omega)⟩;have e5 : decide (x <= y) = false := dF h4;clear hx hy aH;go_wp2_with fail;haveI : Nonempty (Wo (Below wr.heap.size wr)) := ⟨⟨wr, eG.out⟩⟩;refine jB (Below wr.heap.size wr) jC (by kernel_rfl) (below_drewN eG.out 1) ?_
       repeat (go_big_quiet_step ((fail)))
       refine wpQuiet_nil ?_;intro x1 hw2;obtain ⟨⟨iy, ax⟩, hw3⟩ := hw2;have hw4 : x1 = iy := hw3;subst hw4;have fE := Lh ax;clear hw3 ax;go_wp2_with fail
       go_roundg g
       case rel => exact ⟨k + 1, by omega, by go_num, Lh ⟨fun j hj => by
        by_cases e : j < k
        ·exact HI.out.1 j e
        ·obtain rfl : j = k := by omega
         exact lC.out, ah HI.out.2 fE.out⟩⟩
       case measure => omega
  ·obtain rfl : k = n := by omega
   by_cases h0 : k = 0
   ·subst h0;have HE := LH (V = false) (by rw [HV.out.1]; unfold fO; rw [<- HV.out.2]; simp);go_wp2_with fail;go_ret;exact ⟨HE.out.symm ▸ rfl, HI.out.2⟩
   ·have HE := LH (V = true) (by rw [HV.out.1]; exact Nh (by rw [<- HV.out.2]; omega) (by rw [<- HV.out.2]; exact HI.out.1));have e7 : decide (0 < k) = true := dT (by omega);go_wp2_with fail;go_ret;exact ⟨HE.out.symm ▸ rfl, HI.out.2⟩
theorem au : (Tryz.prog.info? 25).map (·.size) = some 3 := by kernel_rfl
theorem aG {w : World} {ops : Array Oper} {rest : List Oper} {o : Oper} {a : Act} {Q : Exit -> Act -> World -> Prop} (hgd : o.guard = none) (x : Operand) (ho : o.op = .load 25 x)
  (g q : Nat) (hx : a.eval x = .pointer (some ⟨g, q, none⟩)) (K : Int) (A B : Option Addr) (n c m d : Nat) (hc : w.rangeAt g q (zV K A n c B m d))
  (h : wpList Tryz.prog ops Q rest (a.put o.dst (.agg #[.int .i64 K, .slice A n c, .slice B m d])) w) : wpList Tryz.prog ops Q (o :: rest) a w :=
 wpList_load_mid hgd 25 x ho g q hx _ _ hc Tryz.underlying25 rfl au h
def bx (w : World) (K : Int) (A : Option Addr) (n c : Nat) (B : Option Addr) (m d : Nat) : World := w.alloc (zC K A n c B m d)
theorem kH {w W : World} {K : Int} {A B : Option Addr} {n c m d : Nat} (hb : Below (w.alloc (zC K A n c B m d)).heap.size (w.alloc (zC K A n c B m d)) W) (j : Nat) (v : Value) (hv : [Value.int .i64 K, .slice A n c, .slice B m d][j]? = some v) : W.cell? ⟨w.heap.size, j, none⟩ = some v := by
 have h := (ae.at w [Value.int .i64 K, .slice A n c, .slice B m d] _ 25 _ rfl rfl);exact (hb.cell (p := ⟨w.heap.size, j, none⟩) h.lt).trans (h.cell hv)
theorem Sr : ∀ (z : Nat) (r : Rx), SizeOf.sizeOf r <= z -> ∀ (V : Bool), V = aC r -> ∀ (A B : Option Addr) (n c m d : Nat) (w : World), aI w r A n c B m d -> Calls Tryz.prog 15 #[.agg #[.int .i64 r.kind, .slice A n c, .slice B m d]] w (aU w V) := by
 intro z
 induction z with
 |zero => intro r hz; exact absurd hz (by cases r; rw [Rx.mk.sizeOf_spec]; omega)
 |succ z ih =>
  intro r hz V hV A B n c m d w hop;have dH := LH (∀ i, i < m -> ∀ (A B : Option Addr) (n c k d : Nat) (W : World), aI W (bW r i) A n c B k d -> Cz 15 #[.agg #[.int .i64 (bW r i).kind, .slice A n c, .slice B k d]] W (aU W (aC (bW r i)))) fun i hi A B n c k d W h => ih (bW r i) (by have := jZ (vX (r := r) (by rw [<- hop.mlen]; exact hi)); omega) _ rfl A B n c k d W h
  have bE := Lh hop;obtain ⟨K, hK⟩ := eX r.kind;have hKi : -9223372036854775808 <= K /\ K <= 9223372036854775807 := by rw [hK]; exact hop.kin
  have iA : m <= d := hop.mcap;have fG : d <= 9223372036854775807 := hop.dmax;have fV := LH (V = if K < 0 \/ 5 < K then false else if K = 2 then fO r.syms && decide (m = 0) else if 0 < n \/ (K <= 1 /\ 0 < m) \/ (K = 5 /\ m ≠ 1) then false else r.kids.all aC) (by rw [hV, mF, hK, hop.nlen, hop.mlen]);have HST := LH (∀ W, Bw w W -> Cz 46 #[.slice A n c] W (aU W (fO r.syms))) fun W hb => Ug r.syms A n c hop.nlen hop.ncap hop.cmax _ rfl W (hop.syms.below hb)
  rw [<- hK];clear hV hop ih hz hK
  by_cases k1 : K < 0 \/ 5 < K
  ·have HE := LH (V = false) (by rw [fV.out, if_pos k1])
   rcases k1 with k1 | k1
   ·have d1 : decide (K < 0) = true := dT k1;go_enter Tryz.func15, Tryz.ntmps15;go_wp2_with fail;go_ret;exact ⟨HE.out.symm ▸ rfl, ai _ _⟩
   ·have d1 : decide (K < 0) = false := dF (by omega);have d2 : decide (5 < K) = true := dT k1;go_enter Tryz.func15, Tryz.ntmps15;go_wp2_with fail;go_ret;exact ⟨HE.out.symm ▸ rfl, ai _ _⟩
  ·have d1 : decide (K < 0) = false := dF (by omega);have d2 : decide (5 < K) = false := dF (by omega)
   by_cases k2 : K = 2
   ·have HE := LH (V = (fO r.syms && decide (m = 0))) (by rw [fV.out, if_neg k1, if_pos k2]);subst k2;obtain ⟨X, hX⟩ := eX (fO r.syms);rw [<- hX] at HST HE;clear hX
    by_cases ja : m = 0
    ·have q1 : decide (m = 0) = true := dT ja;have q2 : decide ((m : Int) = 0) = true := dT (by omega);have Ab := LH (V = X) (by rw [HE.out, q1]; simp);have q3 : ((m : Int) == 0) = true := bT (by omega);clear ja;go_enter Tryz.func15, Tryz.ntmps15
     cases X
     all_goals (go_wp2_with ((with_reducible refine (HST.out _ (ai _ _)).mono ?_); rintro e w1 hp; obtain ⟨rfl, hb⟩ := aV hp; have H1 := LH (Bw w w1) (ah (ai _ _) hb); have hb2 := kH hb 2 (.slice B m d) rfl; clear hp hb))
     all_goals (go_ret; exact ⟨Ab.out.symm ▸ rfl, H1.out⟩)
    ·have q1 : decide (m = 0) = false := dF ja;have q2 : decide ((m : Int) = 0) = false := dF (by omega);have q3 : ((m : Int) == 0) = false := bF (by omega);have Ab := LH (V = false) (by rw [HE.out, q1]; simp);go_enter Tryz.func15, Tryz.ntmps15
     cases X
     all_goals (go_wp2_with ((with_reducible refine (HST.out _ (ai _ _)).mono ?_); rintro e w1 hp; obtain ⟨rfl, hb⟩ := aV hp; have H1 := LH (Bw w w1) (ah (ai _ _) hb); have hb2 := kH hb 2 (.slice B m d) rfl; clear hp hb))
     all_goals (go_ret; exact ⟨Ab.out.symm ▸ rfl, H1.out⟩)
   ·have d3 : decide (K = 2) = false := dF k2;have d4 : (K == 2) = false := bF k2
    by_cases yO : 0 < n
    ·have q1 : decide (0 < (n : Int)) = true := dT (by omega);have q2 : decide (0 < n) = true := dT yO;have HE := LH (V = false) (by rw [fV.out, if_neg k1, if_neg k2, if_pos (by omega)]);go_enter Tryz.func15, Tryz.ntmps15;go_wp2_with fail;go_ret;exact ⟨HE.out.symm ▸ rfl, ai _ _⟩
    ·have hn00 : n = 0 := by omega
     clear hn00
     by_cases vC : K <= 1
     ·have q1 : decide (K <= 1) = true := dT vC;have q5 : decide (K = 5) = false := dF (by omega);have q6 : (K == 5) = false := bF (by omega)
      by_cases ja : 0 < m
      ·have q2 : decide (0 < (m : Int)) = true := dT (by omega);have q3 : decide (0 < m) = true := dT ja;have HE := LH (V = false) (by rw [fV.out, if_neg k1, if_neg k2, if_pos (by omega)]);go_enter Tryz.func15, Tryz.ntmps15;go_wp2_with fail;go_ret;exact ⟨HE.out.symm ▸ rfl, ai _ _⟩
      ·have q2 : decide (0 < (m : Int)) = false := dF (by omega);have q3 : decide (0 < m) = false := dF ja;have iJ := LH (V = r.kids.all aC) (by rw [fV.out, if_neg k1, if_neg k2, if_neg (by omega)])
       skip
       go_enter Tryz.func15, Tryz.ntmps15;go_wp2_with fail
       go_loopg [3] m (fun g s3 wr => ∃ (i : Nat), i + g = m /\ s3 = .int .i64 (i : Int) /\ Hid ((∀ j, j < i -> aC (bW r j) = true) /\ Below (w.alloc (zC K A n c B m d)).heap.size (w.alloc (zC K A n c B m d)) wr))
       case atStart => exact ⟨0, by omega, rfl, Lh ⟨fun j h => by omega, Below.refl _ _⟩⟩
       case round =>
        obtain ⟨i, hi, rfl, HI⟩ := hrel;have hb2 : wr.cell? ⟨w.heap.size, 2, none⟩ = some (.slice B m d) := kH HI.out.2 2 _ rfl
        by_cases hlt : i < m
        ·exfalso; omega
        ·obtain rfl : i = m := by omega
         have HE := LH (V = true) (by
          rw [iJ.out, List.all_eq_true];intro x hx;obtain ⟨j, hj, e⟩ := List.getElem_of_mem hx;have h1 := HI.out.1 j (by rw [bE.out.mlen]; exact hj);unfold bW at h1;simp only [List.getD, List.getElem?_eq_getElem hj, Option.getD_some] at h1;rw [<- e]; exact h1)
         go_wp2_with fail;go_ret;exact ⟨HE.out.symm ▸ rfl, ah (ai _ _) HI.out.2⟩
     ·have q1 : decide (K <= 1) = false := dF vC
      by_cases hK5 : K = 5
      ·have q5 : decide (K = 5) = true := dT hK5;have q6 : (K == 5) = true := bT hK5
       by_cases l9 : m = 1
       ·have q2 : decide ((m : Int) = 1) = true := dT (by omega);have q3 : decide (m = 1) = true := dT l9;have q4 : ((m : Int) == 1) = true := bT (by omega);have q7 : ((m : Int) != 1) = false := by rw [bne, q4]; rfl
        have iJ := LH (V = r.kids.all aC) (by rw [fV.out, if_neg k1, if_neg k2, if_neg (by omega)]);clear hK5 l9;go_enter Tryz.func15, Tryz.ntmps15;go_wp2_with fail
        go_loopg [3] m (fun g s3 wr => ∃ (i : Nat), i + g = m /\ s3 = .int .i64 (i : Int) /\ Hid ((∀ j, j < i -> aC (bW r j) = true) /\ Below (w.alloc (zC K A n c B m d)).heap.size (w.alloc (zC K A n c B m d)) wr))
        case atStart => exact ⟨0, by omega, rfl, Lh ⟨fun j h => by omega, Below.refl _ _⟩⟩
        case round =>
         obtain ⟨i, hi, rfl, HI⟩ := hrel;have hb2 : wr.cell? ⟨w.heap.size, 2, none⟩ = some (.slice B m d) := kH HI.out.2 2 _ rfl
         by_cases hlt : i < m
         ·obtain ⟨g, rfl⟩ : ∃ g, gk = g + 1 := ⟨gk - 1, by omega⟩;obtain ⟨b, o, hpl⟩ := bE.out.place;obtain rfl : B = some ⟨b, o, none⟩ := by
           rcases hpl with h | h
           ·omega
           ·exact h
          obtain ⟨A2, n2, c2, B2, m2, d2, hrg, ax⟩ := bE.out.kid hlt;have bg := LH (Bw w wr) (ah (ai _ _) HI.out.2);have aP := LH (wr.rangeAt b (o + i * 3) [.int .i64 (bW r i).kind, .slice A2 n2 c2, .slice B2 m2 d2]) fun j v hv => (bg.out.cell (p := ⟨b, o + i * 3 + j, none⟩) (World.block_lt_of_cell? w _ (hrg j v hv))).trans (hrg j v hv)
          obtain ⟨X, hX⟩ := eX (aC (bW r i));have HC := LH (Cz 15 #[.agg #[.int .i64 (bW r i).kind, .slice A2 n2 c2, .slice B2 m2 d2]] wr (aU wr X)) (by rw [hX]; exact dH.out i hlt A2 B2 n2 c2 m2 d2 wr (ax.below bg.out));have HX := Lh hX;clear hpl hrg ax hX
          cases X
          ·have kz := LH (V = false) (by
            rw [iJ.out, List.all_eq_false];exact ⟨_, vX (by rw [<- bE.out.mlen]; exact hlt), by rw [<- HX.out]; simp⟩)
           go_wp2_with (first
            | (refine aG rfl (.tmp 60) rfl b (o + i * 3) rfl _ A2 B2 n2 c2 m2 d2 aP.out ?_)
            | ((with_reducible refine HC.out.mono ?_); rintro e w1 hp; obtain ⟨rfl, hb⟩ := aV hp; have H1 := LH (Bw w w1) (ah bg.out hb); clear hp hb))
           go_ret;exact ⟨kz.out.symm ▸ rfl, H1.out⟩
          ·go_wp2_with (first
            | (refine aG rfl (.tmp 60) rfl b (o + i * 3) rfl _ A2 B2 n2 c2 m2 d2 aP.out ?_)
            | ((with_reducible refine HC.out.mono ?_); rintro e w1 hp; obtain ⟨rfl, hb⟩ := aV hp; have H1 := LH (Below (w.alloc (zC K A n c (some ⟨b, o, none⟩) m d)).heap.size (w.alloc (zC K A n c (some ⟨b, o, none⟩) m d)) w1) (ah HI.out.2 hb); clear hp hb))
           go_roundg g
           case rel => exact ⟨i + 1, by omega, by go_num, Lh ⟨fun j hj => by
            by_cases e : j < i
            · exact HI.out.1 j e
            · obtain rfl : j = i := by omega
              exact HX.out.symm, H1.out⟩⟩
           case measure => omega
         ·obtain rfl : i = m := by omega
          have HE := LH (V = true) (by
           rw [iJ.out, List.all_eq_true];intro x hx;obtain ⟨j, hj, e⟩ := List.getElem_of_mem hx;have h1 := HI.out.1 j (by rw [bE.out.mlen]; exact hj);unfold bW at h1;simp only [List.getD, List.getElem?_eq_getElem hj, Option.getD_some] at h1;rw [<- e]; exact h1)
          go_wp2_with fail;go_ret;exact ⟨HE.out.symm ▸ rfl, ah (ai _ _) HI.out.2⟩
       ·have q2 : decide ((m : Int) = 1) = false := dF (by omega);have q3 : decide (m = 1) = false := dF l9;have q4 : ((m : Int) == 1) = false := bF (by omega);have q7 : ((m : Int) != 1) = true := by rw [bne, q4]; rfl
        have HE := LH (V = false) (by rw [fV.out, if_neg k1, if_neg k2, if_pos (by omega)]);go_enter Tryz.func15, Tryz.ntmps15;go_wp2_with fail;go_ret;exact ⟨HE.out.symm ▸ rfl, ai _ _⟩
      ·have q5 : decide (K = 5) = false := dF hK5;have q6 : (K == 5) = false := bF hK5;have iJ := LH (V = r.kids.all aC) (by rw [fV.out, if_neg k1, if_neg k2, if_neg (by omega)])
       skip
       go_enter Tryz.func15, Tryz.ntmps15;go_wp2_with fail
       go_loopg [3] m (fun g s3 wr => ∃ (i : Nat), i + g = m /\ s3 = .int .i64 (i : Int) /\ Hid ((∀ j, j < i -> aC (bW r j) = true) /\ Below (w.alloc (zC K A n c B m d)).heap.size (w.alloc (zC K A n c B m d)) wr))
       case atStart => exact ⟨0, by omega, rfl, Lh ⟨fun j h => by omega, Below.refl _ _⟩⟩
       case round =>
        obtain ⟨i, hi, rfl, HI⟩ := hrel;have hb2 : wr.cell? ⟨w.heap.size, 2, none⟩ = some (.slice B m d) := kH HI.out.2 2 _ rfl
        by_cases hlt : i < m
        ·obtain ⟨g, rfl⟩ : ∃ g, gk = g + 1 := ⟨gk - 1, by omega⟩;obtain ⟨b, o, hpl⟩ := bE.out.place;obtain rfl : B = some ⟨b, o, none⟩ := by
          rcases hpl with h | h
          ·omega
          ·exact h
         obtain ⟨A2, n2, c2, B2, m2, d2, hrg, ax⟩ := bE.out.kid hlt;have bg := LH (Bw w wr) (ah (ai _ _) HI.out.2);have aP := LH (wr.rangeAt b (o + i * 3) [.int .i64 (bW r i).kind, .slice A2 n2 c2, .slice B2 m2 d2]) fun j v hv => (bg.out.cell (p := ⟨b, o + i * 3 + j, none⟩) (World.block_lt_of_cell? w _ (hrg j v hv))).trans (hrg j v hv)
         obtain ⟨X, hX⟩ := eX (aC (bW r i));have HC := LH (Cz 15 #[.agg #[.int .i64 (bW r i).kind, .slice A2 n2 c2, .slice B2 m2 d2]] wr (aU wr X)) (by rw [hX]; exact dH.out i hlt A2 B2 n2 c2 m2 d2 wr (ax.below bg.out));have HX := Lh hX;clear hpl hrg ax hX
         cases X
         ·have kz := LH (V = false) (by
           rw [iJ.out, List.all_eq_false];exact ⟨_, vX (by rw [<- bE.out.mlen]; exact hlt), by rw [<- HX.out]; simp⟩)
          go_wp2_with (first
           |(refine aG rfl (.tmp 60) rfl b (o + i * 3) rfl _ A2 B2 n2 c2 m2 d2 aP.out ?_)
           |((with_reducible refine HC.out.mono ?_); rintro e w1 hp; obtain ⟨rfl, hb⟩ := aV hp; have H1 := LH (Bw w w1) (ah bg.out hb); clear hp hb))
          go_ret;exact ⟨kz.out.symm ▸ rfl, H1.out⟩
         ·go_wp2_with (first
           |(refine aG rfl (.tmp 60) rfl b (o + i * 3) rfl _ A2 B2 n2 c2 m2 d2 aP.out ?_)
           |((with_reducible refine HC.out.mono ?_); rintro e w1 hp; obtain ⟨rfl, hb⟩ := aV hp; have H1 := LH (Below (w.alloc (zC K A n c (some ⟨b, o, none⟩) m d)).heap.size (w.alloc (zC K A n c (some ⟨b, o, none⟩) m d)) w1) (ah HI.out.2 hb); clear hp hb))
          go_roundg g
          case rel => exact ⟨i + 1, by omega, by go_num, Lh ⟨fun j hj => by
           by_cases e : j < i
           ·exact HI.out.1 j e
           ·obtain rfl : j = i := by omega
            exact HX.out.symm, H1.out⟩⟩
          case measure => omega
        ·obtain rfl : i = m := by omega
         have HE := LH (V = true) (by
          rw [iJ.out, List.all_eq_true];intro x hx;obtain ⟨j, hj, e⟩ := List.getElem_of_mem hx;have h1 := HI.out.1 j (by rw [bE.out.mlen]; exact hj);unfold bW at h1;simp only [List.getD, List.getElem?_eq_getElem hj, Option.getD_some] at h1;rw [<- e]; exact h1)
         go_wp2_with fail;go_ret;exact ⟨HE.out.symm ▸ rfl, ah (ai _ _) HI.out.2⟩
theorem aS {w : World} {g : Nat} {v0 v1 v2 : Value} {T : TypeId} (h : ae w g [v0, v1, v2] T) : w.rangeAt g 0 [v0, v1, v2] := fun j v hv => by rw [Nat.zero_add]; exact h.cell hv
theorem dC {w w1 : World} {v0 v1 v2 : Value} {T : TypeId} {z : Array Value} (h : aT (w.alloc (.cells z T)) w1 w.heap.size (List.take 0 [Value.int .i64 0, .slice none 0 0, .slice none 0 0] ++ [v0, v1, v2] ++ List.drop (0 + 3) [Value.int .i64 0, .slice none 0 0, .slice none 0 0]) T) : ae w1 w.heap.size [v0, v1, v2] T /\ Bw w w1 :=
 ⟨h.1, h.below (ai _ _) (Nat.le_refl _)⟩
namespace Rgx
def zZ (l : List Int) (k : Nat) : Int := if k = 0 then -1 else l.getD (k - 1) 0
theorem Ws {l : List Int} {k : Nat} (h : ∀ j, j < k -> nY l j) : nY l k ↔ zZ l k < l.getD k 0 /\ l.getD k 0 < 64 := by
 unfold nY zZ
 by_cases e : k = 0
 ·subst e; rw [if_pos rfl]; omega
 ·rw [if_neg e];have := (h (k - 1) (by omega)).1;omega
theorem WI (l : List Int) (k : Nat) : zZ l (k + 1) = l.getD k 0 := by unfold zZ; rw [if_neg (by omega), Nat.add_sub_cancel]
end Rgx
theorem Mi (l : List Int) (A : Option Addr) (n c : Nat) (hn : n = l.length) (hc : n <= c) (hm : c <= 9223372036854775807) (V : Bool) (hV : V = fO l) (w : World) (hr : Rd w A (iv l)) : Calls Tryz.prog 44 #[.slice A n c] w (aU w V) := by
 have HV := LH (V = fO l /\ n = l.length) ⟨hV, hn⟩;have HR := Lh hr;clear hV hn hr;go_enter Tryz.func44, Tryz.ntmps44;go_wp2_with fail
 go_loopg [3, 8] n (fun g s3 s8 wr => ∃ (k : Nat) (z : Int), k + g = n /\ s3 = .int .i64 z /\ s8 = .int .i64 (k : Int) /\ Hid ((∀ j, j < k -> nY l j) /\ z = zZ l k /\ Bw w wr))
 case atStart => exact ⟨0, -1, by omega, rfl, rfl, Lh ⟨fun j h => by omega, rfl, Below.refl _ _⟩⟩
 case round =>
  obtain ⟨k, z, hk, rfl, rfl, HI⟩ := hrel
  by_cases hlt : k < n
  ·obtain ⟨g, rfl⟩ : ∃ g, gk = g + 1 := ⟨gk - 1, by omega⟩;have eU : k < l.length := by rw [<- HV.out.2]; exact hlt
   obtain ⟨b, o, rfl, aH⟩ := vO HR.out (by intro e; rw [e] at eU; simp at eU);obtain ⟨x, hx⟩ := eX (l.getD k 0);have l1 : wr.cell? ⟨b, o + k, none⟩ = some (.int .i64 x) := aH.at HI.out.2.2 eU hx;have HK := LH (nY l k ↔ z < x /\ x < 64) (by rw [Ws HI.out.1, HI.out.2.1, hx]);have HZ := LH (x = zZ l (k + 1)) (by rw [WI, hx]);clear hx aH
   by_cases h1 : x <= z
   ·have kz := LH (V = false) (by rw [HV.out.1]; exact Cv eU (fun h => by have := HK.out.1 h; omega));have e1 : decide (x <= z) = true := dT h1;go_wp2_with fail;go_ret;exact ⟨kz.out.symm ▸ rfl, HI.out.2.2⟩
   ·have e1 : decide (x <= z) = false := dF h1
    by_cases h2 : 64 <= x
    ·have kz := LH (V = false) (by rw [HV.out.1]; exact Cv eU (fun h => by have := HK.out.1 h; omega));have e2 : decide (64 <= x) = true := dT h2;go_wp2_with fail;go_ret;exact ⟨kz.out.symm ▸ rfl, HI.out.2.2⟩
    ·have e2 : decide (64 <= x) = false := dF h2;have lC := LH (nY l k) (HK.out.2 (by omega));go_wp2_with fail
     go_roundg g
     case rel => exact ⟨k + 1, x, by omega, rfl, by go_num, Lh ⟨fun j hj => by
      by_cases e : j < k
      ·exact HI.out.1 j e
      ·obtain rfl : j = k := by omega
       exact lC.out, HZ.out, HI.out.2.2⟩⟩
     case measure => omega
  ·obtain rfl : k = n := by omega
   obtain ⟨X, hX⟩ := eX (decide (0 < k));have e1 : decide (0 < (k : Int)) = X := by rw [hX]; exact decide_eq_decide.2 (by omega)
   have HE := LH (V = X) (by
    rw [HV.out.1, hX]
    by_cases h0 : k = 0
    ·subst h0; unfold fO; rw [<- HV.out.2]; simp
    ·rw [Nh (by rw [<- HV.out.2]; omega) (by rw [<- HV.out.2]; exact HI.out.1)];simp; omega)
   have e2 : decide (0 < k) = X := hX.symm;clear hX;go_wp2_with fail;go_ret;exact ⟨HE.out.symm ▸ rfl, HI.out.2.2⟩
namespace Rgx
def av (ks : List Rx) (i : Nat) : Rx := ks.getD i (.mk 0 [] [])
theorem gI {ks : List Rx} {i : Nat} (h : i < ks.length) : av ks i = ks[i] := by unfold av; simp [List.getD, h]
theorem dU.kid {w : World} {ks : List Rx} {b o : Nat} (h : dU w ks (some ⟨b, o, none⟩) 0) {i : Nat} (hi : i < ks.length) : ∃ A' n' c' B' m' d', w.rangeAt b (o + i * 3) [.int .i64 (av ks i).kind, .slice A' n' c', .slice B' m' d'] /\ aI w (av ks i) A' n' c' B' m' d' := by
 obtain ⟨b', o', v1, v2, e, h1, h2, h3, h4⟩ := h.get i hi;obtain ⟨rfl, rfl⟩ : b = b' /\ o = o' := by simpa using e
 rw [Nat.zero_add] at h1 h2 h3;have ek : av ks i = ks[i] := by unfold av; simp [List.getD, hi]
 obtain ⟨A', n', c', B', m', d', e2, hop⟩ := qi.op (show qi w (.agg #[.int .i64 (av ks i).kind, v1, v2]) (av ks i) from ⟨v1, v2, rfl, by rw [ek]; exact h4⟩);simp only [Value.agg.injEq, Array.mk.injEq, List.cons.injEq, and_true, true_and] at e2;obtain ⟨rfl, rfl⟩ := e2;refine ⟨A', n', c', B', m', d', fun j v hv => ?_, hop⟩
 match j, hv with
 |0, hv => rw [<- ek] at h1; simpa using (by simpa using hv : Value.int IntKind.i64 (av ks i).kind = v) ▸ h1
 |1, hv => exact (by simpa using hv : Value.slice A' n' c' = v) ▸ h2
 |2, hv => exact (by simpa using hv : Value.slice B' m' d' = v) ▸ h3
theorem dU.place {w : World} {ks : List Rx} {B : Option Addr} (h : dU w ks B 0) (hl : 0 < ks.length) : ∃ b o, B = some ⟨b, o, none⟩ := by
 obtain ⟨b, o, _, _, e, _⟩ := h.get 0 hl;exact ⟨b, o, e⟩
end Rgx
theorem iW {w W : World} {b o : Nat} {xs : List Value} (h : w.rangeAt b o xs) (hb : Bw w W) : W.rangeAt b o xs := fun j v hv => (hb.cell (p := ⟨b, o + j, none⟩) (World.block_lt_of_cell? w _ (h j v hv))).trans (h j v hv)
theorem gU {ks : List Rx} {i : Nat} (h : i < ks.length) : av ks i ∈ ks := by
 unfold av;simp only [List.getD, List.getElem?_eq_getElem h, Option.getD_some];exact List.getElem_mem h
theorem Ra {ks : List Rx} {p : Rx -> Bool} (h : ∀ j, j < ks.length -> p (av ks j) = true) : ks.all p = true := by
 rw [List.all_eq_true];intro x hx;obtain ⟨j, hj, e⟩ := List.getElem_of_mem hx;have h1 := h j hj;unfold av at h1;simp only [List.getD, List.getElem?_eq_getElem hj, Option.getD_some] at h1;rw [<- e]; exact h1
theorem Ru (ks : List Rx) (B : Option Addr) (m d : Nat) (mP : m = ks.length) (iA : m <= d) (fG : d <= 9223372036854775807) (w : World) (gQ : dU w ks B 0) (rW : ∀ i, i < m -> ∀ (A B : Option Addr) (n c k d : Nat) (W : World), aI W (av ks i) A n c B k d -> Calls Tryz.prog 14 #[.agg #[.int .i64 (av ks i).kind, .slice A n c, .slice B k d]] W (aU W (aC (av ks i))))
  (V : Bool) (hV : V = ks.all aC) : Calls Tryz.prog 45 #[.slice B m d] w (aU w V) := by
 have HK := LH (m = ks.length /\ dU w ks B 0 /\ V = ks.all aC) ⟨mP, gQ, hV⟩;have dH := Lh rW;clear mP gQ hV rW;go_enter Tryz.func45, Tryz.ntmps45;go_wp2_with fail
 go_loopg [7] m (fun g s7 wr => ∃ (i : Nat), i + g = m /\ s7 = .int .i64 (i : Int) /\ Hid ((∀ j, j < i -> aC (av ks j) = true) /\ Bw w wr))
 case atStart => exact ⟨0, by omega, rfl, Lh ⟨fun j h => by omega, Below.refl _ _⟩⟩
 case round =>
  obtain ⟨i, hi, rfl, HI⟩ := hrel
  by_cases hlt : i < m
  · obtain ⟨g, rfl⟩ : ∃ g, gk = g + 1 := ⟨gk - 1, by omega⟩;have aH : i < ks.length := by rw [<- HK.out.1]; exact hlt
    obtain ⟨b, o, rfl⟩ := HK.out.2.1.place (by omega);obtain ⟨A2, n2, c2, B2, m2, d2, hrg, ax⟩ := HK.out.2.1.kid aH;have aP := Lh (iW hrg HI.out.2);obtain ⟨X, hX⟩ := eX (aC (av ks i));have HC := LH (∀ W, Bw w W -> Cz 14 #[.agg #[.int .i64 (av ks i).kind, .slice A2 n2 c2, .slice B2 m2 d2]] W (aU W X)) fun W hb => by rw [hX]; exact dH.out i hlt A2 B2 n2 c2 m2 d2 W (ax.below hb)
    have HX := Lh hX;clear hrg ax hX aH
    cases X
    ·have kz := LH (V = false) (by
      rw [HK.out.2.2, List.all_eq_false];exact ⟨_, gU (by rw [<- HK.out.1]; exact hlt), by rw [<- HX.out]; simp⟩)
     go_wp2_with (first
      |(refine aG rfl (.tmp 9) rfl b (o + i * 3) rfl (av ks i).kind A2 B2 n2 c2 m2 d2 aP.out ?_)
      |(refine wB rfl 25 (.tmp 4) (.tmp 10) rfl wr.heap.size 0 rfl [.int .i64 (av ks i).kind, .slice A2 n2 c2, .slice B2 m2 d2] rfl (ae.new' wr zL _ 25 rfl) 3 au ?_; intro w4 ag; have aA := LH (ae w4 wr.heap.size [.int .i64 (av ks i).kind, .slice A2 n2 c2, .slice B2 m2 d2] 25 /\ Bw wr w4) (dC ag); clear ag; have gF := LH (Bw w w4) (ah HI.out.2 aA.out.2); have hr4 := aS aA.out.1)
      |(refine aG rfl (.tmp 4) rfl wr.heap.size (0) rfl (av ks i).kind A2 B2 n2 c2 m2 d2 hr4 ?_)
      |((with_reducible refine (HC.out _ gF.out).mono ?_); rintro e w5 hp; obtain ⟨rfl, hb⟩ := aV hp; have H5 := LH (Bw w w5) (ah gF.out hb); clear hp hb hr4))
     go_ret;exact ⟨kz.out.symm ▸ rfl, H5.out⟩
    ·skip
     go_wp2_with (first
      |(refine aG rfl (.tmp 9) rfl b (o + i * 3) rfl (av ks i).kind A2 B2 n2 c2 m2 d2 aP.out ?_)
      |(refine wB rfl 25 (.tmp 4) (.tmp 10) rfl wr.heap.size 0 rfl [.int .i64 (av ks i).kind, .slice A2 n2 c2, .slice B2 m2 d2] rfl (ae.new' wr zL _ 25 rfl) 3 au ?_; intro w4 ag; have aA := LH (ae w4 wr.heap.size [.int .i64 (av ks i).kind, .slice A2 n2 c2, .slice B2 m2 d2] 25 /\ Bw wr w4) (dC ag); clear ag; have gF := LH (Bw w w4) (ah HI.out.2 aA.out.2); have hr4 := aS aA.out.1)
      |(refine aG rfl (.tmp 4) rfl wr.heap.size (0) rfl (av ks i).kind A2 B2 n2 c2 m2 d2 hr4 ?_)
      |((with_reducible refine (HC.out _ gF.out).mono ?_); rintro e w5 hp; obtain ⟨rfl, hb⟩ := aV hp; have H5 := LH (Bw w w5) (ah gF.out hb); clear hp hb hr4))
     go_roundg g
     case rel => exact ⟨i + 1, by omega, by go_num, Lh ⟨fun j hj => by
      by_cases e : j < i
      ·exact HI.out.1 j e
      ·obtain rfl : j = i := by omega
       exact HX.out.symm, H5.out⟩⟩
     case measure => omega
  · obtain rfl : i = m := by omega
    have HE := LH (V = true) (by rw [HK.out.2.2]; exact Ra (by rw [<- HK.out.1]; exact HI.out.1));go_wp2_with fail;go_ret;exact ⟨HE.out.symm ▸ rfl, HI.out.2⟩
theorem QQ : ∀ (z : Nat) (r : Rx), SizeOf.sizeOf r <= z -> ∀ (V : Bool), V = aC r -> ∀ (A B : Option Addr) (n c m d : Nat) (w : World), aI w r A n c B m d -> Calls Tryz.prog 14 #[.agg #[.int .i64 r.kind, .slice A n c, .slice B m d]] w (aU w V) := by
 intro z
 induction z with
 |zero => intro r hz; exact absurd hz (by cases r; rw [Rx.mk.sizeOf_spec]; omega)
 |succ z ih =>
  intro r hz V hV A B n c m d w hop;have D7 := LH (∀ W, Bw w W -> Cz 45 #[.slice B m d] W (aU W (r.kids.all aC))) fun W hb => Ru r.kids B m d hop.mlen hop.mcap hop.dmax W (dU.below hb _ hop.kids) (fun i hi A B n c k d W h => ih _ (by have := jZ (gU (ks := r.kids) (i := i) (by rw [<- hop.mlen]; exact hi)); omega) _ rfl A B n c k d W h) _ rfl
  have HM := LH (m = r.kids.length) hop.mlen;obtain ⟨K, hK⟩ := eX r.kind;have fV := LH (V = if K < 0 \/ 5 < K then false else if K = 2 then fO r.syms && decide (m = 0) else if 0 < n \/ (K <= 1 /\ 0 < m) \/ (K = 5 /\ m ≠ 1) then false else r.kids.all aC) (by rw [hV, mF, hK, hop.nlen, hop.mlen]);have HST := LH (∀ W, Bw w W -> Cz 44 #[.slice A n c] W (aU W (fO r.syms))) fun W hb => Mi r.syms A n c hop.nlen hop.ncap hop.cmax _ rfl W (hop.syms.below hb)
  rw [<- hK];clear hV hop ih hz hK
  by_cases k0 : K = 0
  ·skip
   have ab : (K == 0) = true := bT (by omega)
   by_cases yO : n = 0
   ·skip
    have ub : ((n : Int) == 0) = true := bT (by omega)
    by_cases ja : m = 0
    ·skip
     have vb : ((m : Int) == 0) = true := bT (by omega);have vc : decide (m = 0) = true := dT (by omega);have HE := LH (V = true) (by rw [fV.out, if_neg (by omega), if_neg (by omega)]; first | (rw [if_pos (by omega)]) | (rw [if_neg (by omega), List.eq_nil_of_length_eq_zero (show r.kids.length = 0 by rw [<- HM.out]; omega)]; rfl));go_enter Tryz.func14, Tryz.ntmps14;go_wp2_with fail;go_ret;exact ⟨HE.out.symm ▸ rfl, ai _ _⟩
    ·skip
     have vb : ((m : Int) == 0) = false := bF (by omega);have vc : decide (m = 0) = false := dF (by omega);have HE := LH (V = false) (by rw [fV.out, if_neg (by omega), if_neg (by omega)]; first | (rw [if_pos (by omega)]) | (rw [if_neg (by omega), List.eq_nil_of_length_eq_zero (show r.kids.length = 0 by rw [<- HM.out]; omega)]; rfl));go_enter Tryz.func14, Tryz.ntmps14;go_wp2_with fail;go_ret;exact ⟨HE.out.symm ▸ rfl, ai _ _⟩
   ·skip
    have ub : ((n : Int) == 0) = false := bF (by omega);have HE := LH (V = false) (by rw [fV.out, if_neg (by omega), if_neg (by omega)]; first | (rw [if_pos (by omega)]) | (rw [if_neg (by omega), List.eq_nil_of_length_eq_zero (show r.kids.length = 0 by rw [<- HM.out]; omega)]; rfl));go_enter Tryz.func14, Tryz.ntmps14;go_wp2_with fail;go_ret;exact ⟨HE.out.symm ▸ rfl, ai _ _⟩
  ·by_cases k1 : K = 1
   ·skip
    have ab : (K == 0) = false := bF (by omega);have bb : (K == 1) = true := bT (by omega)
    by_cases yO : n = 0
    ·skip
     have ub : ((n : Int) == 0) = true := bT (by omega)
     by_cases ja : m = 0
     ·skip
      have vb : ((m : Int) == 0) = true := bT (by omega);have vc : decide (m = 0) = true := dT (by omega);have HE := LH (V = true) (by rw [fV.out, if_neg (by omega), if_neg (by omega)]; first | (rw [if_pos (by omega)]) | (rw [if_neg (by omega), List.eq_nil_of_length_eq_zero (show r.kids.length = 0 by rw [<- HM.out]; omega)]; rfl));go_enter Tryz.func14, Tryz.ntmps14;go_wp2_with fail;go_ret;exact ⟨HE.out.symm ▸ rfl, ai _ _⟩
     ·skip
      have vb : ((m : Int) == 0) = false := bF (by omega);have vc : decide (m = 0) = false := dF (by omega);have HE := LH (V = false) (by rw [fV.out, if_neg (by omega), if_neg (by omega)]; first | (rw [if_pos (by omega)]) | (rw [if_neg (by omega), List.eq_nil_of_length_eq_zero (show r.kids.length = 0 by rw [<- HM.out]; omega)]; rfl));go_enter Tryz.func14, Tryz.ntmps14;go_wp2_with fail;go_ret;exact ⟨HE.out.symm ▸ rfl, ai _ _⟩
    ·skip
     have ub : ((n : Int) == 0) = false := bF (by omega);have HE := LH (V = false) (by rw [fV.out, if_neg (by omega), if_neg (by omega)]; first | (rw [if_pos (by omega)]) | (rw [if_neg (by omega), List.eq_nil_of_length_eq_zero (show r.kids.length = 0 by rw [<- HM.out]; omega)]; rfl));go_enter Tryz.func14, Tryz.ntmps14;go_wp2_with fail;go_ret;exact ⟨HE.out.symm ▸ rfl, ai _ _⟩
   ·by_cases k2 : K = 2
    ·skip
     have ab : (K == 0) = false := bF (by omega);have bb : (K == 1) = false := bF (by omega);have cb : (K == 2) = true := bT (by omega);have zf := LH (V = (fO r.syms && decide (m = 0))) (by rw [fV.out, if_neg (by omega), if_pos k2]);obtain ⟨X, hX⟩ := eX (fO r.syms);rw [<- hX] at HST zf;clear hX
     by_cases ja : m = 0
     ·skip
      have vb : ((m : Int) == 0) = true := bT (by omega);have vc : decide (m = 0) = true := dT (by omega);have HE := LH (V = X) (by rw [zf.out, vc]; simp);clear ja;go_enter Tryz.func14, Tryz.ntmps14
      cases X
      all_goals (go_wp2_with ((with_reducible refine (HST.out _ (ai _ _)).mono ?_); rintro e w1 hp; obtain ⟨rfl, hb⟩ := aV hp; have H1 := LH (Bw w w1) (ah (ai _ _) hb); have hb2 := kH hb 2 (.slice B m d) rfl; clear hp hb))
      all_goals (go_ret; exact ⟨HE.out.symm ▸ rfl, H1.out⟩)
     ·skip
      have vb : ((m : Int) == 0) = false := bF (by omega);have vc : decide (m = 0) = false := dF (by omega);have HE := LH (V = false) (by rw [zf.out, vc]; simp);clear ja;go_enter Tryz.func14, Tryz.ntmps14
      cases X
      all_goals (go_wp2_with ((with_reducible refine (HST.out _ (ai _ _)).mono ?_); rintro e w1 hp; obtain ⟨rfl, hb⟩ := aV hp; have H1 := LH (Bw w w1) (ah (ai _ _) hb); have hb2 := kH hb 2 (.slice B m d) rfl; clear hp hb))
      all_goals (go_ret; exact ⟨HE.out.symm ▸ rfl, H1.out⟩)
    ·by_cases AB : K = 3 \/ K = 4
     ·by_cases yO : n = 0
      ·have HE := LH (V = r.kids.all aC) (by rw [fV.out, if_neg (by omega), if_neg k2, if_neg (by omega)]);obtain ⟨X, hX⟩ := eX (r.kids.all aC);rw [<- hX] at D7 HE;clear hX
       rcases AB with k3 | k4
       ·skip
        have ab : (K == 0) = false := bF (by omega);have bb : (K == 1) = false := bF (by omega);have cb : (K == 2) = false := bF (by omega);have db : (K == 3) = true := bT (by omega);have ub : ((n : Int) == 0) = true := bT (by omega);go_enter Tryz.func14, Tryz.ntmps14
        go_wp2_with ((with_reducible refine (D7.out _ (ai _ _)).mono ?_); rintro e w1 hp; obtain ⟨rfl, hb⟩ := aV hp; have H1 := LH (Bw w w1) (ah (ai _ _) hb); clear hp hb)
        go_ret;exact ⟨HE.out.symm ▸ rfl, H1.out⟩
       ·skip
        have ab : (K == 0) = false := bF (by omega);have bb : (K == 1) = false := bF (by omega);have cb : (K == 2) = false := bF (by omega);have db : (K == 3) = false := bF (by omega);have eb : (K == 4) = true := bT (by omega);have ub : ((n : Int) == 0) = true := bT (by omega);go_enter Tryz.func14, Tryz.ntmps14
        go_wp2_with ((with_reducible refine (D7.out _ (ai _ _)).mono ?_); rintro e w1 hp; obtain ⟨rfl, hb⟩ := aV hp; have H1 := LH (Bw w w1) (ah (ai _ _) hb); clear hp hb)
        go_ret;exact ⟨HE.out.symm ▸ rfl, H1.out⟩
      ·have HE := LH (V = false) (by rw [fV.out, if_neg (by omega), if_neg k2, if_pos (by omega)])
       rcases AB with k3 | k4
       ·skip
        have ab : (K == 0) = false := bF (by omega);have bb : (K == 1) = false := bF (by omega);have cb : (K == 2) = false := bF (by omega);have db : (K == 3) = true := bT (by omega);have ub : ((n : Int) == 0) = false := bF (by omega);go_enter Tryz.func14, Tryz.ntmps14;go_wp2_with fail;go_ret;exact ⟨HE.out.symm ▸ rfl, ai _ _⟩
       ·skip
        have ab : (K == 0) = false := bF (by omega);have bb : (K == 1) = false := bF (by omega);have cb : (K == 2) = false := bF (by omega);have db : (K == 3) = false := bF (by omega);have eb : (K == 4) = true := bT (by omega);have ub : ((n : Int) == 0) = false := bF (by omega);go_enter Tryz.func14, Tryz.ntmps14;go_wp2_with fail;go_ret;exact ⟨HE.out.symm ▸ rfl, ai _ _⟩
     ·skip
      have ab : (K == 0) = false := bF (by omega);have bb : (K == 1) = false := bF (by omega);have cb : (K == 2) = false := bF (by omega);have db : (K == 3) = false := bF (by omega);have eb : (K == 4) = false := bF (by omega)
      by_cases k5 : K = 5
      ·skip
       have fb : (K == 5) = true := bT (by omega)
       by_cases yO : n = 0
       ·by_cases l9 : m = 1
        ·have HE := LH (V = r.kids.all aC) (by rw [fV.out, if_neg (by omega), if_neg k2, if_neg (by omega)]);obtain ⟨X, hX⟩ := eX (r.kids.all aC);rw [<- hX] at D7 HE;clear hX;have ub : ((n : Int) == 0) = true := bT (by omega);have vb : ((m : Int) == 1) = true := bT (by omega);have vc : decide (m = 1) = true := dT (by omega);clear l9 k5;go_enter Tryz.func14, Tryz.ntmps14
         go_wp2_with ((with_reducible refine (D7.out _ (ai _ _)).mono ?_); rintro e w1 hp; obtain ⟨rfl, hb⟩ := aV hp; have H1 := LH (Bw w w1) (ah (ai _ _) hb); clear hp hb)
         go_ret;exact ⟨HE.out.symm ▸ rfl, H1.out⟩
        ·have HE := LH (V = false) (by rw [fV.out, if_neg (by omega), if_neg k2, if_pos (by omega)]);have ub : ((n : Int) == 0) = true := bT (by omega);have vb : ((m : Int) == 1) = false := bF (by omega);have vc : decide (m = 1) = false := dF (by omega);go_enter Tryz.func14, Tryz.ntmps14;go_wp2_with fail;go_ret;exact ⟨HE.out.symm ▸ rfl, ai _ _⟩
       ·have HE := LH (V = false) (by rw [fV.out, if_neg (by omega), if_neg k2, if_pos (by omega)]);have ub : ((n : Int) == 0) = false := bF (by omega);go_enter Tryz.func14, Tryz.ntmps14;go_wp2_with fail;go_ret;exact ⟨HE.out.symm ▸ rfl, ai _ _⟩
      ·skip
       have fb : (K == 5) = false := bF (by omega);have HE := LH (V = false) (by rw [fV.out, if_pos (by omega)]);go_enter Tryz.func14, Tryz.ntmps14;go_wp2_with fail;go_ret;exact ⟨HE.out.symm ▸ rfl, ai _ _⟩
theorem IQ {r : Rx} {A B : Option Addr} {n c m d : Nat} {w : World} (h : aI w r A n c B m d) (V : Bool) (hV : V = aC r) : Calls Tryz.prog 14 #[.agg #[.int .i64 r.kind, .slice A n c, .slice B m d]] w (aU w V) := QQ _ r (Nat.le_refl _) V hV A B n c m d w h
section
open Go.RowKit
open Alp
open Rgx
namespace Rgx
mutual
def aY (p : Nat -> Prop) (w : World) : Rx -> Value -> Value -> Prop
 |.mk k s ks, v1, v2 => (fM k /\ ∀ x ∈ s, fM x) /\ (∃ A n c, v1 = .slice A n c /\ n = s.length /\ n <= c /\ c <= maxLen /\ Rd w A (iv s) /\ (s ≠ [] -> ∀ b o, A = some ⟨b, o, none⟩ -> p b)) /\ ∃ B m d, v2 = .slice B m d /\ m = ks.length /\ m <= d /\ d <= maxLen /\ dO p w ks B 0
def dO (p : Nat -> Prop) (w : World) : List Rx -> Option Addr -> Nat -> Prop
 |[], _, _ => True
 |r :: rs, B, i => (∃ b o v1 v2, p b /\ B = some ⟨b, o, none⟩ /\ w.cell? ⟨b, o + i * 3, none⟩ = some (.int .i64 r.kind) /\ w.cell? ⟨b, o + i * 3 + 1, none⟩ = some v1 /\ w.cell? ⟨b, o + i * 3 + 2, none⟩ = some v2 /\ aY p w r v1 v2) /\ dO p w rs B (i + 1)
end
section
variable {p q : Nat -> Prop} {w W : World}
mutual
theorem aY.ok : ∀ (r : Rx) {v1 v2 : Value}, aY p w r v1 v2 -> iE w r v1 v2
 |.mk k s ks, v1, v2, h => by
  rw [aY] at h
  rw [iE]
  obtain ⟨h0, ⟨A, n, c, e1, e2, e3, e4, e5, _⟩, B, m, d, f1, f2, f3, f4, f5⟩ := h
  exact ⟨h0, ⟨A, n, c, e1, e2, e3, e4, e5⟩, B, m, d, f1, f2, f3, f4, dO.ok ks f5⟩
theorem dO.ok : ∀ (ks : List Rx) {B : Option Addr} {j : Nat}, dO p w ks B j -> dU w ks B j
 |[], _, _, _ => by rw [dU]; trivial
 |r :: rs, B, j, h => by
  rw [dO] at h
  rw [dU]
  obtain ⟨⟨b, o, v1, v2, _, e1, e2, e3, e4, e5⟩, h2⟩ := h
  exact ⟨⟨b, o, v1, v2, e1, e2, e3, e4, aY.ok r e5⟩, dO.ok rs h2⟩
end
mutual
theorem iE.q : ∀ (r : Rx) {v1 v2 : Value}, iE w r v1 v2 -> aY (fun b => b < w.heap.size) w r v1 v2
 |.mk k s ks, v1, v2, h => by
  rw [iE] at h
  rw [aY]
  obtain ⟨h0, ⟨A, n, c, e1, e2, e3, e4, e5⟩, B, m, d, f1, f2, f3, f4, f5⟩ := h
  refine ⟨h0, ⟨A, n, c, e1, e2, e3, e4, e5, fun hs b o hA => ?_⟩, B, m, d, f1, f2, f3, f4, dU.q ks f5⟩
  rcases e5 with e | ⟨b', o', e, hc⟩
  ·exact absurd e (by simpa [iv] using hs)
  ·obtain ⟨rfl, rfl⟩ : b = b' /\ o = o' := by rw [hA] at e; simpa using e
   match s, hs with
   |x :: t, _ => exact World.block_lt_of_cell? w _ (hc 0 _ rfl)
theorem dU.q : ∀ (ks : List Rx) {B : Option Addr} {j : Nat}, dU w ks B j -> dO (fun b => b < w.heap.size) w ks B j
 |[], _, _, _ => by rw [dO]; trivial
 |r :: rs, B, j, h => by
  rw [dU] at h
  rw [dO]
  obtain ⟨⟨b, o, v1, v2, e1, e2, e3, e4, e5⟩, h2⟩ := h
  exact ⟨⟨b, o, v1, v2, World.block_lt_of_cell? w _ e2, e1, e2, e3, e4, iE.q r e5⟩, dU.q rs h2⟩
end
mutual
theorem aY.keep (hk : ∀ b o, p b -> W.cell? ⟨b, o, none⟩ = w.cell? ⟨b, o, none⟩) : ∀ (r : Rx) {v1 v2 : Value}, aY p w r v1 v2 -> aY p W r v1 v2
 |.mk k s ks, v1, v2, h => by
  rw [aY] at h ⊢
  obtain ⟨h0, ⟨A, n, c, e1, e2, e3, e4, e5, e6⟩, B, m, d, f1, f2, f3, f4, f5⟩ := h
  refine ⟨h0, ⟨A, n, c, e1, e2, e3, e4, ?_, e6⟩, B, m, d, f1, f2, f3, f4, dO.keep hk ks f5⟩
  rcases e5 with e | ⟨b', o', e, hc⟩
  ·exact .inl e
  ·by_cases hs : s = []
   ·left; rw [hs]; rfl
   ·exact .inr ⟨b', o', e, fun k v hv => (hk b' _ (e6 hs b' o' e)).trans (hc k v hv)⟩
theorem dO.keep (hk : ∀ b o, p b -> W.cell? ⟨b, o, none⟩ = w.cell? ⟨b, o, none⟩) : ∀ (ks : List Rx) {B : Option Addr} {j : Nat}, dO p w ks B j -> dO p W ks B j
 |[], _, _, _ => by rw [dO]; trivial
 |r :: rs, B, j, h => by
  rw [dO] at h ⊢
  obtain ⟨⟨b, o, v1, v2, hp, e1, e2, e3, e4, e5⟩, h2⟩ := h
  exact ⟨⟨b, o, v1, v2, hp, e1, (hk b _ hp).trans e2, (hk b _ hp).trans e3, (hk b _ hp).trans e4, aY.keep hk r e5⟩, dO.keep hk rs h2⟩
end
mutual
theorem aY.mono (jF : ∀ b, p b -> q b) : ∀ (r : Rx) {v1 v2 : Value}, aY p w r v1 v2 -> aY q w r v1 v2
 |.mk k s ks, v1, v2, h => by
  rw [aY] at h ⊢
  obtain ⟨h0, ⟨A, n, c, e1, e2, e3, e4, e5, e6⟩, B, m, d, f1, f2, f3, f4, f5⟩ := h
  exact ⟨h0, ⟨A, n, c, e1, e2, e3, e4, e5, fun hs b o hA => jF b (e6 hs b o hA)⟩, B, m, d, f1, f2, f3, f4, dO.mono jF ks f5⟩
theorem dO.mono (jF : ∀ b, p b -> q b) : ∀ (ks : List Rx) {B : Option Addr} {j : Nat}, dO p w ks B j -> dO q w ks B j
 |[], _, _, _ => by rw [dO]; trivial
 |r :: rs, B, j, h => by
  rw [dO] at h ⊢
  obtain ⟨⟨b, o, v1, v2, hp, e1, e2, e3, e4, e5⟩, h2⟩ := h
  exact ⟨⟨b, o, v1, v2, jF b hp, e1, e2, e3, e4, aY.mono jF r e5⟩, dO.mono jF rs h2⟩
end
mutual
theorem aY.and : ∀ (r : Rx) {v1 v2 : Value}, aY p w r v1 v2 -> aY q w r v1 v2 -> aY (fun b => p b /\ q b) w r v1 v2
 |.mk k s ks, v1, v2, h, h' => by
  rw [aY] at h h' ⊢
  obtain ⟨h0, ⟨A, n, c, e1, e2, e3, e4, e5, e6⟩, B, m, d, f1, f2, f3, f4, f5⟩ := h
  obtain ⟨_, ⟨A', n', c', e1', _, _, _, _, e6'⟩, B', m', d', f1', _, _, _, f5'⟩ := h'
  subst e1
  subst f1
  simp only [Value.slice.injEq] at e1' f1'
  obtain ⟨rfl, rfl, rfl⟩ := e1'
  obtain ⟨rfl, rfl, rfl⟩ := f1'
  exact ⟨h0, ⟨A, n, c, rfl, e2, e3, e4, e5, fun hs b o hA => ⟨e6 hs b o hA, e6' hs b o hA⟩⟩, B, m, d, rfl, f2, f3, f4, dO.and ks f5 f5'⟩
theorem dO.and : ∀ (ks : List Rx) {B : Option Addr} {j : Nat}, dO p w ks B j -> dO q w ks B j -> dO (fun b => p b /\ q b) w ks B j
 |[], _, _, _, _ => by rw [dO]; trivial
 |r :: rs, B, j, h, h' => by
  rw [dO] at h h' ⊢
  obtain ⟨⟨b, o, v1, v2, hp, e1, e2, e3, e4, e5⟩, h2⟩ := h
  obtain ⟨⟨b', o', v1', v2', hp', e1', e2', e3', e4', e5'⟩, h2'⟩ := h'
  subst e1
  obtain ⟨rfl, rfl⟩ : b = b' /\ o = o' := by simpa using e1'
  rw [e3] at e3'
  rw [e4] at e4'
  obtain rfl := Option.some.inj e3'
  obtain rfl := Option.some.inj e4'
  exact ⟨⟨b, o, v1, v2, ⟨hp, hp'⟩, rfl, e2, e3, e4, aY.and r e5 e5'⟩, dO.and rs h2 h2'⟩
end
theorem aY.below {r : Rx} {v1 v2 : Value} (h : aY p w r v1 v2) (hb : Bw w W) : aY p W r v1 v2 := by
 have h1 := aY.and r h (iE.q r (aY.ok r h));have h2 := aY.keep (W := W) (fun b o hp => hb.cell (p := ⟨b, o, none⟩) hp.2) r h1;exact aY.mono (fun b hp => hp.1) r h2
end
theorem aY.iff (p : Nat -> Prop) (w : World) (r : Rx) (v1 v2 : Value) : aY p w r v1 v2 ↔ (fM r.kind /\ ∀ x ∈ r.syms, fM x) /\ (∃ A n c, v1 = .slice A n c /\ n = r.syms.length /\ n <= c /\ c <= maxLen /\ Rd w A (iv r.syms) /\ (r.syms ≠ [] -> ∀ b o, A = some ⟨b, o, none⟩ -> p b)) /\ ∃ B m d, v2 = .slice B m d /\ m = r.kids.length /\ m <= d /\ d <= maxLen /\ dO p w r.kids B 0 := by
 cases r with
 |mk k s ks => rw [aY]; rfl
structure ak (p : Nat -> Prop) (w : World) (r : Rx) (A : Option Addr) (n c : Nat) (B : Option Addr) (m d : Nat) : Prop where
 o : aI w r A n c B m d
 q : aY p w r (.slice A n c) (.slice B m d)
section
variable {p q : Nat -> Prop} {w W : World} {r : Rx} {A B : Option Addr} {n c m d : Nat} {v1 v2 : Value}
theorem aY.op (h : aY p w r v1 v2) : ∃ A n c B m d, v1 = .slice A n c /\ v2 = .slice B m d /\ ak p w r A n c B m d := by
 obtain ⟨A, n, c, B, m, d, e, ho⟩ := qi.op (show qi w (.agg #[.int .i64 r.kind, v1, v2]) r from ⟨v1, v2, rfl, aY.ok r h⟩);simp only [Value.agg.injEq, Array.mk.injEq, List.cons.injEq, and_true, true_and] at e;obtain ⟨rfl, rfl⟩ := e;exact ⟨A, n, c, B, m, d, rfl, rfl, ho, h⟩
theorem ak.below (h : ak p w r A n c B m d) (hb : Bw w W) : ak p W r A n c B m d := ⟨h.o.below hb, h.q.below hb⟩
theorem ak.mono (h : ak p w r A n c B m d) (jF : ∀ b, p b -> q b) : ak q w r A n c B m d := ⟨h.o, aY.mono jF r h.q⟩
theorem ak.and (h : ak p w r A n c B m d) (k : ak q w r A n c B m d) : ak (fun b => p b /\ q b) w r A n c B m d := ⟨h.o, aY.and r h.q k.q⟩
theorem aI.toP (h : aI w r A n c B m d) : ak (fun b => b < w.heap.size) w r A n c B m d := by
 obtain ⟨v1, v2, e, h2⟩ := h.v;simp only [Value.agg.injEq, Array.mk.injEq, List.cons.injEq, and_true, true_and] at e;obtain ⟨rfl, rfl⟩ := e;exact ⟨h, iE.q r h2⟩
end
def bA (p : Nat -> Prop) (w : World) (ks : List Rx) (B : Option Addr) : Prop := ∀ i (h : i < ks.length), ∃ b o v1 v2, B = some ⟨b, o, none⟩ /\ w.cell? ⟨b, o + i * 3, none⟩ = some (.int .i64 ks[i].kind) /\ w.cell? ⟨b, o + i * 3 + 1, none⟩ = some v1 /\ w.cell? ⟨b, o + i * 3 + 2, none⟩ = some v2 /\ aY p w ks[i] v1 v2
def aM (p : Nat -> Prop) (w : World) (xs : List Value) (rs : List Rx) : Prop := xs.length = rs.length * 3 /\ ∀ i (h : i < rs.length), ∃ v1 v2, xs[i * 3]? = some (.int .i64 rs[i].kind) /\ xs[i * 3 + 1]? = some v1 /\ xs[i * 3 + 2]? = some v2 /\ aY p w rs[i] v1 v2
section
variable {p q : Nat -> Prop} {w W : World} {ks rs ts : List Rx} {xs ys : List Value} {B : Option Addr}
theorem dO.get : ∀ {ks : List Rx} {j : Nat}, dO p w ks B j -> ∀ i (h : i < ks.length), ∃ b o v1 v2, p b /\ B = some ⟨b, o, none⟩ /\ w.cell? ⟨b, o + (j + i) * 3, none⟩ = some (.int .i64 ks[i].kind) /\ w.cell? ⟨b, o + (j + i) * 3 + 1, none⟩ = some v1 /\ w.cell? ⟨b, o + (j + i) * 3 + 2, none⟩ = some v2 /\ aY p w ks[i] v1 v2
 |[], j, _, i, h => absurd h (by simp)
 |r :: rs, j, hk, i, h => by
  rw [dO] at hk
  cases i with
  |zero => exact hk.1
  |succ i =>
   have h2 := dO.get hk.2 i (by simpa using h);have e : j + 1 + i = j + (i + 1) := by omega
   rw [e] at h2;exact h2
theorem dO.e (h : dO p w ks B 0) : bA p w ks B := fun i hi => by
 obtain ⟨b, o, v1, v2, _, h1⟩ := h.get i hi;rw [Nat.zero_add] at h1;exact ⟨b, o, v1, v2, h1⟩
theorem dO.of : ∀ (ks : List Rx) (j : Nat), (∀ i (h : i < ks.length), ∃ b o v1 v2, p b /\ B = some ⟨b, o, none⟩ /\ w.cell? ⟨b, o + (j + i) * 3, none⟩ = some (.int .i64 ks[i].kind) /\ w.cell? ⟨b, o + (j + i) * 3 + 1, none⟩ = some v1 /\ w.cell? ⟨b, o + (j + i) * 3 + 2, none⟩ = some v2 /\ aY p w ks[i] v1 v2) -> dO p w ks B j
 |[], _, _ => by rw [dO]; trivial
 |r :: rs, j, h => by
  rw [dO];refine ⟨h 0 (by simp), dO.of rs (j + 1) fun i hi => ?_⟩;have h2 := h (i + 1) (by simpa using hi);rw [show j + (i + 1) = j + 1 + i by omega] at h2;exact h2
theorem bA.toQ (h : bA p w ks B) (hp : ∀ b o, B = some ⟨b, o, none⟩ -> p b) : dO p w ks B 0 := dO.of ks 0 fun i hi => by
 obtain ⟨b, o, v1, v2, e, h1⟩ := h i hi;rw [Nat.zero_add];exact ⟨b, o, v1, v2, hp b o e, e, h1⟩
theorem bA.ok (h : bA p w ks B) : dU w ks B 0 := dO.ok (p := fun _ => True) ks ((show bA (fun _ => True) w ks B from fun i hi => by
 obtain ⟨b, o, v1, v2, e, h1, h2, h3, h4⟩ := h i hi;exact ⟨b, o, v1, v2, e, h1, h2, h3, aY.mono (fun _ _ => trivial) _ h4⟩).toQ fun _ _ _ => trivial)
theorem bA.mono (h : bA p w ks B) (jF : ∀ b, p b -> q b) : bA q w ks B := fun i hi => by
 obtain ⟨b, o, v1, v2, e, h1, h2, h3, h4⟩ := h i hi;exact ⟨b, o, v1, v2, e, h1, h2, h3, aY.mono jF _ h4⟩
theorem bA.below (h : bA p w ks B) (hb : Bw w W) : bA p W ks B := fun i hi => by
 obtain ⟨b, o, v1, v2, e, h1, h2, h3, h4⟩ := h i hi;exact ⟨b, o, v1, v2, e, (hb.cell (p := ⟨b, _, none⟩) (World.block_lt_of_cell? w _ h1)).trans h1, (hb.cell (p := ⟨b, _, none⟩) (World.block_lt_of_cell? w _ h2)).trans h2, (hb.cell (p := ⟨b, _, none⟩) (World.block_lt_of_cell? w _ h3)).trans h3, h4.below hb⟩
theorem bA.place (h : bA p w ks B) (hl : 0 < ks.length) : ∃ b o, B = some ⟨b, o, none⟩ := by
 obtain ⟨b, o, _, _, e, _⟩ := h 0 hl;exact ⟨b, o, e⟩
theorem bA.kid {b o : Nat} (h : bA p w ks (some ⟨b, o, none⟩)) {i : Nat} (hi : i < ks.length) : ∃ A' n' c' B' m' d', w.rangeAt b (o + i * 3) [.int .i64 (av ks i).kind, .slice A' n' c', .slice B' m' d'] /\ ak p w (av ks i) A' n' c' B' m' d' := by
 obtain ⟨b', o', v1, v2, e, h1, h2, h3, h4⟩ := h i hi;obtain ⟨rfl, rfl⟩ : b = b' /\ o = o' := by simpa using e
 have ek : av ks i = ks[i] := by unfold av; simp [List.getD, hi]
 rw [<- ek] at h1 h4;obtain ⟨A', n', c', B', m', d', rfl, rfl, hop⟩ := h4.op;refine ⟨A', n', c', B', m', d', fun j v hv => ?_, hop⟩
 match j, hv with
 |0, hv => simpa using (by simpa using hv : Value.int IntKind.i64 (av ks i).kind = v) ▸ h1
 |1, hv => exact (by simpa using hv : Value.slice A' n' c' = v) ▸ h2
 |2, hv => exact (by simpa using hv : Value.slice B' m' d' = v) ▸ h3
theorem aM.nil (p : Nat -> Prop) (w : World) : aM p w [] [] := ⟨rfl, fun i h => absurd h (by simp)⟩
theorem aM.mono (h : aM p w xs rs) (jF : ∀ b, p b -> q b) : aM q w xs rs := ⟨h.1, fun i hi => by
 obtain ⟨v1, v2, e1, e2, e3, e4⟩ := h.2 i hi;exact ⟨v1, v2, e1, e2, e3, aY.mono jF _ e4⟩⟩
theorem aM.below (h : aM p w xs rs) (hb : Bw w W) : aM p W xs rs := ⟨h.1, fun i hi => by
 obtain ⟨v1, v2, e1, e2, e3, e4⟩ := h.2 i hi;exact ⟨v1, v2, e1, e2, e3, e4.below hb⟩⟩
theorem aM.keep (h : aM p w xs rs) (hk : ∀ b o, p b -> W.cell? ⟨b, o, none⟩ = w.cell? ⟨b, o, none⟩) : aM p W xs rs := ⟨h.1, fun i hi => by
 obtain ⟨v1, v2, e1, e2, e3, e4⟩ := h.2 i hi;exact ⟨v1, v2, e1, e2, e3, aY.keep hk _ e4⟩⟩
theorem aM.lt (h : aM p w xs rs) : aM (fun b => p b /\ b < w.heap.size) w xs rs := ⟨h.1, fun i hi => by
 obtain ⟨v1, v2, e1, e2, e3, e4⟩ := h.2 i hi;exact ⟨v1, v2, e1, e2, e3, aY.and _ e4 (iE.q _ (aY.ok _ e4))⟩⟩
theorem aM.app (h : aM p w xs rs) (k : aM p w ys ts) : aM p w (xs ++ ys) (rs ++ ts) := by
 refine ⟨by rw [List.length_append, List.length_append, h.1, k.1]; omega, fun i hi => ?_⟩;rw [List.length_append] at hi
 by_cases e : i < rs.length
 ·obtain ⟨v1, v2, e1, e2, e3, e4⟩ := h.2 i e;have hl := h.1;rw [List.getElem?_append_left (by omega), List.getElem?_append_left (by omega), List.getElem?_append_left (by omega), List.getElem_append_left e];exact ⟨v1, v2, e1, e2, e3, e4⟩
 ·obtain ⟨v1, v2, e1, e2, e3, e4⟩ := k.2 (i - rs.length) (by omega);have hl := h.1;rw [List.getElem?_append_right (by omega), List.getElem?_append_right (by omega), List.getElem?_append_right (by omega), List.getElem_append_right (by omega)];rw [show i * 3 - xs.length = (i - rs.length) * 3 by omega, show i * 3 + 1 - xs.length = (i - rs.length) * 3 + 1 by omega, show i * 3 + 2 - xs.length = (i - rs.length) * 3 + 2 by omega];exact ⟨v1, v2, e1, e2, e3, e4⟩
theorem aM.one {r : Rx} {v1 v2 : Value} (h : aY p w r v1 v2) : aM p w [.int .i64 r.kind, v1, v2] [r] := ⟨rfl, fun i hi => by
 obtain rfl : i = 0 := by simpa using hi
 exact ⟨v1, v2, rfl, rfl, rfl, h⟩⟩
theorem aY.one {r : Rx} {v1 v2 : Value} (h : aY p w r v1 v2) : v1.oneCell' = true /\ v2.oneCell' = true := by
 obtain ⟨A, n, c, B, m, d, rfl, rfl, _⟩ := h.op;exact ⟨rfl, rfl⟩
theorem aM.ones (h : aM p w xs rs) : ∀ u ∈ xs, u.oneCell' = true := fun u hu => by
 obtain ⟨j, hj, rfl⟩ := List.getElem_of_mem hu;have hl := h.1;obtain ⟨q, hq⟩ : ∃ q, q = j / 3 := ⟨_, rfl⟩;obtain ⟨v1, v2, e1, e2, e3, e4⟩ := h.2 q (by omega);have tX := e4.one;have h0 : ∀ v, xs[j]? = some v -> xs[j] = v := fun v hv => by rw [List.getElem?_eq_getElem hj] at hv; exact Option.some.inj hv
 rcases (by omega : j = q * 3 \/ j = q * 3 + 1 \/ j = q * 3 + 2) with e | e | e
 ·rw [h0 _ ((congrArg (xs[·]?) e).trans e1)]; rfl
 ·rw [h0 _ ((congrArg (xs[·]?) e).trans e2)]; exact tX.1
 ·rw [h0 _ ((congrArg (xs[·]?) e).trans e3)]; exact tX.2
theorem aM.e {b o : Nat} (h : aM p w xs rs) (hc : ∀ j v, xs[j]? = some v -> w.cell? ⟨b, o + j, none⟩ = some v) : bA p w rs (some ⟨b, o, none⟩) := fun i hi => by
 obtain ⟨v1, v2, e1, e2, e3, e4⟩ := h.2 i hi;exact ⟨b, o, v1, v2, rfl, hc _ _ e1, hc _ _ e2, hc _ _ e3, e4⟩
theorem bA.cells {b o : Nat} (h : bA p w rs (some ⟨b, o, none⟩)) : ∃ xs, aM p w xs rs /\ ∀ j v, xs[j]? = some v -> w.cell? ⟨b, o + j, none⟩ = some v := by
 have H : ∀ n, n <= rs.length -> ∃ xs, aM p w xs (rs.take n) /\ ∀ j v, xs[j]? = some v -> w.cell? ⟨b, o + j, none⟩ = some v := by
  intro n
  induction n with
  |zero => intro _; exact ⟨[], by rw [List.take_zero]; exact aM.nil p w, fun j v hv => by simp at hv⟩
  |succ n ih =>
   intro hn;obtain ⟨xs, h1, h2⟩ := ih (by omega);obtain ⟨b', o', v1, v2, e, e1, e2, e3, e4⟩ := h n (by omega);obtain ⟨rfl, rfl⟩ : b = b' /\ o = o' := by simpa using e
   have hl : xs.length = n * 3 := by rw [h1.1, List.length_take]; omega
   refine ⟨xs ++ [.int .i64 rs[n].kind, v1, v2], by rw [List.take_succ_eq_append_getElem (by omega)]; exact h1.app (aM.one e4), fun j v hv => ?_⟩
   by_cases hj : j < xs.length
   ·rw [List.getElem?_append_left hj] at hv;exact h2 j v hv
   ·rw [List.getElem?_append_right (by omega)] at hv;have yE : j - xs.length < 3 := by have := (List.getElem?_eq_some_iff.1 hv).1; simpa using this
    rcases (by omega : j = n * 3 \/ j = n * 3 + 1 \/ j = n * 3 + 2) with e5 | e5 | e5
    ·rw [show j - xs.length = 0 by omega] at hv;rw [e5, <- (by simpa using hv : Value.int IntKind.i64 rs[n].kind = v)]; exact e1
    ·rw [show j - xs.length = 1 by omega] at hv;rw [e5, <- (by simpa using hv : v1 = v)]; exact e2
    ·rw [show j - xs.length = 2 by omega] at hv;rw [e5, <- (by simpa using hv : v2 = v)]; exact e3
 obtain ⟨xs, h1, h2⟩ := H rs.length (Nat.le_refl _);rw [List.take_length] at h1;exact ⟨xs, h1, h2⟩
end
def dB (p : Nat -> Prop) (w : World) (r : Rx) (e : Ending) (w' : World) : Prop := ∃ A n c B m d, e = .returned (.agg #[.int .i64 r.kind, .slice A n c, .slice B m d]) /\ ak (fun b => p b \/ w.heap.size <= b) w' r A n c B m d /\ Bw w w'
section
variable {p q : Nat -> Prop} {w W w' : World} {r : Rx} {e : Ending} {A B : Option Addr} {n c m d : Nat}
theorem dV (h : dB p w r e w') : ∃ A n c B m d, e = .returned (.agg #[.int .i64 r.kind, .slice A n c, .slice B m d]) /\ ak (fun b => p b \/ w.heap.size <= b) w' r A n c B m d /\ Bw w w' := h
theorem ak.kids (h : ak p w r A n c B m d) : bA p w r.kids B /\ (r.kids ≠ [] -> ∀ b o, B = some ⟨b, o, none⟩ -> p b) := by
 obtain ⟨_, _, B', m', d', e, _, _, _, hq⟩ := (aY.iff p w r _ _).1 h.q;simp only [Value.slice.injEq] at e;obtain ⟨rfl, rfl, rfl⟩ := e;refine ⟨hq.e, fun hn b o hB => ?_⟩;obtain ⟨b', o', _, _, hp, e, _⟩ := hq.get 0 (List.length_pos_iff.2 hn);obtain ⟨rfl, rfl⟩ : b = b' /\ o = o' := by rw [hB] at e; simpa using e
 exact hp
theorem ak.syms (h : ak p w r A n c B m d) : r.syms ≠ [] -> ∀ b o, A = some ⟨b, o, none⟩ -> p b := by
 obtain ⟨_, ⟨A', n', c', e, _, _, _, _, hs⟩, _⟩ := (aY.iff p w r _ _).1 h.q;simp only [Value.slice.injEq] at e;obtain ⟨rfl, rfl, rfl⟩ := e;exact hs
theorem ak.make {K : Int} {s : List Int} {ks : List Rx} (hK : fM K) (hs : ∀ x ∈ s, fM x) (hn : n = s.length) (jd : n <= c) (hcm : c <= maxLen) (hr : Rd w A (iv s)) (hA : s ≠ [] -> ∀ b o, A = some ⟨b, o, none⟩ -> p b) (hm : m = ks.length) (iA : m <= d) (fG : d <= maxLen) (hk : bA p w ks B) (hB : ks ≠ [] -> ∀ b o, B = some ⟨b, o, none⟩ -> p b) : ak p w (.mk K s ks) A n c B m d := by
 have hq : dO p w ks B 0 := by
  by_cases e : ks = []
  ·subst e; rw [dO]; trivial
  ·exact hk.toQ (hB e)
 obtain ⟨A', n', c', B', m', d', e1, e2, h⟩ := aY.op (show aY p w (.mk K s ks) (.slice A n c) (.slice B m d) from (aY.iff p w _ _ _).2 ⟨⟨hK, hs⟩, ⟨A, n, c, rfl, hn, jd, hcm, hr, hA⟩, B, m, d, rfl, hm, iA, fG, hq⟩);simp only [Value.slice.injEq] at e1 e2;obtain ⟨rfl, rfl, rfl⟩ := e1;obtain ⟨rfl, rfl, rfl⟩ := e2;exact h
theorem ak.flat (p : Nat -> Prop) (w : World) {K : Int} (hK : fM K) : ak p w (.mk K [] []) none 0 0 none 0 0 :=
 ak.make hK (fun x hx => by cases hx) rfl (Nat.le_refl _) (Nat.zero_le _) (.inl rfl) (fun h => absurd rfl h) rfl (Nat.le_refl _) (Nat.zero_le _) (fun i hi => absurd hi (by simp)) fun h => absurd rfl h
end
end Rgx
theorem lG : (Tryz.prog.info? 25).map (fun i => (i.zero, i.size, i.bytes)) = some (some (.agg #[.int .i64 0, .slice none 0 0, .slice none 0 0]), 3, 56) := by kernel_rfl
theorem zY {p : Nat -> Prop} {w : World} {B : Option Addr} {m d size : Nat} {rs : List Rx} (hs : size = 3) (hm : m = rs.length) (h : bA p w rs B) : ∃ xs, aM p w xs rs /\ Src Tryz.prog size 23 (.slice B m d) m xs w := by
 subst hs
 by_cases h0 : m = 0
 ·subst h0;obtain rfl : rs = [] := List.eq_nil_of_length_eq_zero hm.symm;refine ⟨[], aM.nil p w, ?_⟩
  cases B with
  |none => exact Src.ofNil w Tryz.underlying23 d
  |some a => exact Src.ofSlice w Tryz.underlying23 a 0 d [] rfl (fun j u hu => by simp at hu) (fun u hu => by cases hu)
 ·obtain ⟨b, o, rfl⟩ := h.place (by omega);obtain ⟨xs, h1, h2⟩ := h.cells;refine ⟨xs, h1, Src.ofSlice w Tryz.underlying23 _ m d xs (by rw [h1.1, hm]) (fun j u hu => ?_) h1.ones⟩;have ha : (⟨b, o, none⟩ : Addr).add j = ⟨b, o + j, none⟩ := by unfold Addr.add; split <;> simp_all
  rw [ha];exact h2 j u hu
theorem jR {size : Nat} (hs : size = 3) (w : World) (K : Int) (A B : Option Addr) (n c m d : Nat) : Src Tryz.prog size 23 (.slice (pt w.heap.size) 1 1) 1 (zV K A n c B m d) (w.alloc (zC K A n c B m d)) := by
 subst hs;refine Src.ofSlice _ Tryz.underlying23 _ 1 1 _ rfl (fun j u hu => ?_) (by simp [Value.oneCell']);have rO : (⟨w.heap.size, 0, none⟩ : Addr).add j = ⟨w.heap.size, j, none⟩ := by unfold Addr.add; split <;> simp_all
 rw [rO];exact (ae.at w (zV K A n c B m d) _ 25 _ rfl rfl).cell hu
namespace Rgx
def aD (q : Nat -> Prop) (base : Nat) (v : Value) (rs : List Rx) (w : World) : Prop := ∃ xs, aM (fun b => q b /\ some b ≠ v.ownBlock) w xs rs /\ w.ownsRow base 25 3 v rs.length xs
section
variable {q : Nat -> Prop} {base : Nat} {v : Value} {rs : List Rx} {w w' : World}
theorem aD.nil (q : Nat -> Prop) (base : Nat) (w : World) : aD q base (.slice none 0 0) [] w := ⟨[], aM.nil _ w, rfl, .inl ⟨rfl, rfl⟩⟩
theorem aD.below (h : aD q base v rs w) (hb : Bw w w') : aD q base v rs w' := by
 obtain ⟨xs, h1, h2⟩ := h;exact ⟨xs, h1.below hb, gu h2 hb⟩
theorem aD.step {xs ys : List Value} {ts : List Rx} {v' : Value} (h1 : aM (fun b => q b /\ some b ≠ v.ownBlock) w xs rs) (h2 : aM (fun b => q b /\ some b ≠ v.ownBlock) w ys ts) (hg : w.grownBy w' v.ownBlock) (hb : v'.ownBlock = v.ownBlock \/ v'.ownBlock = some w.heap.size) (ho : w'.ownsRow base 25 3 v' (rs.length + ts.length) (xs ++ ys)) : aD q base v' (rs ++ ts) w' := by
 refine ⟨xs ++ ys, ?_, by rw [List.length_append]; exact ho⟩;have h3 := (h1.app h2).lt;have h4 := h3.keep (W := w') fun b o hp => World.cell?_of_block (hg.block b hp.2 hp.1.2)
 refine h4.mono fun b hp => ⟨hp.1.1, ?_⟩
 rcases hb with e | e
 ·rw [e]; exact hp.1.2
 ·rw [e]; intro e2; have : b = w.heap.size := by simpa using e2
  have := hp.2; omega
theorem aD.e (h : aD q base v rs w) : ∃ B d, v = .slice B rs.length d /\ rs.length <= d /\ d <= maxLen /\ bA (fun b => q b /\ some b ≠ v.ownBlock) w rs B /\ (rs ≠ [] -> ∃ g, B = some ⟨g, 0, none⟩ /\ base <= g /\ g < w.heap.size) := by
 obtain ⟨xs, h1, h2⟩ := h;obtain ⟨A, c, rfl, hr, jd, hcm⟩ := Rd.of_own h2;refine ⟨A, c, rfl, jd, hcm, ?_, fun hne => ?_⟩
 ·rcases hr with e | ⟨b, o, rfl, hc⟩
  ·have : rs = [] := List.eq_nil_of_length_eq_zero (by have := h1.1; rw [e] at this; simp at this; omega);subst this;exact fun i hi => absurd hi (by simp)
  ·exact h1.e hc
 ·rcases h2.2 with ⟨e, e2⟩ | ⟨g, cap, cur, e, hbg, hg, _⟩
  ·exact absurd (List.eq_nil_of_length_eq_zero (by simpa using e2)) hne
  ·simp only [Value.slice.injEq] at e;exact ⟨g, e.1, hbg, (Array.getElem?_eq_some_iff.1 hg).1⟩
theorem aD.app {xs ys : List Value} {ts : List Rx} {m : Nat} {v' : Value} {W0 : World} (h1 : aM (fun b => q b /\ some b ≠ v.ownBlock) W0 xs rs) (fq : Bw W0 w) (h2 : aM (fun b => q b /\ some b ≠ v.ownBlock) w ys ts) (hm : m = ts.length) (hg : w.grownBy w' v.ownBlock) (hb : v'.ownBlock = v.ownBlock \/ v'.ownBlock = some w.heap.size) (ho : w'.ownsRow base 25 3 v' (rs.length + m) (xs ++ ys)) : aD q base v' (rs ++ ts) w' := by
 subst hm;exact aD.step (h1.below fq) h2 hg hb ho
end
end Rgx
end
theorem Uh (q : Int) (hq : 0 <= q /\ q <= 1000) : ∀ (z : Nat) (r : Rx), SizeOf.sizeOf r <= z -> az r <= 1152921504606846976 -> ∀ (T : Int), T = nX q r -> ∀ (A B : Option Addr) (n c m d : Nat) (w : World), aI w r A n c B m d -> Calls Tryz.prog 13 #[.agg #[.int .i64 r.kind, .slice A n c, .slice B m d], .int .i64 q] w (nV w T) := by
 intro z
 induction z with
 |zero => intro r hz; exact absurd hz (by cases r; rw [Rx.mk.sizeOf_spec]; omega)
 |succ z ih =>
  intro r hz yV T hT A B n c m d w hop;have dH := LH (∀ i, i < m -> ∀ (A B : Option Addr) (n c k d : Nat) (W : World), aI W (bW r i) A n c B k d -> Cz 13 #[.agg #[.int .i64 (bW r i).kind, .slice A n c, .slice B k d], .int .i64 q] W (nV W (nX q (bW r i)))) fun i hi A B n c k d W h => by
   have hk := vX (r := r) (i := i) (by rw [<- hop.mlen]; exact hi);exact ih (bW r i) (by have := jZ hk; omega) (by have := Ni hk; omega) _ rfl A B n c k d W h
  have bE := Lh hop;have HT := LH (T = mZ q r.kids 1 /\ aj r.kids <= 1152921504606846976) ⟨by rw [hT, Qe], by rw [fP] at yV; omega⟩;obtain ⟨K, hK⟩ := eX r.kind;have iA : m <= d := hop.mcap;have fG : d <= 9223372036854775807 := hop.dmax;have jq := hq.1;have oJ := hq.2;rw [<- hK];clear hT hop ih hz hK yV hq;go_enter Tryz.func13, Tryz.ntmps13;go_wp2_with fail
  go_loopg [5, 6] m (fun g s5 s6 wr => ∃ (i : Nat) (N : Int), i + g = m /\ (1 <= N /\ N <= 1152921504606846977) /\ s5 = .int .i64 N /\ s6 = .int .i64 (i : Int) /\ Hid (mZ q (r.kids.drop i) N = T /\ N <= 1 + aj (r.kids.take i) /\ Below (w.alloc (zC K A n c B m d)).heap.size (w.alloc (zC K A n c B m d)) wr))
  case atStart => exact ⟨0, 1, by omega, by omega, rfl, rfl, Lh ⟨by rw [HT.out.1]; rfl, by simp [aj], Below.refl _ _⟩⟩
  case round =>
   obtain ⟨i, N, hi, hN, rfl, rfl, HI⟩ := hrel;have hb2 : wr.cell? ⟨w.heap.size, 2, none⟩ = some (.slice B m d) := kH HI.out.2.2 2 _ rfl
   by_cases hlt : i < m
   ·have p1 : (i : Int) < (m : Int) := by omega
    by_cases hNq : N <= q
    ·obtain ⟨g, rfl⟩ : ∃ g, gk = g + 1 := ⟨gk - 1, by omega⟩;have p2 : decide (N <= q) = true := dT hNq;obtain ⟨b, o, hpl⟩ := bE.out.place;obtain rfl : B = some ⟨b, o, none⟩ := by
      rcases hpl with h | h
      ·omega
      ·exact h
     obtain ⟨A2, n2, c2, B2, m2, d2, hrg, ax⟩ := bE.out.kid hlt;have bg := LH (Bw w wr) (ah (ai _ _) HI.out.2.2);have aP := LH (wr.rangeAt b (o + i * 3) [.int .i64 (bW r i).kind, .slice A2 n2 c2, .slice B2 m2 d2]) fun j v hv => (bg.out.cell (p := ⟨b, o + i * 3 + j, none⟩) (World.block_lt_of_cell? w _ (hrg j v hv))).trans (hrg j v hv)
     have aH : i < r.kids.length := by rw [<- bE.out.mlen]; exact hlt
     obtain ⟨X, hX⟩ := eX (nX q (bW r i));have HC := LH (Cz 13 #[.agg #[.int .i64 (bW r i).kind, .slice A2 n2 c2, .slice B2 m2 d2], .int .i64 q] wr (nV wr X)) (by rw [hX]; exact dH.out i hlt A2 B2 n2 c2 m2 d2 wr (ax.below bg.out));have HX := LH (mZ q (r.kids.drop (i + 1)) (N + X) = T /\ N + X <= 1 + aj (r.kids.take (i + 1)) /\ aj (r.kids.take (i + 1)) <= aj r.kids) (by
      have h1 := IE q (bW r i);rw [hX];rw [xw aH] at h1 ⊢;refine ⟨by rw [<- Sw aH hNq]; exact HI.out.1, ?_, vU _⟩;rw [zB aH];have := HI.out.2.1;omega)
     have hXb : 1 <= X /\ N + X <= 1152921504606846977 := by
      have h1 := (IE q (bW r i)).1;have h2 := HX.out.2;have h3 := HT.out.2;rw [<- hX] at h1;omega
     clear hpl hrg ax hX aH
     go_wp2_with (first
      |(refine aG rfl (.tmp 23) rfl b (o + i * 3) rfl _ A2 B2 n2 c2 m2 d2 aP.out ?_)
      |((with_reducible refine HC.out.mono ?_); rintro e w1 hp; obtain ⟨rfl, hb⟩ := qV hp; have H1 := LH (Below (w.alloc (zC K A n c (some ⟨b, o, none⟩) m d)).heap.size (w.alloc (zC K A n c (some ⟨b, o, none⟩) m d)) w1) (ah HI.out.2.2 hb); clear hp hb))
     go_roundg g
     case rel => exact ⟨i + 1, N + X, by omega, by omega, rfl, by go_num, Lh ⟨HX.out.1, HX.out.2.1, H1.out⟩⟩
     case measure => omega
    ·have p2 : decide (N <= q) = false := dF hNq;have HE := LH (N = T) (by
      have h1 := HI.out.1;rw [List.drop_eq_getElem_cons (by rw [<- bE.out.mlen]; exact hlt), mZ, if_neg hNq] at h1;exact h1)
     go_wp2_with fail;go_ret;exact ⟨HE.out ▸ rfl, ah (ai _ _) HI.out.2.2⟩
   ·obtain rfl : i = m := by omega
    have HE := LH (N = T) (by
     have h1 := HI.out.1;rw [bE.out.mlen, List.drop_length, mZ] at h1;exact h1)
    go_wp2_with fail;go_ret;exact ⟨HE.out ▸ rfl, ah (ai _ _) HI.out.2.2⟩
theorem Ou : ∀ (z : Nat) (r : Rx), SizeOf.sizeOf r <= z -> ∀ (V : Bool), V = aO r -> ∀ (A B : Option Addr) (n c m d : Nat) (w : World), aI w r A n c B m d -> Calls Tryz.prog 48 #[.agg #[.int .i64 r.kind, .slice A n c, .slice B m d]] w (aU w V) := by
 intro z
 induction z with
 |zero => intro r hz; exact absurd hz (by cases r; rw [Rx.mk.sizeOf_spec]; omega)
 |succ z ih =>
  intro r hz V hV A B n c m d w hop;have dH := LH (∀ i, i < m -> ∀ (A B : Option Addr) (n c k d : Nat) (W : World), aI W (bW r i) A n c B k d -> Cz 48 #[.agg #[.int .i64 (bW r i).kind, .slice A n c, .slice B k d]] W (aU W (aO (bW r i)))) fun i hi A B n c k d W h => ih (bW r i) (by have := jZ (vX (r := r) (by rw [<- hop.mlen]; exact hi)); omega) _ rfl A B n c k d W h
  have bE := Lh hop;obtain ⟨K, hK⟩ := eX r.kind;have fV := LH (V = if K = 3 then r.kids.all aO else if K = 4 then r.kids.any aO else decide (K = 1 \/ K = 5)) (by rw [hV, CW, hK]);have iA : m <= d := hop.mcap;have fG : d <= 9223372036854775807 := hop.dmax;rw [<- hK];clear hV hop ih hz hK
  by_cases k3 : K = 3
  ·have iJ := LH (V = r.kids.all aO) (by rw [fV.out, if_pos k3]);have q1 : decide (K = 3) = true := dT k3;have q2 : (K == 3) = true := bT k3;clear k3;go_enter Tryz.func48, Tryz.ntmps48;go_wp2_with fail
   go_loopg [3] m (fun g s3 wr => ∃ (i : Nat), i + g = m /\ s3 = .int .i64 (i : Int) /\ Hid ((∀ j, j < i -> aO (bW r j) = true) /\ Below (w.alloc (zC K A n c B m d)).heap.size (w.alloc (zC K A n c B m d)) wr))
   case atStart => exact ⟨0, by omega, rfl, Lh ⟨fun j h => by omega, Below.refl _ _⟩⟩
   case round =>
    obtain ⟨i, hi, rfl, HI⟩ := hrel;have hb2 : wr.cell? ⟨w.heap.size, 2, none⟩ = some (.slice B m d) := kH HI.out.2 2 _ rfl
    by_cases hlt : i < m
    ·obtain ⟨g, rfl⟩ : ∃ g, gk = g + 1 := ⟨gk - 1, by omega⟩;obtain ⟨b, o, hpl⟩ := bE.out.place;obtain rfl : B = some ⟨b, o, none⟩ := by
      rcases hpl with h | h
      ·omega
      ·exact h
     obtain ⟨A2, n2, c2, B2, m2, d2, hrg, ax⟩ := bE.out.kid hlt;have bg := LH (Bw w wr) (ah (ai _ _) HI.out.2);have aP := LH (wr.rangeAt b (o + i * 3) [.int .i64 (bW r i).kind, .slice A2 n2 c2, .slice B2 m2 d2]) fun j v hv => (bg.out.cell (p := ⟨b, o + i * 3 + j, none⟩) (World.block_lt_of_cell? w _ (hrg j v hv))).trans (hrg j v hv)
     obtain ⟨X, hX⟩ := eX (aO (bW r i));have HC := LH (Cz 48 #[.agg #[.int .i64 (bW r i).kind, .slice A2 n2 c2, .slice B2 m2 d2]] wr (aU wr X)) (by rw [hX]; exact dH.out i hlt A2 B2 n2 c2 m2 d2 wr (ax.below bg.out));have HX := Lh hX;clear hpl hrg ax hX
     cases X
     ·have kz := LH (V = false) (by
       rw [iJ.out, List.all_eq_false];exact ⟨_, vX (by rw [<- bE.out.mlen]; exact hlt), by rw [<- HX.out]; simp⟩)
      go_wp2_with (first
       |(refine aG rfl (.tmp 18) rfl b (o + i * 3) rfl _ A2 B2 n2 c2 m2 d2 aP.out ?_)
       |((with_reducible refine HC.out.mono ?_); rintro e w1 hp; obtain ⟨rfl, hb⟩ := aV hp; have H1 := LH (Bw w w1) (ah bg.out hb); clear hp hb))
      go_ret;exact ⟨kz.out.symm ▸ rfl, H1.out⟩
     ·go_wp2_with (first
       |(refine aG rfl (.tmp 18) rfl b (o + i * 3) rfl _ A2 B2 n2 c2 m2 d2 aP.out ?_)
       |((with_reducible refine HC.out.mono ?_); rintro e w1 hp; obtain ⟨rfl, hb⟩ := aV hp; have H1 := LH (Below (w.alloc (zC K A n c (some ⟨b, o, none⟩) m d)).heap.size (w.alloc (zC K A n c (some ⟨b, o, none⟩) m d)) w1) (ah HI.out.2 hb); clear hp hb))
      go_roundg g
      case rel => exact ⟨i + 1, by omega, by go_num, Lh ⟨fun j hj => by
       by_cases e : j < i
       ·exact HI.out.1 j e
       ·obtain rfl : j = i := by omega
        exact HX.out.symm, H1.out⟩⟩
      case measure => omega
    ·obtain rfl : i = m := by omega
     have HE := LH (V = true) (by
      rw [iJ.out, List.all_eq_true];intro x hx;obtain ⟨j, hj, e⟩ := List.getElem_of_mem hx;have h1 := HI.out.1 j (by rw [bE.out.mlen]; exact hj);rw [xw hj] at h1;rw [<- e, h1])
     go_wp2_with fail;go_ret;exact ⟨HE.out.symm ▸ rfl, ah (ai _ _) HI.out.2⟩
  ·have q1 : decide (K = 3) = false := dF k3;have q2 : (K == 3) = false := bF k3
   by_cases k4 : K = 4
   ·have iJ := LH (V = r.kids.any aO) (by rw [fV.out, if_neg k3, if_pos k4]);have q3 : decide (K = 4) = true := dT k4;have q4 : (K == 4) = true := bT k4;clear k3 k4;go_enter Tryz.func48, Tryz.ntmps48;go_wp2_with fail
    go_loopg [4] m (fun g s4 wr => ∃ (i : Nat), i + g = m /\ s4 = .int .i64 (i : Int) /\ Hid ((∀ j, j < i -> aO (bW r j) = false) /\ Below (w.alloc (zC K A n c B m d)).heap.size (w.alloc (zC K A n c B m d)) wr))
    case atStart => exact ⟨0, by omega, rfl, Lh ⟨fun j h => by omega, Below.refl _ _⟩⟩
    case round =>
     obtain ⟨i, hi, rfl, HI⟩ := hrel;have hb2 : wr.cell? ⟨w.heap.size, 2, none⟩ = some (.slice B m d) := kH HI.out.2 2 _ rfl
     by_cases hlt : i < m
     ·obtain ⟨g, rfl⟩ : ∃ g, gk = g + 1 := ⟨gk - 1, by omega⟩;obtain ⟨b, o, hpl⟩ := bE.out.place;obtain rfl : B = some ⟨b, o, none⟩ := by
       rcases hpl with h | h
       ·omega
       ·exact h
      obtain ⟨A2, n2, c2, B2, m2, d2, hrg, ax⟩ := bE.out.kid hlt;have bg := LH (Bw w wr) (ah (ai _ _) HI.out.2);have aP := LH (wr.rangeAt b (o + i * 3) [.int .i64 (bW r i).kind, .slice A2 n2 c2, .slice B2 m2 d2]) fun j v hv => (bg.out.cell (p := ⟨b, o + i * 3 + j, none⟩) (World.block_lt_of_cell? w _ (hrg j v hv))).trans (hrg j v hv)
      obtain ⟨X, hX⟩ := eX (aO (bW r i));have HC := LH (Cz 48 #[.agg #[.int .i64 (bW r i).kind, .slice A2 n2 c2, .slice B2 m2 d2]] wr (aU wr X)) (by rw [hX]; exact dH.out i hlt A2 B2 n2 c2 m2 d2 wr (ax.below bg.out));have HX := Lh hX;clear hpl hrg ax hX
      cases X
      ·go_wp2_with (first
        | (refine aG rfl (.tmp 35) rfl b (o + i * 3) rfl _ A2 B2 n2 c2 m2 d2 aP.out ?_)
        | ((with_reducible refine HC.out.mono ?_); rintro e w1 hp; obtain ⟨rfl, hb⟩ := aV hp; have H1 := LH (Below (w.alloc (zC K A n c (some ⟨b, o, none⟩) m d)).heap.size (w.alloc (zC K A n c (some ⟨b, o, none⟩) m d)) w1) (ah HI.out.2 hb); clear hp hb))
       go_roundg g
       case rel => exact ⟨i + 1, by omega, by go_num, Lh ⟨fun j hj => by
        by_cases e : j < i
        · exact HI.out.1 j e
        · obtain rfl : j = i := by omega
          exact HX.out.symm, H1.out⟩⟩
       case measure => omega
      ·have kz := LH (V = true) (by
        rw [iJ.out, List.any_eq_true];exact ⟨_, vX (by rw [<- bE.out.mlen]; exact hlt), by rw [<- HX.out]⟩)
       go_wp2_with (first
        | (refine aG rfl (.tmp 35) rfl b (o + i * 3) rfl _ A2 B2 n2 c2 m2 d2 aP.out ?_)
        | ((with_reducible refine HC.out.mono ?_); rintro e w1 hp; obtain ⟨rfl, hb⟩ := aV hp; have H1 := LH (Bw w w1) (ah bg.out hb); clear hp hb))
       go_ret;exact ⟨kz.out.symm ▸ rfl, H1.out⟩
     ·obtain rfl : i = m := by omega
      have HE := LH (V = false) (by
       rw [iJ.out, List.any_eq_false];intro x hx;obtain ⟨j, hj, e⟩ := List.getElem_of_mem hx;have h1 := HI.out.1 j (by rw [bE.out.mlen]; exact hj);rw [xw hj] at h1;rw [<- e, h1]; simp)
      go_wp2_with fail;go_ret;exact ⟨HE.out.symm ▸ rfl, ah (ai _ _) HI.out.2⟩
   ·have q3 : decide (K = 4) = false := dF k4;have q4 : (K == 4) = false := bF k4
    by_cases k1 : K = 1
    ·have q5 : decide (K = 1) = true := dT k1;have q6 : (K == 1) = true := bT k1;have HE := LH (V = true) (by rw [fV.out, if_neg k3, if_neg k4]; simp; omega);go_enter Tryz.func48, Tryz.ntmps48;go_wp2_with fail;go_ret;exact ⟨HE.out.symm ▸ rfl, ai _ _⟩
    ·have q5 : decide (K = 1) = false := dF k1;have q6 : (K == 1) = false := bF k1
     by_cases k5 : K = 5
     ·have q7 : decide (K = 5) = true := dT k5;have q8 : (K == 5) = true := bT k5;have HE := LH (V = true) (by rw [fV.out, if_neg k3, if_neg k4]; simp; omega);go_enter Tryz.func48, Tryz.ntmps48;go_wp2_with fail;go_ret;exact ⟨HE.out.symm ▸ rfl, ai _ _⟩
     ·have q7 : decide (K = 5) = false := dF k5;have q8 : (K == 5) = false := bF k5;have HE := LH (V = false) (by rw [fV.out, if_neg k3, if_neg k4]; simp; omega);go_enter Tryz.func48, Tryz.ntmps48;go_wp2_with fail;go_ret;exact ⟨HE.out.symm ▸ rfl, ai _ _⟩
theorem jX {S : World -> Prop} {ops : Array Oper} {rest : List Oper} {o : Oper} {a : Act} {Q : Act -> Prop} (hw : Region.wanted o (yielded ops a.tmps) = true) (x : Operand) (ho : o.op = .load 25 x)
  (g q : Nat) (hx : a.eval x = .pointer (some ⟨g, q, none⟩)) (K : Int) (A B : Option Addr) (n c m d : Nat) (hc : ∀ p : Wo S, p.wo.rangeAt g q (zV K A n c B m d))
  (h : wpQuiet Tryz.prog ops (fun w' => ∃ p : Wo S, w' = p.wo) Q rest (a.put o.dst (.agg #[.int .i64 K, .slice A n c, .slice B m d]))) : wpQuiet Tryz.prog ops (fun w' => ∃ p : Wo S, w' = p.wo) Q (o :: rest) a :=
 BigFrame.wpQuiet_want hw fun K' hK => ⟨_, fun w hp => by
  obtain ⟨p, rfl⟩ := hp;unfold Oper.quietAt execOp;simp only [ho, hx, Instr.loadAt, Instr.sureAddr, Sem.run_bind, Sem.run_pure, Result.andThen_ok, run_loadVar_mid p.wo g q 25 _ _ (hc p) Tryz.underlying25 rfl au];exact ⟨rfl, rfl⟩, hK _ h⟩
theorem xN (A : Option Addr) (n c : Nat) (w : World) : Calls Tryz.prog 55 #[.slice A n c] w fun e w' => e = .returned (.agg #[.int .i64 2, .slice A n c, .slice none 0 0]) /\ Bw w w' := by
 go_enter Tryz.func55, Tryz.ntmps55;go_wp2_with fail;exact cK rfl w.heap.size rfl (C := (zV 2 A n c none 0 0)) (T := 25) (ae.at w _ _ 25 _ rfl rfl) _ Tryz.underlying25 rfl au rfl ⟨rfl, ai _ _⟩
theorem p8 (K : Int) (B : Option Addr) (m d : Nat) (w : World) : Calls Tryz.prog 40 #[.int .i64 K, .slice B m d] w fun e w' => e = .returned (.agg #[.int .i64 K, .slice none 0 0, .slice B m d]) /\ Bw w w' := by
 go_enter Tryz.func40, Tryz.ntmps40;go_wp2_with fail;exact cK rfl w.heap.size rfl (C := (zV K none 0 0 B m d)) (T := 25) (ae.at w _ _ 25 _ rfl rfl) _ Tryz.underlying25 rfl au rfl ⟨rfl, ai _ _⟩
section
variable {w W : World} {K K2 : Int} {A B A2 B2 : Option Addr} {n c m d n2 c2 m2 d2 : Nat}
theorem mJ (hb : Below ((w.alloc (zC K A n c B m d)).alloc (zC K2 A2 n2 c2 B2 m2 d2)).heap.size ((w.alloc (zC K A n c B m d)).alloc (zC K2 A2 n2 c2 B2 m2 d2)) W) (j : Nat) (v : Value) (hv : [Value.int .i64 K, .slice A n c, .slice B m d][j]? = some v) : W.cell? ⟨w.heap.size, j, none⟩ = some v :=
 kH (ah (ai _ _) hb) j v hv
theorem mI (hb : Below ((w.alloc (zC K A n c B m d)).alloc (zC K2 A2 n2 c2 B2 m2 d2)).heap.size ((w.alloc (zC K A n c B m d)).alloc (zC K2 A2 n2 c2 B2 m2 d2)) W) (j : Nat) (v : Value) (hv : [Value.int .i64 K2, .slice A2 n2 c2, .slice B2 m2 d2][j]? = some v) : W.cell? ⟨w.heap.size + 1, j, none⟩ = some v := by
 have h := kH hb j v hv
 rwa [show (w.alloc (zC K A n c B m d)).heap.size = w.heap.size + 1 by simp] at h
theorem oV (hb : Below ((w.alloc (zC K A n c B m d)).alloc (zC K2 A2 n2 c2 B2 m2 d2)).heap.size ((w.alloc (zC K A n c B m d)).alloc (zC K2 A2 n2 c2 B2 m2 d2)) W) : Bw w W := ah (aF (ai _ _) _) hb
end
theorem Qd : ∀ (z : Nat) (r t : Rx), SizeOf.sizeOf r <= z -> ∀ (R : Int), R = bI r t -> ∀ (A B A2 B2 : Option Addr) (n c m d n2 c2 m2 d2 : Nat) (w : World), aI w r A n c B m d -> aI w t A2 n2 c2 B2 m2 d2 -> Calls Tryz.prog 49 #[.agg #[.int .i64 r.kind, .slice A n c, .slice B m d], .agg #[.int .i64 t.kind, .slice A2 n2 c2, .slice B2 m2 d2]] w (nV w R) := by
 intro z
 induction z with
 |zero => intro r t hz; exact absurd hz (by cases r; rw [Rx.mk.sizeOf_spec]; omega)
 |succ z ih =>
  intro r t hz R hR A B A2 B2 n c m d n2 c2 m2 d2 w hop mR;have dH := LH (∀ i, i < m -> ∀ (x : Rx) (A B A2 B2 : Option Addr) (n c k d n2 c2 m2 d2 : Nat) (W : World), aI W (bW r i) A n c B k d -> aI W x A2 n2 c2 B2 m2 d2 -> Cz 49 #[.agg #[.int .i64 (bW r i).kind, .slice A n c, .slice B k d], .agg #[.int .i64 x.kind, .slice A2 n2 c2, .slice B2 m2 d2]] W (nV W (bI (bW r i) x))) fun i hi x A B A2 B2 n c k d n2 c2 m2 d2 W h h2 => ih (bW r i) x (by have := jZ (vX (r := r) (by rw [<- hop.mlen]; exact hi)); omega) _ rfl A B A2 B2 n c k d n2 c2 m2 d2 W h h2
  have bE := LH (aI w r A n c B m d /\ aI w t A2 n2 c2 B2 m2 d2) ⟨hop, mR⟩;obtain ⟨K, hK⟩ := eX r.kind;obtain ⟨K2, hK2⟩ := eX t.kind;obtain ⟨T1, lg⟩ := eX (if bG K K2 ≠ 0 then bG K K2 else dI r.syms t.syms)
  have HT := LH (T1 = (if bG K K2 ≠ 0 then bG K K2 else dI r.syms t.syms) /\ R = if T1 ≠ 0 then T1 else cmpL r.kids t.kids) ⟨lg, by
   rw [hR, I1, lg, hK, hK2]
   by_cases h : bG r.kind t.kind ≠ 0
   ·rw [if_pos h, if_pos h, if_pos h]
   ·rw [if_neg h, if_neg h]⟩
  have zi := LH (∀ (a b : Int) W, Cz 80 #[.int .i64 a, .int .i64 b] W (nV W (bG a b))) V7;have hnc2 : n2 <= c2 := mR.ncap;have J4 : c2 <= 9223372036854775807 := mR.cmax;have G5 : m2 <= d2 := mR.mcap;have GK : d2 <= 9223372036854775807 := mR.dmax;rw [<- hK, <- hK2];clear hR hop mR ih hz hK hK2 lg;go_enter Tryz.func49, Tryz.ntmps49
  go_upto_block 0 with ((with_reducible refine (zi.out _ _ _).mono ?_); rintro e w1 hp; obtain ⟨rfl, hb⟩ := qV hp; have H1 := LH (Below ((w.alloc (zC K A n c B m d)).alloc (zC K2 A2 n2 c2 B2 m2 d2)).heap.size ((w.alloc (zC K A n c B m d)).alloc (zC K2 A2 n2 c2 B2 m2 d2)) w1) hb; clear hp hb)
  go_cut [5, 6] from 13 to 41 (fun s5 s6 wx => ∃ (x : Int) (i : Int), s5 = .int .i64 x /\ s6 = .int .i64 i /\ Hid (((x ≠ 0 /\ T1 = x) \/ (x = 0 /\ T1 = bG (n : Int) (n2 : Int))) /\ Below ((w.alloc (zC K A n c B m d)).alloc (zC K2 A2 n2 c2 B2 m2 d2)).heap.size ((w.alloc (zC K A n c B m d)).alloc (zC K2 A2 n2 c2 B2 m2 d2)) wx))
  case first =>
   go_wp2_with fail
   go_loopg [5, 6] n (fun g s5 s6 wr => ∃ (i : Nat) (x : Int), i + g = n /\ i <= n2 /\ s5 = .int .i64 x /\ s6 = .int .i64 (i : Int) /\ Hid (((x ≠ 0 /\ T1 = x) \/ (x = 0 /\ T1 = dI (r.syms.drop i) (t.syms.drop i))) /\ Below ((w.alloc (zC K A n c B m d)).alloc (zC K2 A2 n2 c2 B2 m2 d2)).heap.size ((w.alloc (zC K A n c B m d)).alloc (zC K2 A2 n2 c2 B2 m2 d2)) wr))
   case atStart =>
    exact ⟨0, _, by omega, by omega, rfl, rfl, Lh ⟨by
     rw [HT.out.1]
     by_cases e : bG K K2 = 0
     ·exact .inr ⟨e, by rw [if_neg (by simpa using e)]; rfl⟩
     ·exact .inl ⟨e, by rw [if_pos e]⟩, H1.out⟩⟩
   case round =>
    obtain ⟨i, x, hi, tq, rfl, rfl, HI⟩ := hrel;have ca1 : wr.cell? ⟨w.heap.size, 1, none⟩ = some (.slice A n c) := mJ HI.out.2 1 _ rfl;have ca2 : wr.cell? ⟨w.heap.size, 2, none⟩ = some (.slice B m d) := mJ HI.out.2 2 _ rfl;have cb1 : wr.cell? ⟨w.heap.size + 1, 1, none⟩ = some (.slice A2 n2 c2) := mI HI.out.2 1 _ rfl;have cb2 : wr.cell? ⟨w.heap.size + 1, 2, none⟩ = some (.slice B2 m2 d2) := mI HI.out.2 2 _ rfl
    by_cases h1 : i < n
    ·by_cases h2 : i < n2
     ·have en1 : decide ((i : Int) < (n : Int)) = true := dT (by omega)
      by_cases hx : x = 0
      ·skip
       obtain ⟨g, rfl⟩ : ∃ g, gk = g + 1 := ⟨gk - 1, by omega⟩;have z1 : (x == 0) = true := bT hx;have hs1 : i < r.syms.length := by rw [<- bE.out.1.nlen]; exact h1
       have hs2 : i < t.syms.length := by rw [<- bE.out.2.nlen]; exact h2
       obtain ⟨b, o, rfl, aH⟩ := vO bE.out.1.syms (by intro e; rw [e] at hs1; simp at hs1);obtain ⟨b2, o2, rfl, tN⟩ := vO bE.out.2.syms (by intro e; rw [e] at hs2; simp at hs2);obtain ⟨u, hu⟩ := eX (r.syms.getD i 0);obtain ⟨v, hv⟩ := eX (t.syms.getD i 0);have bg := LH (Bw w wr) (oV HI.out.2);have bX := LH (Bw wr wr) (Below.refl _ _);have l1 : ∀ p : Wo (Below wr.heap.size wr), p.wo.cell? ⟨b, o + i, none⟩ = some (.int .i64 u) := fun p => aH.at (ah bg.out p.ok) hs1 hu
       have l2 : ∀ p : Wo (Below wr.heap.size wr), p.wo.cell? ⟨b2, o2 + i, none⟩ = some (.int .i64 v) := fun p => tN.at (ah bg.out p.ok) hs2 hv
       have l3 : ∀ p : Wo (Below wr.heap.size wr), p.wo.cell? ⟨w.heap.size, 1, none⟩ = some (.slice (some ⟨b, o, none⟩) n c) := fun p => mJ (ah HI.out.2 p.ok) 1 _ rfl
       have l4 : ∀ p : Wo (Below wr.heap.size wr), p.wo.cell? ⟨w.heap.size + 1, 1, none⟩ = some (.slice (some ⟨b2, o2, none⟩) n2 c2) := fun p => mI (ah HI.out.2 p.ok) 1 _ rfl
       obtain ⟨y, hy⟩ := eX (bG u v);have qB := LH (∀ W, Bw wr W -> Cz 80 #[.int .i64 u, .int .i64 v] W fun e w' => e = .returned (.int .i64 y) /\ Bw wr w') fun W hb => (zi.out u v W).mono fun e w' hp => ⟨by rw [hy]; exact hp.1, ah hb hp.2⟩
       have HY := LH ((y ≠ 0 /\ T1 = y) \/ (y = 0 /\ T1 = dI (r.syms.drop (i + 1)) (t.syms.drop (i + 1)))) (by
        have h3 : T1 = dI (r.syms.drop i) (t.syms.drop i) := by
         rcases HI.out.1 with h | h
         ·exact absurd hx h.1
         ·exact h.2
        rw [NQ hs1 hs2, <- hu, <- hv, <- hy] at h3
        by_cases e : y ≠ 0
        ·exact .inl ⟨e, by rw [h3, if_pos e]⟩
        ·exact .inr ⟨by simpa using e, by rw [h3, if_neg e]⟩)
       clear aH tN hu hv hy hs1 hs2;go_wp2_with fail;haveI : Nonempty (Wo (Below wr.heap.size wr)) := ⟨⟨wr, bX.out⟩⟩;refine jB (Below wr.heap.size wr) jC (by kernel_rfl) (below_drewN bX.out 1) ?_
       repeat (go_big_quiet_step ((go_at_call 80; exact qh qB.out _)))
       refine wpQuiet_nil ?_;intro x1 hw2;obtain ⟨⟨iy, ax⟩, hw3⟩ := hw2;have hw4 : x1 = iy := hw3;subst hw4;have fE := Lh ax;clear hw3 ax;go_wp2_with fail
       go_roundg g
       case rel => exact ⟨i + 1, y, by omega, by omega, rfl, by go_num, Lh ⟨HY.out, ah HI.out.2 fE.out⟩⟩
       case measure => omega
      ·skip
       have z1 : (x == 0) = false := bF hx;have HE := LH ((x ≠ 0 /\ T1 = x) \/ (x = 0 /\ T1 = bG (n : Int) (n2 : Int))) (by
        rcases HI.out.1 with h | h
        ·exact .inl h
        ·exact absurd h.1 hx)
       go_wp2_with fail
       go_meet
       exact ⟨x, (i : Int), rfl, rfl, Lh ⟨HE.out, HI.out.2⟩⟩
     ·skip
      have en1 : decide ((i : Int) < (n : Int)) = true := dT (by omega);have HE := LH ((x ≠ 0 /\ T1 = x) \/ (x = 0 /\ T1 = bG (n : Int) (n2 : Int))) (by
       rcases HI.out.1 with h | h
       ·exact .inl h
       ·refine .inr ⟨h.1, ?_⟩;rw [h.2, F6 (.inr (by rw [<- bE.out.2.nlen]; omega)) (by first | (rw [<- bE.out.1.nlen]; omega) | (rw [<- bE.out.1.mlen]; omega)) (by first | (rw [<- bE.out.2.nlen]; omega) | (rw [<- bE.out.2.mlen]; omega)), <- bE.out.1.nlen, <- bE.out.2.nlen])
      go_wp2_with fail
      go_meet
      exact ⟨x, (i : Int), rfl, rfl, Lh ⟨HE.out, HI.out.2⟩⟩
    ·skip
     have en1 : decide ((i : Int) < (n : Int)) = false := dF (by omega);have HE := LH ((x ≠ 0 /\ T1 = x) \/ (x = 0 /\ T1 = bG (n : Int) (n2 : Int))) (by
      rcases HI.out.1 with h | h
      ·exact .inl h
      ·refine .inr ⟨h.1, ?_⟩;rw [h.2, F6 (.inl (by rw [<- bE.out.1.nlen]; omega)) (by first | (rw [<- bE.out.1.nlen]; omega) | (rw [<- bE.out.1.mlen]; omega)) (by first | (rw [<- bE.out.2.nlen]; omega) | (rw [<- bE.out.2.mlen]; omega)), <- bE.out.1.nlen, <- bE.out.2.nlen])
     go_wp2_with fail
     go_meet
     exact ⟨x, (i : Int), rfl, rfl, Lh ⟨HE.out, HI.out.2⟩⟩
  case rest =>
   obtain ⟨x, i, rfl, rfl, HX⟩ := hcut;have ca1 : wc.cell? ⟨w.heap.size, 1, none⟩ = some (.slice A n c) := mJ HX.out.2 1 _ rfl;have ca2 : wc.cell? ⟨w.heap.size, 2, none⟩ = some (.slice B m d) := mJ HX.out.2 2 _ rfl;have cb1 : wc.cell? ⟨w.heap.size + 1, 1, none⟩ = some (.slice A2 n2 c2) := mI HX.out.2 1 _ rfl;have cb2 : wc.cell? ⟨w.heap.size + 1, 2, none⟩ = some (.slice B2 m2 d2) := mI HX.out.2 2 _ rfl
   by_cases hx : x = 0
   ·skip
    have z1 : (x == 0) = true := bT hx;have HT1 := LH (T1 = bG (n : Int) (n2 : Int)) (by
     rcases HX.out.1 with h | h
     ·exact absurd hx h.1
     ·exact h.2)
    go_wp2_with ((with_reducible refine (zi.out _ _ _).mono ?_); rintro e w2 hp; obtain ⟨rfl, hb⟩ := qV hp; have H2 := LH (Below ((w.alloc (zC K A n c B m d)).alloc (zC K2 A2 n2 c2 B2 m2 d2)).heap.size ((w.alloc (zC K A n c B m d)).alloc (zC K2 A2 n2 c2 B2 m2 d2)) w2) (ah HX.out.2 hb); clear hp hb)
    go_loopg [5, 7] m (fun g s5 s7 wr => ∃ (i : Nat) (x : Int), i + g = m /\ i <= m2 /\ s5 = .int .i64 x /\ s7 = .int .i64 (i : Int) /\ Hid (((x ≠ 0 /\ R = x) \/ (x = 0 /\ R = cmpL (r.kids.drop i) (t.kids.drop i))) /\ Below ((w.alloc (zC K A n c B m d)).alloc (zC K2 A2 n2 c2 B2 m2 d2)).heap.size ((w.alloc (zC K A n c B m d)).alloc (zC K2 A2 n2 c2 B2 m2 d2)) wr))
    case atStart =>
     exact ⟨0, _, by omega, by omega, rfl, rfl, Lh ⟨by
      have h1 := HT.out.2;rw [HT1.out] at h1
      by_cases e : bG (n : Int) (n2 : Int) = 0
      ·exact .inr ⟨e, by rw [h1, if_neg (by simpa using e)]; rfl⟩
      ·exact .inl ⟨e, by rw [h1, if_pos e]⟩, H2.out⟩⟩
    case round =>
     obtain ⟨i, x, hi, tq, rfl, rfl, HI⟩ := hrel;have ca1 : wr.cell? ⟨w.heap.size, 1, none⟩ = some (.slice A n c) := mJ HI.out.2 1 _ rfl;have ca2 : wr.cell? ⟨w.heap.size, 2, none⟩ = some (.slice B m d) := mJ HI.out.2 2 _ rfl;have cb1 : wr.cell? ⟨w.heap.size + 1, 1, none⟩ = some (.slice A2 n2 c2) := mI HI.out.2 1 _ rfl;have cb2 : wr.cell? ⟨w.heap.size + 1, 2, none⟩ = some (.slice B2 m2 d2) := mI HI.out.2 2 _ rfl
     by_cases h1 : i < m
     ·by_cases h2 : i < m2
      ·have Da : decide ((i : Int) < (m : Int)) = true := dT (by omega)
       by_cases hx : x = 0
       ·skip
        obtain ⟨g, rfl⟩ : ∃ g, gk = g + 1 := ⟨gk - 1, by omega⟩;have z1 : (x == 0) = true := bT hx;obtain ⟨b, o, hpl⟩ := bE.out.1.place;obtain rfl : B = some ⟨b, o, none⟩ := by
         rcases hpl with h | h
         ·omega
         ·exact h
        obtain ⟨b2, o2, Ee⟩ := bE.out.2.place;obtain rfl : B2 = some ⟨b2, o2, none⟩ := by
         rcases Ee with h | h
         ·omega
         ·exact h
        obtain ⟨Ak, nk, ck, Bk, mk, dk, hrg, ax⟩ := bE.out.1.kid h1;obtain ⟨Al, nl, cl, Bl, ml, dl, hrg2, qJ⟩ := bE.out.2.kid h2;have bg := LH (Bw w wr) (oV HI.out.2);have bX := LH (Bw wr wr) (Below.refl _ _);have A7 := LH (∀ p : Wo (Below wr.heap.size wr), p.wo.rangeAt b (o + i * 3) [.int .i64 (bW r i).kind, .slice Ak nk ck, .slice Bk mk dk]) fun p j v hv => ((ah bg.out p.ok).cell (p := ⟨b, o + i * 3 + j, none⟩) (World.block_lt_of_cell? w _ (hrg j v hv))).trans (hrg j v hv)
        have tQ := LH (∀ p : Wo (Below wr.heap.size wr), p.wo.rangeAt b2 (o2 + i * 3) [.int .i64 (bW t i).kind, .slice Al nl cl, .slice Bl ml dl]) fun p j v hv => ((ah bg.out p.ok).cell (p := ⟨b2, o2 + i * 3 + j, none⟩) (World.block_lt_of_cell? w _ (hrg2 j v hv))).trans (hrg2 j v hv)
        have l3 : ∀ p : Wo (Below wr.heap.size wr), p.wo.cell? ⟨w.heap.size, 2, none⟩ = some (.slice (some ⟨b, o, none⟩) m d) := fun p => mJ (ah HI.out.2 p.ok) 2 _ rfl
        have l4 : ∀ p : Wo (Below wr.heap.size wr), p.wo.cell? ⟨w.heap.size + 1, 2, none⟩ = some (.slice (some ⟨b2, o2, none⟩) m2 d2) := fun p => mI (ah HI.out.2 p.ok) 2 _ rfl
        obtain ⟨y, hy⟩ := eX (bI (bW r i) (bW t i));have qB := LH (∀ W, Bw wr W -> Cz 49 #[.agg #[.int .i64 (bW r i).kind, .slice Ak nk ck, .slice Bk mk dk], .agg #[.int .i64 (bW t i).kind, .slice Al nl cl, .slice Bl ml dl]] W fun e w' => e = .returned (.int .i64 y) /\ Bw wr w') fun W hb => (dH.out i h1 (bW t i) _ _ _ _ _ _ _ _ _ _ _ _ W (ax.below (ah bg.out hb)) (qJ.below (ah bg.out hb))).mono fun e w' hp => ⟨by rw [hy]; exact hp.1, ah hb hp.2⟩
        have HY := LH ((y ≠ 0 /\ R = y) \/ (y = 0 /\ R = cmpL (r.kids.drop (i + 1)) (t.kids.drop (i + 1)))) (by
         have hs1 : i < r.kids.length := by rw [<- bE.out.1.mlen]; exact h1
         have hs2 : i < t.kids.length := by rw [<- bE.out.2.mlen]; exact h2
         have h3 : R = cmpL (r.kids.drop i) (t.kids.drop i) := by
          rcases HI.out.1 with h | h
          ·exact absurd hx h.1
          ·exact h.2
         rw [Ju hs1 hs2, <- xw hs1, <- xw hs2, <- hy] at h3
         by_cases e : y ≠ 0
         ·exact .inl ⟨e, by rw [h3, if_pos e]⟩
         ·exact .inr ⟨by simpa using e, by rw [h3, if_neg e]⟩)
        clear hpl Ee hrg hrg2 ax qJ hy;go_wp2_with fail;haveI : Nonempty (Wo (Below wr.heap.size wr)) := ⟨⟨wr, bX.out⟩⟩;refine jB (Below wr.heap.size wr) jC (by kernel_rfl) (below_drewN bX.out 1) ?_
        iterate 4 (go_big_quiet_step (fail))
        refine jX rfl (.tmp 72) rfl b (o + i * 3) rfl _ Ak Bk nk ck mk dk A7.out ?_;try simp only [Act.put, pP]
        iterate 4 (go_big_quiet_step (fail))
        refine jX rfl (.tmp 77) rfl b2 (o2 + i * 3) rfl _ Al Bl nl cl ml dl tQ.out ?_;try simp only [Act.put, pP]
        repeat (go_big_quiet_step ((go_at_call 49; exact qh qB.out _)))
        refine wpQuiet_nil ?_;intro x1 hw2;obtain ⟨⟨iy, ax⟩, hw3⟩ := hw2;have hw4 : x1 = iy := hw3;subst hw4;have fE := Lh ax;clear hw3 ax;go_wp2_with fail
        go_roundg g
        case rel => exact ⟨i + 1, y, by omega, by omega, rfl, by go_num, Lh ⟨HY.out, ah HI.out.2 fE.out⟩⟩
        case measure => omega
       ·skip
        have z1 : (x == 0) = false := bF hx;have kE := LH (R = x) (by
         rcases HI.out.1 with h | h
         ·exact h.2
         ·exact absurd h.1 hx)
        go_wp2_with fail;go_ret;exact ⟨kE.out ▸ rfl, oV HI.out.2⟩
      ·skip
       have Da : decide ((i : Int) < (m : Int)) = true := dT (by omega);have HE := LH ((x ≠ 0 /\ R = x) \/ (x = 0 /\ R = bG (m : Int) (m2 : Int))) (by
        rcases HI.out.1 with h | h
        ·exact .inl h
        ·refine .inr ⟨h.1, ?_⟩;rw [h.2, zq (.inr (by rw [<- bE.out.2.mlen]; omega)) (by first | (rw [<- bE.out.1.nlen]; omega) | (rw [<- bE.out.1.mlen]; omega)) (by first | (rw [<- bE.out.2.nlen]; omega) | (rw [<- bE.out.2.mlen]; omega)), <- bE.out.1.mlen, <- bE.out.2.mlen])
       by_cases hx : x = 0
       ·skip
        have z1 : (x == 0) = true := bT hx;have yu := LH (R = bG (m : Int) (m2 : Int)) (by
         rcases HE.out with h | h
         ·exact absurd hx h.1
         ·exact h.2)
        go_wp2_with ((with_reducible refine (zi.out _ _ _).mono ?_); rintro e w2 hp; obtain ⟨rfl, hb⟩ := qV hp; have H2 := LH (Bw w w2) (ah (oV HI.out.2) hb); clear hp hb)
        go_ret;exact ⟨yu.out ▸ rfl, H2.out⟩
       ·skip
        have z1 : (x == 0) = false := bF hx;have kE := LH (R = x) (by
         rcases HI.out.1 with h | h
         ·exact h.2
         ·exact absurd h.1 hx)
        go_wp2_with fail;go_ret;exact ⟨kE.out ▸ rfl, oV HI.out.2⟩
     ·skip
      have Da : decide ((i : Int) < (m : Int)) = false := dF (by omega);have HE := LH ((x ≠ 0 /\ R = x) \/ (x = 0 /\ R = bG (m : Int) (m2 : Int))) (by
       rcases HI.out.1 with h | h
       ·exact .inl h
       ·refine .inr ⟨h.1, ?_⟩;rw [h.2, zq (.inl (by rw [<- bE.out.1.mlen]; omega)) (by first | (rw [<- bE.out.1.nlen]; omega) | (rw [<- bE.out.1.mlen]; omega)) (by first | (rw [<- bE.out.2.nlen]; omega) | (rw [<- bE.out.2.mlen]; omega)), <- bE.out.1.mlen, <- bE.out.2.mlen])
      by_cases hx : x = 0
      ·skip
       have z1 : (x == 0) = true := bT hx;have yu := LH (R = bG (m : Int) (m2 : Int)) (by
        rcases HE.out with h | h
        ·exact absurd hx h.1
        ·exact h.2)
       go_wp2_with ((with_reducible refine (zi.out _ _ _).mono ?_); rintro e w2 hp; obtain ⟨rfl, hb⟩ := qV hp; have H2 := LH (Bw w w2) (ah (oV HI.out.2) hb); clear hp hb)
       go_ret;exact ⟨yu.out ▸ rfl, H2.out⟩
      ·skip
       have z1 : (x == 0) = false := bF hx;have kE := LH (R = x) (by
        rcases HI.out.1 with h | h
        ·exact h.2
        ·exact absurd h.1 hx)
       go_wp2_with fail;go_ret;exact ⟨kE.out ▸ rfl, oV HI.out.2⟩
   ·skip
    have z1 : (x == 0) = false := bF hx;have HT1 := LH (T1 = x) (by
     rcases HX.out.1 with h | h
     ·exact h.2
     ·exact absurd h.1 hx)
    go_wp2_with fail
    go_loopg [5, 7] m (fun g s5 s7 wr => ∃ (i : Nat) (x : Int), i + g = m /\ i <= m2 /\ s5 = .int .i64 x /\ s7 = .int .i64 (i : Int) /\ Hid (((x ≠ 0 /\ R = x) \/ (x = 0 /\ R = cmpL (r.kids.drop i) (t.kids.drop i))) /\ Below ((w.alloc (zC K A n c B m d)).alloc (zC K2 A2 n2 c2 B2 m2 d2)).heap.size ((w.alloc (zC K A n c B m d)).alloc (zC K2 A2 n2 c2 B2 m2 d2)) wr))
    case atStart =>
     exact ⟨0, _, by omega, by omega, rfl, rfl, Lh ⟨by
      have h1 := HT.out.2;rw [HT1.out] at h1;exact .inl ⟨hx, by rw [h1, if_pos hx]⟩, HX.out.2⟩⟩
    case round =>
     obtain ⟨i, x, hi, tq, rfl, rfl, HI⟩ := hrel;have ca1 : wr.cell? ⟨w.heap.size, 1, none⟩ = some (.slice A n c) := mJ HI.out.2 1 _ rfl;have ca2 : wr.cell? ⟨w.heap.size, 2, none⟩ = some (.slice B m d) := mJ HI.out.2 2 _ rfl;have cb1 : wr.cell? ⟨w.heap.size + 1, 1, none⟩ = some (.slice A2 n2 c2) := mI HI.out.2 1 _ rfl;have cb2 : wr.cell? ⟨w.heap.size + 1, 2, none⟩ = some (.slice B2 m2 d2) := mI HI.out.2 2 _ rfl
     by_cases h1 : i < m
     ·by_cases h2 : i < m2
      ·have Da : decide ((i : Int) < (m : Int)) = true := dT (by omega)
       by_cases hx : x = 0
       ·skip
        obtain ⟨g, rfl⟩ : ∃ g, gk = g + 1 := ⟨gk - 1, by omega⟩;have z1 : (x == 0) = true := bT hx;obtain ⟨b, o, hpl⟩ := bE.out.1.place;obtain rfl : B = some ⟨b, o, none⟩ := by
         rcases hpl with h | h
         ·omega
         ·exact h
        obtain ⟨b2, o2, Ee⟩ := bE.out.2.place;obtain rfl : B2 = some ⟨b2, o2, none⟩ := by
         rcases Ee with h | h
         ·omega
         ·exact h
        obtain ⟨Ak, nk, ck, Bk, mk, dk, hrg, ax⟩ := bE.out.1.kid h1;obtain ⟨Al, nl, cl, Bl, ml, dl, hrg2, qJ⟩ := bE.out.2.kid h2;have bg := LH (Bw w wr) (oV HI.out.2);have bX := LH (Bw wr wr) (Below.refl _ _);have A7 := LH (∀ p : Wo (Below wr.heap.size wr), p.wo.rangeAt b (o + i * 3) [.int .i64 (bW r i).kind, .slice Ak nk ck, .slice Bk mk dk]) fun p j v hv => ((ah bg.out p.ok).cell (p := ⟨b, o + i * 3 + j, none⟩) (World.block_lt_of_cell? w _ (hrg j v hv))).trans (hrg j v hv)
        have tQ := LH (∀ p : Wo (Below wr.heap.size wr), p.wo.rangeAt b2 (o2 + i * 3) [.int .i64 (bW t i).kind, .slice Al nl cl, .slice Bl ml dl]) fun p j v hv => ((ah bg.out p.ok).cell (p := ⟨b2, o2 + i * 3 + j, none⟩) (World.block_lt_of_cell? w _ (hrg2 j v hv))).trans (hrg2 j v hv)
        have l3 : ∀ p : Wo (Below wr.heap.size wr), p.wo.cell? ⟨w.heap.size, 2, none⟩ = some (.slice (some ⟨b, o, none⟩) m d) := fun p => mJ (ah HI.out.2 p.ok) 2 _ rfl
        have l4 : ∀ p : Wo (Below wr.heap.size wr), p.wo.cell? ⟨w.heap.size + 1, 2, none⟩ = some (.slice (some ⟨b2, o2, none⟩) m2 d2) := fun p => mI (ah HI.out.2 p.ok) 2 _ rfl
        obtain ⟨y, hy⟩ := eX (bI (bW r i) (bW t i));have qB := LH (∀ W, Bw wr W -> Cz 49 #[.agg #[.int .i64 (bW r i).kind, .slice Ak nk ck, .slice Bk mk dk], .agg #[.int .i64 (bW t i).kind, .slice Al nl cl, .slice Bl ml dl]] W fun e w' => e = .returned (.int .i64 y) /\ Bw wr w') fun W hb => (dH.out i h1 (bW t i) _ _ _ _ _ _ _ _ _ _ _ _ W (ax.below (ah bg.out hb)) (qJ.below (ah bg.out hb))).mono fun e w' hp => ⟨by rw [hy]; exact hp.1, ah hb hp.2⟩
        have HY := LH ((y ≠ 0 /\ R = y) \/ (y = 0 /\ R = cmpL (r.kids.drop (i + 1)) (t.kids.drop (i + 1)))) (by
         have hs1 : i < r.kids.length := by rw [<- bE.out.1.mlen]; exact h1
         have hs2 : i < t.kids.length := by rw [<- bE.out.2.mlen]; exact h2
         have h3 : R = cmpL (r.kids.drop i) (t.kids.drop i) := by
          rcases HI.out.1 with h | h
          ·exact absurd hx h.1
          ·exact h.2
         rw [Ju hs1 hs2, <- xw hs1, <- xw hs2, <- hy] at h3
         by_cases e : y ≠ 0
         ·exact .inl ⟨e, by rw [h3, if_pos e]⟩
         ·exact .inr ⟨by simpa using e, by rw [h3, if_neg e]⟩)
        clear hpl Ee hrg hrg2 ax qJ hy;go_wp2_with fail;haveI : Nonempty (Wo (Below wr.heap.size wr)) := ⟨⟨wr, bX.out⟩⟩;refine jB (Below wr.heap.size wr) jC (by kernel_rfl) (below_drewN bX.out 1) ?_
        iterate 4 (go_big_quiet_step (fail))
        refine jX rfl (.tmp 72) rfl b (o + i * 3) rfl _ Ak Bk nk ck mk dk A7.out ?_;try simp only [Act.put, pP]
        iterate 4 (go_big_quiet_step (fail))
        refine jX rfl (.tmp 77) rfl b2 (o2 + i * 3) rfl _ Al Bl nl cl ml dl tQ.out ?_;try simp only [Act.put, pP]
        repeat (go_big_quiet_step ((go_at_call 49; exact qh qB.out _)))
        refine wpQuiet_nil ?_;intro x1 hw2;obtain ⟨⟨iy, ax⟩, hw3⟩ := hw2;have hw4 : x1 = iy := hw3;subst hw4;have fE := Lh ax;clear hw3 ax;go_wp2_with fail
        go_roundg g
        case rel => exact ⟨i + 1, y, by omega, by omega, rfl, by go_num, Lh ⟨HY.out, ah HI.out.2 fE.out⟩⟩
        case measure => omega
       ·skip
        have z1 : (x == 0) = false := bF hx;have kE := LH (R = x) (by
         rcases HI.out.1 with h | h
         ·exact h.2
         ·exact absurd h.1 hx)
        go_wp2_with fail;go_ret;exact ⟨kE.out ▸ rfl, oV HI.out.2⟩
      ·skip
       have Da : decide ((i : Int) < (m : Int)) = true := dT (by omega);have HE := LH ((x ≠ 0 /\ R = x) \/ (x = 0 /\ R = bG (m : Int) (m2 : Int))) (by
        rcases HI.out.1 with h | h
        ·exact .inl h
        ·refine .inr ⟨h.1, ?_⟩;rw [h.2, zq (.inr (by rw [<- bE.out.2.mlen]; omega)) (by first | (rw [<- bE.out.1.nlen]; omega) | (rw [<- bE.out.1.mlen]; omega)) (by first | (rw [<- bE.out.2.nlen]; omega) | (rw [<- bE.out.2.mlen]; omega)), <- bE.out.1.mlen, <- bE.out.2.mlen])
       by_cases hx : x = 0
       ·skip
        have z1 : (x == 0) = true := bT hx;have yu := LH (R = bG (m : Int) (m2 : Int)) (by
         rcases HE.out with h | h
         ·exact absurd hx h.1
         ·exact h.2)
        go_wp2_with ((with_reducible refine (zi.out _ _ _).mono ?_); rintro e w2 hp; obtain ⟨rfl, hb⟩ := qV hp; have H2 := LH (Bw w w2) (ah (oV HI.out.2) hb); clear hp hb)
        go_ret;exact ⟨yu.out ▸ rfl, H2.out⟩
       ·skip
        have z1 : (x == 0) = false := bF hx;have kE := LH (R = x) (by
         rcases HI.out.1 with h | h
         ·exact h.2
         ·exact absurd h.1 hx)
        go_wp2_with fail;go_ret;exact ⟨kE.out ▸ rfl, oV HI.out.2⟩
     ·skip
      have Da : decide ((i : Int) < (m : Int)) = false := dF (by omega);have HE := LH ((x ≠ 0 /\ R = x) \/ (x = 0 /\ R = bG (m : Int) (m2 : Int))) (by
       rcases HI.out.1 with h | h
       ·exact .inl h
       ·refine .inr ⟨h.1, ?_⟩;rw [h.2, zq (.inl (by rw [<- bE.out.1.mlen]; omega)) (by first | (rw [<- bE.out.1.nlen]; omega) | (rw [<- bE.out.1.mlen]; omega)) (by first | (rw [<- bE.out.2.nlen]; omega) | (rw [<- bE.out.2.mlen]; omega)), <- bE.out.1.mlen, <- bE.out.2.mlen])
      by_cases hx : x = 0
      ·skip
       have z1 : (x == 0) = true := bT hx;have yu := LH (R = bG (m : Int) (m2 : Int)) (by
        rcases HE.out with h | h
        ·exact absurd hx h.1
        ·exact h.2)
       go_wp2_with ((with_reducible refine (zi.out _ _ _).mono ?_); rintro e w2 hp; obtain ⟨rfl, hb⟩ := qV hp; have H2 := LH (Bw w w2) (ah (oV HI.out.2) hb); clear hp hb)
       go_ret;exact ⟨yu.out ▸ rfl, H2.out⟩
      ·skip
       have z1 : (x == 0) = false := bF hx;have kE := LH (R = x) (by
        rcases HI.out.1 with h | h
        ·exact h.2
        ·exact absurd h.1 hx)
       go_wp2_with fail;go_ret;exact ⟨kE.out ▸ rfl, oV HI.out.2⟩
theorem Lb {r t : Rx} {A B A2 B2 : Option Addr} {n c m d n2 c2 m2 d2 : Nat} {w : World} (h1 : aI w r A n c B m d) (h2 : aI w t A2 n2 c2 B2 m2 d2) : Calls Tryz.prog 49 #[.agg #[.int .i64 r.kind, .slice A n c, .slice B m d], .agg #[.int .i64 t.kind, .slice A2 n2 c2, .slice B2 m2 d2]] w (nV w (bI r t)) :=
 Qd _ r t (Nat.le_refl _) _ rfl A B A2 B2 n c m d n2 c2 m2 d2 w h1 h2
theorem WH (r t : Rx) (V : Bool) (hV : V = decide (bI r t = 0)) (A B A2 B2 : Option Addr) (n c m d n2 c2 m2 d2 : Nat) (w : World) (h1 : aI w r A n c B m d) (h2 : aI w t A2 n2 c2 B2 m2 d2) : Calls Tryz.prog 18 #[.agg #[.int .i64 r.kind, .slice A n c, .slice B m d], .agg #[.int .i64 t.kind, .slice A2 n2 c2, .slice B2 m2 d2]] w (aU w V) := by
 obtain ⟨K, hK⟩ := eX r.kind;obtain ⟨K2, hK2⟩ := eX t.kind;obtain ⟨R, hR⟩ := eX (bI r t);have HC := LH (∀ W, Bw w W -> Cz 49 #[.agg #[.int .i64 K, .slice A n c, .slice B m d], .agg #[.int .i64 K2, .slice A2 n2 c2, .slice B2 m2 d2]] W (nV W R)) fun W hb => by rw [hK, hK2, hR]; exact Lb (h1.below hb) (h2.below hb)
 have q1 : (R == 0) = V := by rw [hV, hR]; rfl
 have hr1 : (((w.alloc (zC K A n c B m d)).alloc (zC K2 A2 n2 c2 B2 m2 d2))).rangeAt w.heap.size 0 (zV K A n c B m d) := fun j v hv => by rw [Nat.zero_add]; exact mJ (Below.refl _ _) j v hv
 have hr2 : (((w.alloc (zC K A n c B m d)).alloc (zC K2 A2 n2 c2 B2 m2 d2))).rangeAt (w.heap.size + 1) 0 (zV K2 A2 n2 c2 B2 m2 d2) := fun j v hv => by rw [Nat.zero_add]; exact mI (Below.refl _ _) j v hv
 rw [<- hK, <- hK2];clear h1 h2 hK hK2 hV hR;go_enter Tryz.func18, Tryz.ntmps18
 go_wp2_with (first
  |(refine aG rfl (.tmp 2) rfl w.heap.size 0 rfl _ A B n c m d hr1 ?_)
  |(refine aG rfl (.tmp 3) rfl (w.heap.size + 1) 0 rfl _ A2 B2 n2 c2 m2 d2 hr2 ?_)
  |((with_reducible refine (HC.out _ (aF (ai _ _) _)).mono ?_); rintro e w1 hp; obtain ⟨rfl, hb⟩ := qV hp; have H1 := LH (Bw w w1) (ah (aF (ai _ _) _) hb); clear hp hb))
 go_ret;exact ⟨rfl, H1.out⟩
def fB (w w' : World) : Prop := Bw w w' /\ w'.drawn = w.drawn
section
variable {w0 w w' : World}
theorem Aa (w : World) : fB w w := ⟨Below.refl _ _, rfl⟩
theorem oU (h : fB w0 w) (k : fB w w') : fB w0 w' := ⟨ah h.1 k.1, k.2.trans h.2⟩
theorem zW (h : fB w0 w) (o : Obj) : fB w0 (w.alloc o) := ⟨aF h.1 o, h.2⟩
theorem Jg (w : World) (o : Obj) : fB w (w.alloc o) := zW (Aa w) o
end
def kG (w : World) (n : Int) (e : Ending) (w' : World) : Prop := e = .returned (.int .i64 n) /\ fB w w'
theorem vY {w w' : World} {n : Int} {e : Ending} (h : kG w n e w') : e = .returned (.int .i64 n) /\ fB w w' := h
theorem Oj (B : Nat) : ∀ (vs : List Value) (o : Nat) (w : World), (w.setCells B o vs).drawn = w.drawn
 |[], _, _ => rfl
 |v :: vs, o, w => by rw [World.setCells, Oj B vs]; rfl
theorem BO {P : Program} {w : World} {ops : Array Oper} {rest : List Oper} {o : Oper} {a : Act} {Q : Exit -> Act -> World -> Prop} (hgd : o.guard = none) (ty : TypeId) (x y : Operand) (ho : o.op = .store ty x y)
  (g j : Nat) (hx : a.eval x = .pointer (some ⟨g, j, none⟩)) (D : List Value) (hy : a.eval y = .agg D.toArray) {C : List Value} {T : TypeId} (hb : ae w g C T) (n : Nat) (hi : (P.info? ty).map (·.size) = some n) (hD : D.length = n) (hn : j + n <= C.length) (h1 : ∀ u ∈ D, u.oneCell' = true)
  (h : ∀ w1, aT w w1 g (C.take j ++ D ++ C.drop (j + n)) T /\ w1.drawn = w.drawn -> wpList P ops Q rest (a.put o.dst undef) w1) : wpList P ops Q (o :: rest) a w := by
 subst hD;refine wpList_store_mid hgd ty x y ho g j D.toArray hx hy (hb.there j _ (by simpa using hn)) (by simpa using hi) (all_oneCell_toArray h1) ?_;exact h _ ⟨aT.of_setCells hb j D hn, Oj g D j w⟩
theorem CV {w w1 : World} {v0 v1 v2 : Value} {T : TypeId} {z : Array Value} (h : aT (w.alloc (.cells z T)) w1 w.heap.size (List.take 0 [Value.int .i64 0, .slice none 0 0, .slice none 0 0] ++ [v0, v1, v2] ++ List.drop (0 + 3) [Value.int .i64 0, .slice none 0 0, .slice none 0 0]) T /\ w1.drawn = (w.alloc (.cells z T)).drawn) : ae w1 w.heap.size [v0, v1, v2] T /\ fB w w1 :=
 ⟨(dC h.1).1, (dC h.1).2, h.2⟩
theorem SQ (x : Int) (w : World) : Calls Tryz.prog 169 #[.int .i64 x] w fun e w' => e = .returned (.bool false) /\ w' = w := by
 go_enter Tryz.func169, Tryz.ntmps169;go_wp2_with fail;go_ret;exact ⟨rfl, rfl⟩
theorem NW (x y r : Int) (hr : r = bG x y) (w : World) : Calls Tryz.prog 145 #[.int .i64 x, .int .i64 y] w fun e w' => e = .returned (.int .i64 r) /\ w' = w := by
 have HNA := LH (∀ x W, Cz 169 #[.int .i64 x] W fun e w' => e = .returned (.bool false) /\ w' = W) SQ
 by_cases h1 : x < y
 ·skip
  obtain rfl : r = -1 := by rw [hr]; unfold bG; rw [if_pos h1]
  clear hr;go_enter Tryz.func145, Tryz.ntmps145
  go_wp2_with ((with_reducible refine (HNA.out _ _).mono ?_); rintro e w1 ⟨rfl, rfl⟩)
  go_ret;exact ⟨rfl, rfl⟩
 ·by_cases h2 : y < x
  ·skip
   obtain rfl : r = 1 := by rw [hr]; unfold bG; rw [if_neg h1, if_pos h2]
   clear hr;go_enter Tryz.func145, Tryz.ntmps145
   go_wp2_with ((with_reducible refine (HNA.out _ _).mono ?_); rintro e w1 ⟨rfl, rfl⟩)
   go_ret;exact ⟨rfl, rfl⟩
  ·skip
   obtain rfl : r = 0 := by rw [hr]; unfold bG; rw [if_neg h1, if_neg h2]
   clear hr;go_enter Tryz.func145, Tryz.ntmps145
   go_wp2_with ((with_reducible refine (HNA.out _ _).mono ?_); rintro e w1 ⟨rfl, rfl⟩)
   go_ret;exact ⟨rfl, rfl⟩
theorem Vl (l t : List Int) (A A2 : Option Addr) (n c n2 c2 : Nat) (hn : n = l.length) (hc : n <= c) (hm : c <= 9223372036854775807) (tY : n2 = t.length) (hc2 : n2 <= c2) (lF : c2 <= 9223372036854775807) (R : Int) (hR : R = dI l t) (w : World) (hr : Rd w A (iv l)) (hr2 : Rd w A2 (iv t)) : Calls Tryz.prog 147 #[.slice A n c, .slice A2 n2 c2] w (kG w R) := by
 have HV := LH (R = dI l t /\ n = l.length /\ n2 = t.length) ⟨hR, hn, tY⟩;have HR := Lh hr;have Bp := Lh hr2;have HC := LH (∀ x y W, Cz 145 #[.int .i64 x, .int .i64 y] W fun e w' => e = .returned (.int .i64 (bG x y)) /\ w' = W) fun x y W => NW x y _ rfl W
 clear hR hn tY hr hr2;go_enter Tryz.func147, Tryz.ntmps147;go_wp2_with fail
 go_loopg [11] n (fun g yG wr => ∃ (k : Nat), k + g = n /\ k <= n2 /\ yG = .int .i64 (k : Int) /\ Hid (R = dI (l.drop k) (t.drop k) /\ fB w wr))
 case atStart => exact ⟨0, by omega, by omega, rfl, Lh ⟨by rw [HV.out.1]; rfl, Aa _⟩⟩
 case round =>
  obtain ⟨k, hk, hk2, rfl, HI⟩ := hrel
  by_cases hlt : k < n
  ·obtain ⟨g, rfl⟩ : ∃ g, gk = g + 1 := ⟨gk - 1, by omega⟩;have eU : k < l.length := by rw [<- HV.out.2.1]; exact hlt
   obtain ⟨b, o, rfl, aH⟩ := vO HR.out (by intro e; rw [e] at eU; simp at eU);obtain ⟨x, hx⟩ := eX (l.getD k 0);have l1 : wr.cell? ⟨b, o + k, none⟩ = some (.int .i64 x) := aH.at HI.out.2.1 eU hx
   by_cases lh : k < n2
   ·have Ef : k < t.length := by rw [<- HV.out.2.2]; exact lh
    obtain ⟨b2, o2, rfl, tN⟩ := vO Bp.out (by intro e; rw [e] at Ef; simp at Ef);obtain ⟨y, hy⟩ := eX (t.getD k 0);have l2 : wr.cell? ⟨b2, o2 + k, none⟩ = some (.int .i64 y) := tN.at HI.out.2.1 Ef hy;have HS := LH (R = if bG x y ≠ 0 then bG x y else dI (l.drop (k + 1)) (t.drop (k + 1))) (by rw [HI.out.1, NQ eU Ef, hx, hy]);have d1 : decide ((n2 : Int) <= (k : Int)) = false := dF (by omega);have d2 : decide (n2 <= k) = false := dF (by omega);obtain ⟨q, hq⟩ := eX (bG x y);have HQ := LH (∀ W, Cz 145 #[.int .i64 x, .int .i64 y] W fun e w' => e = .returned (.int .i64 q) /\ w' = W) fun W => by rw [hq]; exact HC.out x y W
    rw [<- hq] at HS;clear hx hy aH tN eU Ef hq
    by_cases h0 : q = 0
    ·have e1 : (q != 0) = false := by rw [h0]; rfl
     have HN := LH (R = dI (l.drop (k + 1)) (t.drop (k + 1))) (by rw [HS.out, if_neg (by simpa using h0)]);clear h0
     go_wp2_with ((with_reducible refine (HQ.out _).mono ?_); rintro e w1 ⟨rfl, rfl⟩)
     go_roundg g
     case rel => exact ⟨k + 1, by omega, by omega, by go_num, Lh ⟨HN.out, HI.out.2⟩⟩
     case measure => omega
    ·have e1 : (q != 0) = true := by simp [h0]
     have HN := LH (R = q) (by rw [HS.out, if_pos h0])
     go_wp2_with ((with_reducible refine (HQ.out _).mono ?_); rintro e w1 ⟨rfl, rfl⟩)
     go_ret;exact ⟨HN.out.symm ▸ rfl, HI.out.2⟩
   ·have d1 : decide ((n2 : Int) <= (k : Int)) = true := dT (by omega);have d2 : decide (n2 <= k) = true := dT (by omega);have HN := LH (R = 1) (by
     rw [HI.out.1, F6 (.inr (by rw [<- HV.out.2.2]; omega)) (by omega) (by rw [<- HV.out.2.2]; omega)];unfold bG; rw [if_neg (by rw [<- HV.out.2.1, <- HV.out.2.2]; omega), if_pos (by rw [<- HV.out.2.1, <- HV.out.2.2]; omega)])
    go_wp2_with fail;go_ret;exact ⟨HN.out.symm ▸ rfl, HI.out.2⟩
  ·obtain rfl : k = n := by omega
   have HN := LH (R = bG (k : Int) (n2 : Int)) (by
     rw [HI.out.1, F6 (.inl HV.out.2.1) (by rw [<- HV.out.2.1]; omega) (by rw [<- HV.out.2.2]; omega), <- HV.out.2.1, <- HV.out.2.2])
   by_cases h3 : k < n2
   ·have d1 : decide ((k : Int) < (n2 : Int)) = true := dT (by omega);have d2 : decide (k < n2) = true := dT h3;have HE := LH (R = -1) (by rw [HN.out]; unfold bG; rw [if_pos (by omega)]);go_wp2_with fail;go_ret;exact ⟨HE.out.symm ▸ rfl, HI.out.2⟩
   ·have d1 : decide ((k : Int) < (n2 : Int)) = false := dF (by omega);have d2 : decide (k < n2) = false := dF h3;have HE := LH (R = 0) (by rw [HN.out]; unfold bG; rw [if_neg (by omega), if_neg (by omega)]);go_wp2_with fail;go_ret;exact ⟨HE.out.symm ▸ rfl, HI.out.2⟩
theorem Lg (args : Array Value) (W : World) : (callFunc 120 args).run Tryz.prog W = .ok (.enter 120 args) W := by kernel_rfl
theorem UE (args : Array Value) (W : World) : (callFunc 144 args).run Tryz.prog W = .ok (.enter 144 args) W := by kernel_rfl
theorem VZ (args : Array Value) (W : World) : (callFunc 146 args).run Tryz.prog W = .ok (.enter 146 args) W := by kernel_rfl
theorem SX (args : Array Value) (W : World) : (callFunc 148 args).run Tryz.prog W = .ok (.enter 148 args) W := by kernel_rfl
theorem Ua (ks ts : List Rx) (B B' : Option Addr) (m d m' d' : Nat) (mP : m = ks.length) (iA : m <= d) (fG : d <= 9223372036854775807) (Pm : m' = ts.length) (G5 : m' <= d') (GK : d' <= 9223372036854775807) (w : World) (gQ : dU w ks B 0) (hts : dU w ts B' 0)
  (rW : ∀ i, i < m -> ∀ (x : Rx) (A B A2 B2 : Option Addr) (n c k d n2 c2 m2 d2 : Nat) (W : World), aI W (av ks i) A n c B k d -> aI W x A2 n2 c2 B2 m2 d2 -> Calls Tryz.prog 120 #[.agg #[.int .i64 (av ks i).kind, .slice A n c, .slice B k d], .agg #[.int .i64 x.kind, .slice A2 n2 c2, .slice B2 m2 d2]] W (kG W (bI (av ks i) x)))
  (R : Int) (hR : R = cmpL ks ts) : Calls Tryz.prog 149 #[.slice B m d, .slice B' m' d', .func (.func 120) #[] #[]] w (kG w R) := by
 have HV := LH (R = cmpL ks ts /\ m = ks.length /\ m' = ts.length) ⟨hR, mP, Pm⟩;have HK := Lh gQ;have HT := Lh hts;have dH := Lh rW;have hen := Lg;clear hR mP Pm gQ hts rW;go_enter Tryz.func149, Tryz.ntmps149;go_wp2_with fail
 go_loopg [13] m (fun g pX wr => ∃ (i : Nat), i + g = m /\ i <= m' /\ pX = .int .i64 (i : Int) /\ Hid (R = cmpL (ks.drop i) (ts.drop i) /\ fB w wr))
 case atStart => exact ⟨0, by omega, by omega, rfl, Lh ⟨by rw [HV.out.1]; rfl, Aa _⟩⟩
 case round =>
  obtain ⟨i, hi, tq, rfl, HI⟩ := hrel
  by_cases hlt : i < m
  · obtain ⟨g, rfl⟩ : ∃ g, gk = g + 1 := ⟨gk - 1, by omega⟩;have aH : i < ks.length := by rw [<- HV.out.2.1]; exact hlt
    obtain ⟨b, o, rfl⟩ := HK.out.place (by omega);obtain ⟨A, n, c, B, m1, d1, hrg, ax⟩ := HK.out.kid aH;have aP := Lh (iW hrg HI.out.2.1)
    by_cases lh : i < m'
    ·have tN : i < ts.length := by rw [<- HV.out.2.2]; exact lh
     obtain ⟨b2, o2, rfl⟩ := HT.out.place (by omega);obtain ⟨A2, n2, c2, B2, m2, d2, hrg2, qJ⟩ := HT.out.kid tN;have HRT := Lh hrg2;obtain ⟨q, hq⟩ := eX (bI (av ks i) (av ts i));have HC := LH (∀ W, fB w W -> Cz 120 #[.agg #[.int .i64 (av ks i).kind, .slice A n c, .slice B m1 d1], .agg #[.int .i64 (av ts i).kind, .slice A2 n2 c2, .slice B2 m2 d2]] W (kG W q)) fun W hb => by rw [hq]; exact dH.out i hlt _ A B A2 B2 n c m1 d1 n2 c2 m2 d2 W (ax.below hb.1) (qJ.below hb.1)
     have HS := LH (R = if q ≠ 0 then q else cmpL (ks.drop (i + 1)) (ts.drop (i + 1))) (by rw [HI.out.1, Ju aH tN, hq, gI aH, gI tN]);have d1' : decide ((m' : Int) <= (i : Int)) = false := dF (by omega);have d2' : decide (m' <= i) = false := dF (by omega);clear hrg ax hrg2 qJ hq aH tN
     by_cases h0 : q = 0
     ·have e1 : (q != 0) = false := by rw [h0]; rfl
      have HN := LH (R = cmpL (ks.drop (i + 1)) (ts.drop (i + 1))) (by rw [HS.out, if_neg (by simpa using h0)]);clear h0
      go_wp2_with (first
 |(refine aG rfl (.tmp 16) rfl b (o + i * 3) rfl (av ks i).kind A B n c m1 d1 aP.out ?_)
 |(refine BO rfl 25 (.tmp 8) (.tmp 17) rfl wr.heap.size 0 rfl [.int .i64 (av ks i).kind, .slice A n c, .slice B m1 d1] rfl (ae.new' wr zL _ 25 rfl) 3 au rfl (by simp) (by simp [Value.oneCell']) ?_; intro w4 ag; have aA := LH (ae w4 wr.heap.size [.int .i64 (av ks i).kind, .slice A n c, .slice B m1 d1] 25 /\ fB wr w4) (CV ag); clear ag; have gF := LH (fB w w4) (oU HI.out.2 aA.out.2); have tQ := LH (w4.rangeAt b2 (o2 + i * 3) [.int .i64 (av ts i).kind, .slice A2 n2 c2, .slice B2 m2 d2]) (iW HRT.out gF.out.1))
 |(refine aG rfl (.tmp 24) rfl b2 (o2 + i * 3) rfl (av ts i).kind A2 B2 n2 c2 m2 d2 tQ.out ?_)
 |(refine BO rfl 25 (.tmp 9) (.tmp 25) rfl w4.heap.size 0 rfl [.int .i64 (av ts i).kind, .slice A2 n2 c2, .slice B2 m2 d2] rfl (ae.new' w4 zL _ 25 rfl) 3 au rfl (by simp) (by simp [Value.oneCell']) ?_; intro w5 ag; have lU := LH (ae w5 w4.heap.size [.int .i64 (av ts i).kind, .slice A2 n2 c2, .slice B2 m2 d2] 25 /\ fB w4 w5) (CV ag); clear ag; have oF := LH (fB w w5) (oU gF.out lU.out.2); have hr4 := aS (aA.out.1.below lU.out.2.1 aA.out.1.lt); have Du := aS lU.out.1)
 |(refine aG rfl (.tmp 8) rfl wr.heap.size (0) rfl (av ks i).kind A B n c m1 d1 hr4 ?_)
 |(refine aG rfl (.tmp 9) rfl w4.heap.size (0) rfl (av ts i).kind A2 B2 n2 c2 m2 d2 Du ?_)
 |((with_reducible refine (HC.out _ oF.out).mono ?_); rintro e w6 hp; obtain ⟨rfl, hb⟩ := vY hp; have H6 := LH (fB w w6) (oU oF.out hb); clear hp hb hr4 Du))
      go_roundg g
      case rel => exact ⟨i + 1, by omega, by omega, by go_num, Lh ⟨HN.out, H6.out⟩⟩
      case measure => omega
     ·have e1 : (q != 0) = true := by simp [h0]
      have HN := LH (R = q) (by rw [HS.out, if_pos h0])
      go_wp2_with (first
 |(refine aG rfl (.tmp 16) rfl b (o + i * 3) rfl (av ks i).kind A B n c m1 d1 aP.out ?_)
 |(refine BO rfl 25 (.tmp 8) (.tmp 17) rfl wr.heap.size 0 rfl [.int .i64 (av ks i).kind, .slice A n c, .slice B m1 d1] rfl (ae.new' wr zL _ 25 rfl) 3 au rfl (by simp) (by simp [Value.oneCell']) ?_; intro w4 ag; have aA := LH (ae w4 wr.heap.size [.int .i64 (av ks i).kind, .slice A n c, .slice B m1 d1] 25 /\ fB wr w4) (CV ag); clear ag; have gF := LH (fB w w4) (oU HI.out.2 aA.out.2); have tQ := LH (w4.rangeAt b2 (o2 + i * 3) [.int .i64 (av ts i).kind, .slice A2 n2 c2, .slice B2 m2 d2]) (iW HRT.out gF.out.1))
 |(refine aG rfl (.tmp 24) rfl b2 (o2 + i * 3) rfl (av ts i).kind A2 B2 n2 c2 m2 d2 tQ.out ?_)
 |(refine BO rfl 25 (.tmp 9) (.tmp 25) rfl w4.heap.size 0 rfl [.int .i64 (av ts i).kind, .slice A2 n2 c2, .slice B2 m2 d2] rfl (ae.new' w4 zL _ 25 rfl) 3 au rfl (by simp) (by simp [Value.oneCell']) ?_; intro w5 ag; have lU := LH (ae w5 w4.heap.size [.int .i64 (av ts i).kind, .slice A2 n2 c2, .slice B2 m2 d2] 25 /\ fB w4 w5) (CV ag); clear ag; have oF := LH (fB w w5) (oU gF.out lU.out.2); have hr4 := aS (aA.out.1.below lU.out.2.1 aA.out.1.lt); have Du := aS lU.out.1)
 |(refine aG rfl (.tmp 8) rfl wr.heap.size (0) rfl (av ks i).kind A B n c m1 d1 hr4 ?_)
 |(refine aG rfl (.tmp 9) rfl w4.heap.size (0) rfl (av ts i).kind A2 B2 n2 c2 m2 d2 Du ?_)
 |((with_reducible refine (HC.out _ oF.out).mono ?_); rintro e w6 hp; obtain ⟨rfl, hb⟩ := vY hp; have H6 := LH (fB w w6) (oU oF.out hb); clear hp hb hr4 Du))
      go_ret;exact ⟨HN.out.symm ▸ rfl, H6.out⟩
    ·have d1' : decide ((m' : Int) <= (i : Int)) = true := dT (by omega);have d2' : decide (m' <= i) = true := dT (by omega);have HN := LH (R = 1) (by
      rw [HI.out.1, zq (.inr (by rw [<- HV.out.2.2]; omega)) (by omega) (by rw [<- HV.out.2.2]; omega)];unfold bG; rw [if_neg (by rw [<- HV.out.2.1, <- HV.out.2.2]; omega), if_pos (by rw [<- HV.out.2.1, <- HV.out.2.2]; omega)])
     clear hrg ax aH
     go_wp2_with (first
      |(refine aG rfl (.tmp 16) rfl b (o + i * 3) rfl (av ks i).kind A B n c m1 d1 aP.out ?_)
      |(refine BO rfl 25 (.tmp 8) (.tmp 17) rfl wr.heap.size 0 rfl [.int .i64 (av ks i).kind, .slice A n c, .slice B m1 d1] rfl (ae.new' wr zL _ 25 rfl) 3 au rfl (by simp) (by simp [Value.oneCell']) ?_; intro w4 ag; have aA := LH (ae w4 wr.heap.size [.int .i64 (av ks i).kind, .slice A n c, .slice B m1 d1] 25 /\ fB wr w4) (CV ag); clear ag; have gF := LH (fB w w4) (oU HI.out.2 aA.out.2)))
     go_ret;exact ⟨HN.out.symm ▸ rfl, gF.out⟩
  · obtain rfl : i = m := by omega
    have HN := LH (R = bG (i : Int) (m' : Int)) (by
      rw [HI.out.1, zq (.inl HV.out.2.1) (by rw [<- HV.out.2.1]; omega) (by rw [<- HV.out.2.2]; omega), <- HV.out.2.1, <- HV.out.2.2])
    by_cases h3 : i < m'
    ·have d1 : decide ((i : Int) < (m' : Int)) = true := dT (by omega);have d2 : decide (i < m') = true := dT h3;have HE := LH (R = -1) (by rw [HN.out]; unfold bG; rw [if_pos (by omega)]);go_wp2_with fail;go_ret;exact ⟨HE.out.symm ▸ rfl, HI.out.2⟩
    ·have d1 : decide ((i : Int) < (m' : Int)) = false := dF (by omega);have d2 : decide (i < m') = false := dF h3;have HE := LH (R = 0) (by rw [HN.out]; unfold bG; rw [if_neg (by omega), if_neg (by omega)]);go_wp2_with fail;go_ret;exact ⟨HE.out.symm ▸ rfl, HI.out.2⟩
theorem RQ (X Y : Nat) (K K2 : Int) (A B A2 B2 : Option Addr) (n c m d n2 c2 m2 d2 : Nat) (R : Int) (w : World) (hx : w.cell? ⟨X, 0, none⟩ = some (.int .i64 K)) (hy : w.cell? ⟨Y, 0, none⟩ = some (.int .i64 K2)) (hc : Calls Tryz.prog 145 #[.int .i64 K, .int .i64 K2] w (kG w R)) : Calls Tryz.prog 144 #[.pointer (pt X), .pointer (pt Y)] w (kG w R) := by
 have HC := Lh hc;clear hc;go_enter Tryz.func144, Tryz.ntmps144
 go_wp2_with ((with_reducible refine HC.out.mono ?_); rintro e w1 hp; obtain ⟨rfl, hb⟩ := vY hp; have H1 := LH (fB w w1) hb; clear hp hb)
 go_ret;exact ⟨rfl, H1.out⟩
theorem Q8 (X Y : Nat) (K K2 : Int) (A B A2 B2 : Option Addr) (n c m d n2 c2 m2 d2 : Nat) (R : Int) (w : World) (hx : w.cell? ⟨X, 1, none⟩ = some (.slice A n c)) (hy : w.cell? ⟨Y, 1, none⟩ = some (.slice A2 n2 c2)) (hc : Calls Tryz.prog 147 #[.slice A n c, .slice A2 n2 c2] w (kG w R)) : Calls Tryz.prog 146 #[.pointer (pt X), .pointer (pt Y)] w (kG w R) := by
 have HC := Lh hc;clear hc;go_enter Tryz.func146, Tryz.ntmps146
 go_wp2_with ((with_reducible refine HC.out.mono ?_); rintro e w1 hp; obtain ⟨rfl, hb⟩ := vY hp; have H1 := LH (fB w w1) hb; clear hp hb)
 go_ret;exact ⟨rfl, H1.out⟩
theorem Vv (X Y : Nat) (K K2 : Int) (A B A2 B2 : Option Addr) (n c m d n2 c2 m2 d2 : Nat) (R : Int) (w : World) (hx : w.cell? ⟨X, 2, none⟩ = some (.slice B m d)) (hy : w.cell? ⟨Y, 2, none⟩ = some (.slice B2 m2 d2)) (hc : Calls Tryz.prog 149 #[.slice B m d, .slice B2 m2 d2, .func (.func 120) #[] #[]] w (kG w R)) : Calls Tryz.prog 148 #[.pointer (pt X), .pointer (pt Y)] w (kG w R) := by
 have HC := Lh hc;clear hc;go_enter Tryz.func148, Tryz.ntmps148
 go_wp2_with ((with_reducible refine HC.out.mono ?_); rintro e w1 hp; obtain ⟨rfl, hb⟩ := vY hp; have H1 := LH (fB w w1) hb; clear hp hb)
 go_ret;exact ⟨rfl, H1.out⟩
namespace Rgx
def sN : List Int -> Int
 |[] => 0
 |x :: t => if x ≠ 0 then x else sN t
end Rgx
def Cmps (w : World) (g : Nat) (Rs : List Int) : Prop := ∀ i (h : i < Rs.length), ∃ F cb, w.cell? ⟨g, i, none⟩ = some (.func (.func F) #[] cb) /\ (∀ args W, (callFunc F args).run Tryz.prog W = .ok (.enter F args) W) /\ ∀ W, fB w W -> Calls Tryz.prog F cb W (kG W Rs[i])
theorem Tg (Rs : List Int) (g n : Nat) (hn : n = Rs.length) (hm : n <= 1000) (R : Int) (hR : R = sN Rs) (w : World) (hc : Cmps w g Rs) : Calls Tryz.prog 143 #[.slice (pt g) n n] w (kG w R) := by
 have HV := LH (R = sN Rs /\ n = Rs.length) ⟨hR, hn⟩;have HC := Lh hc;clear hR hn hc;go_enter Tryz.func143, Tryz.ntmps143;go_wp2_with fail
 go_loopg [8] n (fun gg s8 wr => ∃ (i : Nat), i + gg = n /\ s8 = .int .i64 (i : Int) /\ Hid (R = sN (Rs.drop i) /\ fB w wr))
 case atStart => exact ⟨0, by omega, rfl, Lh ⟨by rw [HV.out.1]; rfl, Aa _⟩⟩
 case round =>
  obtain ⟨i, hi, rfl, HI⟩ := hrel
  by_cases hlt : i < n
  ·obtain ⟨gg, rfl⟩ : ∃ g, gk = g + 1 := ⟨gk - 1, by omega⟩;have aH : i < Rs.length := by rw [<- HV.out.2]; exact hlt
   obtain ⟨F, cb, hce, hen, l8⟩ := HC.out i aH;have l1 : wr.cell? ⟨g, i, none⟩ = some (.func (.func F) #[] cb) := (HI.out.2.1.cell (p := ⟨g, i, none⟩) (World.block_lt_of_cell? w _ hce)).trans hce;obtain ⟨q, hq⟩ := eX (Rs[i]);have HQ := LH (∀ W, fB w W -> Cz F cb W (kG W q)) (by rw [hq]; exact l8);have HS := LH (R = if q ≠ 0 then q else sN (Rs.drop (i + 1))) (by rw [HI.out.1, List.drop_eq_getElem_cons aH, sN, hq]);clear hce l8 hq aH
   by_cases h0 : q = 0
   ·have e1 : (q != 0) = false := by rw [h0]; rfl
    have HN := LH (R = sN (Rs.drop (i + 1))) (by rw [HS.out, if_neg (by simpa using h0)]);clear h0
    go_wp2_with ((refine (HQ.out _ HI.out.2).mono ?_); rintro e w1 hp; obtain ⟨rfl, hb⟩ := vY hp; have H1 := LH (fB w w1) (oU HI.out.2 hb); clear hp hb)
    go_roundg gg
    case rel => exact ⟨i + 1, by omega, by go_num, Lh ⟨HN.out, H1.out⟩⟩
    case measure => omega
   ·have e1 : (q != 0) = true := by simp [h0]
    have HN := LH (R = q) (by rw [HS.out, if_pos h0])
    go_wp2_with ((refine (HQ.out _ HI.out.2).mono ?_); rintro e w1 hp; obtain ⟨rfl, hb⟩ := vY hp; have H1 := LH (fB w w1) (oU HI.out.2 hb); clear hp hb)
    go_ret;exact ⟨HN.out.symm ▸ rfl, H1.out⟩
  ·obtain rfl : i = n := by omega
   have HE := LH (R = 0) (by rw [HI.out.1, HV.out.2, List.drop_length, sN]);go_wp2_with fail;go_ret;exact ⟨HE.out.symm ▸ rfl, HI.out.2⟩
theorem Qq : ∀ (z : Nat) (r t : Rx), SizeOf.sizeOf r <= z -> ∀ (R : Int), R = bI r t -> ∀ (A B A2 B2 : Option Addr) (n c m d n2 c2 m2 d2 : Nat) (w : World), aI w r A n c B m d -> aI w t A2 n2 c2 B2 m2 d2 -> Calls Tryz.prog 120 #[.agg #[.int .i64 r.kind, .slice A n c, .slice B m d], .agg #[.int .i64 t.kind, .slice A2 n2 c2, .slice B2 m2 d2]] w (kG w R) := by
 intro z
 induction z with
 |zero => intro r t hz; exact absurd hz (by cases r; rw [Rx.mk.sizeOf_spec]; omega)
 |succ z ih =>
  intro r t hz R hR A B A2 B2 n c m d n2 c2 m2 d2 w hop mR;obtain ⟨K, hK⟩ := eX r.kind;obtain ⟨K2, hK2⟩ := eX t.kind;have yt := LH (∀ W, Cz 145 #[.int .i64 K, .int .i64 K2] W (kG W (bG K K2))) fun W => (NW K K2 _ rfl W).mono fun e w' hp => ⟨hp.1, by rw [hp.2]; exact Aa _⟩
  have mh := LH (∀ W, fB w W -> Cz 147 #[.slice A n c, .slice A2 n2 c2] W (kG W (dI r.syms t.syms))) fun W hb => Vl r.syms t.syms A A2 n c n2 c2 hop.nlen hop.ncap hop.cmax mR.nlen mR.ncap mR.cmax _ rfl W (hop.syms.below hb.1) (mR.syms.below hb.1)
  have BG := LH (∀ W, fB w W -> Cz 149 #[.slice B m d, .slice B2 m2 d2, .func (.func 120) #[] #[]] W (kG W (cmpL r.kids t.kids))) fun W hb => Ua r.kids t.kids B B2 m d m2 d2 hop.mlen hop.mcap hop.dmax mR.mlen mR.mcap mR.dmax W (dU.below hb.1 _ hop.kids) (dU.below hb.1 _ mR.kids) (fun i hi x A B A2 B2 n c k d n2 c2 m2 d2 W h h2 => ih _ x (by have := jZ (gU (ks := r.kids) (i := i) (by rw [<- hop.mlen]; exact hi)); omega) _ rfl A B A2 B2 n c k d n2 c2 m2 d2 W h h2) _ rfl
  have HF := LH (R = sN [bG K K2, dI r.syms t.syms, cmpL r.kids t.kids]) (by
   rw [hR, I1, hK, hK2];simp only [sN]
   split
   ·rfl
   ·split
    ·rfl
    ·split
     ·rfl
     ·rename_i h; simpa using h)
  have HFD := LH (∀ W T G, G = W.heap.size -> fB ((w.alloc (zC K A n c B m d)).alloc (zC K2 A2 n2 c2 B2 m2 d2)) W -> Cz 143 #[.slice (pt G) 3 3] (W.alloc (.cells #[.func (.func 144) #[] #[.pointer (pt w.heap.size), .pointer (pt (w.heap.size + 1))], .func (.func 146) #[] #[.pointer (pt w.heap.size), .pointer (pt (w.heap.size + 1))], .func (.func 148) #[] #[.pointer (pt w.heap.size), .pointer (pt (w.heap.size + 1))]] T)) (kG (W.alloc (.cells #[.func (.func 144) #[] #[.pointer (pt w.heap.size), .pointer (pt (w.heap.size + 1))], .func (.func 146) #[] #[.pointer (pt w.heap.size), .pointer (pt (w.heap.size + 1))], .func (.func 148) #[] #[.pointer (pt w.heap.size), .pointer (pt (w.heap.size + 1))]] T)) R)) fun W T G hG hb => by
   subst hG;refine Tg _ W.heap.size 3 rfl (by omega) R HF.out _ fun i hi => ?_
   have hB := ae.new W [.func (.func 144) #[] #[.pointer (pt w.heap.size), .pointer (pt (w.heap.size + 1))], .func (.func 146) #[] #[.pointer (pt w.heap.size), .pointer (pt (w.heap.size + 1))], .func (.func 148) #[] #[.pointer (pt w.heap.size), .pointer (pt (w.heap.size + 1))]] T;have hW : ∀ W1, fB (W.alloc (.cells #[.func (.func 144) #[] #[.pointer (pt w.heap.size), .pointer (pt (w.heap.size + 1))], .func (.func 146) #[] #[.pointer (pt w.heap.size), .pointer (pt (w.heap.size + 1))], .func (.func 148) #[] #[.pointer (pt w.heap.size), .pointer (pt (w.heap.size + 1))]] T)) W1 -> fB ((w.alloc (zC K A n c B m d)).alloc (zC K2 A2 n2 c2 B2 m2 d2)) W1 := fun W1 h1 => oU (zW hb _) h1
   rcases (by simp at hi; omega : i = 0 \/ i = 1 \/ i = 2) with rfl | rfl | rfl
   ·exact ⟨_, _, hB.cell rfl, UE, fun W1 h1 => RQ w.heap.size (w.heap.size + 1) K K2 A B A2 B2 n c m d n2 c2 m2 d2 _ W1 (mJ (hW W1 h1).1 0 _ rfl) (mI (hW W1 h1).1 0 _ rfl) (yt.out W1)⟩
   ·exact ⟨_, _, hB.cell rfl, VZ, fun W1 h1 => Q8 w.heap.size (w.heap.size + 1) K K2 A B A2 B2 n c m d n2 c2 m2 d2 _ W1 (mJ (hW W1 h1).1 1 _ rfl) (mI (hW W1 h1).1 1 _ rfl) (mh.out W1 (oU (zW (Jg _ _) _) (hW W1 h1)))⟩
   ·exact ⟨_, _, hB.cell rfl, SX, fun W1 h1 => Vv w.heap.size (w.heap.size + 1) K K2 A B A2 B2 n c m d n2 c2 m2 d2 _ W1 (mJ (hW W1 h1).1 2 _ rfl) (mI (hW W1 h1).1 2 _ rfl) (BG.out W1 (oU (zW (Jg _ _) _) (hW W1 h1)))⟩
  rw [<- hK, <- hK2];clear hR hop mR ih hz hK hK2;go_enter Tryz.func120, Tryz.ntmps120
  go_wp2_with ((with_reducible refine (HFD.out _ _ (w.heap.size + 1 + 1) (by simp) (Aa _)).mono ?_); rintro e w1 hp; obtain ⟨rfl, hb⟩ := vY hp; have H1 := LH (fB w w1) (oU (zW (zW (Jg _ _) _) _) hb); clear hp hb)
  go_ret;exact ⟨rfl, H1.out⟩
theorem OT {r t : Rx} {A B A2 B2 : Option Addr} {n c m d n2 c2 m2 d2 : Nat} {w : World} (h1 : aI w r A n c B m d) (h2 : aI w t A2 n2 c2 B2 m2 d2) : Calls Tryz.prog 120 #[.agg #[.int .i64 r.kind, .slice A n c, .slice B m d], .agg #[.int .i64 t.kind, .slice A2 n2 c2, .slice B2 m2 d2]] w (kG w (bI r t)) :=
 Qq _ r t (Nat.le_refl _) _ rfl A B A2 B2 n c m d n2 c2 m2 d2 w h1 h2
theorem Wd {r t : Rx} {A B A2 B2 : Option Addr} {n c m d n2 c2 m2 d2 : Nat} {w : World} (h1 : aI w r A n c B m d) (h2 : aI w t A2 n2 c2 B2 m2 d2) : Calls Tryz.prog 120 #[.agg #[.int .i64 r.kind, .slice A n c, .slice B m d], .agg #[.int .i64 t.kind, .slice A2 n2 c2, .slice B2 m2 d2]] w (nV w (bI r t)) :=
 (OT h1 h2).mono fun e w' hp => ⟨hp.1, hp.2.1⟩
namespace Rgx
theorem ww {a b : Int} : bG a b < 0 ↔ a < b := by
 unfold bG
 split
 ·omega
 ·split <;> omega
theorem L8 (a b : Int) : bG b a = -bG a b := by
 unfold bG
 split <;> split <;> omega
theorem MU : ∀ a b : List Int, dI b a = -dI a b
 |[], [] => by simp [dI]
 |[], _ :: _ => by simp [dI]
 |_ :: _, [] => by simp [dI]
 |x :: xs, y :: ys => by
  rw [dI, dI, MU xs ys, L8 x y]
  by_cases h : bG x y = 0
  ·rw [if_neg (by omega), if_neg (by omega)]
  ·rw [if_pos (by omega), if_pos (by omega)]
theorem Mh : ∀ {a b c : List Int}, dI a b < 0 -> dI b c < 0 -> dI a c < 0
 |[], [], _, h, _ => by simp [dI] at h
 |[], _ :: _, [], _, h => by simp [dI] at h
 |[], _ :: _, _ :: _, _, _ => by simp [dI]
 |_ :: _, [], _, h, _ => by simp [dI] at h
 |_ :: _, _ :: _, [], _, h => by simp [dI] at h
 |x :: xs, y :: ys, z :: zs, h1, h2 => by
  rw [dI] at h1 h2 ⊢
  by_cases e1 : bG x y = 0
  ·rw [if_neg (by simpa using e1)] at h1;have := ql.1 e1;subst this
   by_cases e2 : bG x z = 0
   ·rw [if_neg (by simpa using e2)] at h2 ⊢;exact Mh h1 h2
   ·rw [if_pos e2] at h2 ⊢;exact h2
  ·rw [if_pos e1] at h1
   by_cases e2 : bG y z = 0
   ·have := ql.1 e2;subst this;rw [if_pos e1]; exact h1
   ·rw [if_pos e2] at h2;have h3 : bG x z < 0 := ww.2 (by have := ww.1 h1; have := ww.1 h2; omega);rw [if_pos (by omega)]; exact h3
mutual
theorem Hw : ∀ a b : Rx, bI b a = -bI a b
 |.mk k s ks, .mk k' s' ks' => by
  rw [bI, bI, L8 k k', MU s s', Nc ks ks']
  by_cases h1 : bG k k' = 0
  ·by_cases h2 : dI s s' = 0
   ·simp [h1, h2]
   ·have : ¬ -dI s s' = 0 := by omega
    simp [h1, h2]
  ·have : ¬ -bG k k' = 0 := by omega
   simp [h1]
theorem Nc : ∀ a b : List Rx, cmpL b a = -cmpL a b
 |[], [] => by simp [cmpL]
 |[], _ :: _ => by simp [cmpL]
 |_ :: _, [] => by simp [cmpL]
 |x :: xs, y :: ys => by
  rw [cmpL, cmpL, Nc xs ys, Hw x y]
  by_cases h : bI x y = 0
  ·rw [if_neg (by omega), if_neg (by omega)]
  ·rw [if_pos (by omega), if_pos (by omega)]
end
mutual
theorem Gr : ∀ {a b c : Rx}, bI a b < 0 -> bI b c < 0 -> bI a c < 0
 |.mk k s ks, .mk k' s' ks', .mk k'' s'' ks'', h1, h2 => by
  rw [bI] at h1 h2 ⊢
  by_cases e1 : bG k k' = 0
  ·rw [if_neg (by simpa using e1)] at h1
   have := ql.1 e1
   subst this
   by_cases e2 : bG k k'' = 0
   ·rw [if_neg (by simpa using e2)] at h2 ⊢
    by_cases e3 : dI s s' = 0
    ·rw [if_neg (by simpa using e3)] at h1
     have := CS.1 e3
     subst this
     by_cases e4 : dI s s'' = 0
     ·rw [if_neg (by simpa using e4)] at h2 ⊢
      exact NE h1 h2
     ·rw [if_pos e4] at h2 ⊢
      exact h2
    ·rw [if_pos e3] at h1
     by_cases e4 : dI s' s'' = 0
     ·have := CS.1 e4
      subst this
      rw [if_pos e3]; exact h1
     ·rw [if_pos e4] at h2
      have h3 : dI s s'' < 0 := Mh h1 h2
      rw [if_pos (by omega)]; exact h3
   ·rw [if_pos e2] at h2 ⊢
    exact h2
  ·rw [if_pos e1] at h1
   by_cases e2 : bG k' k'' = 0
   ·have := ql.1 e2
    subst this
    rw [if_pos e1]; exact h1
   ·rw [if_pos e2] at h2
    have h3 : bG k k'' < 0 := ww.2 (by have := ww.1 h1; have := ww.1 h2; omega)
    rw [if_pos (by omega)]; exact h3
theorem NE : ∀ {a b c : List Rx}, cmpL a b < 0 -> cmpL b c < 0 -> cmpL a c < 0
 |[], [], _, h, _ => by simp [cmpL] at h
 |[], _ :: _, [], _, h => by simp [cmpL] at h
 |[], _ :: _, _ :: _, _, _ => by simp [cmpL]
 |_ :: _, [], _, h, _ => by simp [cmpL] at h
 |_ :: _, _ :: _, [], _, h => by simp [cmpL] at h
 |x :: xs, y :: ys, z :: zs, h1, h2 => by
  rw [cmpL] at h1 h2 ⊢
  by_cases e1 : bI x y = 0
  ·rw [if_neg (by simpa using e1)] at h1
   have := qd.1 e1
   subst this
   by_cases e2 : bI x z = 0
   ·rw [if_neg (by simpa using e2)] at h2 ⊢
    exact NE h1 h2
   ·rw [if_pos e2] at h2 ⊢
    exact h2
  ·rw [if_pos e1] at h1
   by_cases e2 : bI y z = 0
   ·have := qd.1 e2
    subst this
    rw [if_pos e1]; exact h1
   ·rw [if_pos e2] at h2
    have h3 : bI x z < 0 := Gr h1 h2
    rw [if_pos (by omega)]; exact h3
end
theorem Ib (a : Rx) : bI a a = 0 := qd.2 rfl
def jE (x y : Rx) : Prop := bI x y < 0
theorem jE.tr {a b c : Rx} (h1 : jE a b) (h2 : jE b c) : jE a c := Gr h1 h2
theorem jE.irr {a : Rx} (h : jE a a) : False := by unfold jE at h; rw [Ib] at h; omega
theorem jE.asym {a b : Rx} (h1 : jE a b) (h2 : jE b a) : False := (h1.tr h2).irr
theorem FM {a b : Rx} (h1 : ¬ jE a b) (h2 : a ≠ b) : jE b a := by
 unfold jE at h1 ⊢;rw [Hw a b];have h3 : bI a b ≠ 0 := fun e => h2 (qd.1 e)
 omega
abbrev ng (l : List Rx) : Prop := l.Pairwise jE
theorem FK : ∀ {a b : List Rx}, ng a -> ng b -> (∀ x, x ∈ a ↔ x ∈ b) -> a = b
 |[], [], _, _, _ => rfl
 |[], y :: b, _, _, h => absurd ((h y).2 (by simp)) (by simp)
 |x :: a, [], _, _, h => absurd ((h x).1 (by simp)) (by simp)
 |x :: a, y :: b, ha, hb, h => by
  obtain ⟨ha1, ha2⟩ := List.pairwise_cons.1 ha;obtain ⟨hb1, hb2⟩ := List.pairwise_cons.1 hb;have kY : x = y := by
   rcases List.mem_cons.1 ((h x).1 (by simp)) with e | hx
   ·exact e
   ·rcases List.mem_cons.1 ((h y).2 (by simp)) with e | hy
    ·exact e.symm
    ·exact ((ha1 y hy).asym (hb1 x hx)).elim
  subst kY;rw [FK ha2 hb2 fun z => ?_];constructor
  ·intro hz
   rcases List.mem_cons.1 ((h z).1 (by simp [hz])) with e | hz'
   ·subst e; exact ((ha1 _ hz).irr).elim
   ·exact hz'
  ·intro hz
   rcases List.mem_cons.1 ((h z).2 (by simp [hz])) with e | hz'
   ·subst e; exact ((hb1 _ hz).irr).elim
   ·exact hz'
def dK : List Rx -> Rx -> List Rx
 |[], x => [x]
 |y :: l, x => if bI y x < 0 then y :: dK l x else if bI y x = 0 then y :: l else x :: y :: l
theorem Gj {l : List Rx} {x z : Rx} : z ∈ dK l x ↔ z = x \/ z ∈ l := by
 induction l with
 |nil => simp [dK]
 |cons y l ih =>
  rw [dK]
  split
  ·rw [List.mem_cons, ih, List.mem_cons];constructor
   ·rintro (h | h | h)
    ·exact .inr (.inl h)
    ·exact .inl h
    ·exact .inr (.inr h)
   ·rintro (h | h | h)
    ·exact .inr (.inl h)
    ·exact .inl h
    ·exact .inr (.inr h)
  ·split
   ·rename_i h2
    have := qd.1 h2;subst this;constructor
    ·exact fun h => .inr h
    ·rintro (h | h)
     ·exact List.mem_cons.2 (.inl h)
     ·exact h
   ·rw [List.mem_cons]
theorem Jc {l : List Rx} {x : Rx} (h : ng l) : ng (dK l x) := by
 induction l with
 |nil => exact List.pairwise_singleton _ _
 |cons y l ih =>
  obtain ⟨h1, h2⟩ := List.pairwise_cons.1 h;rw [dK]
  split
  ·rename_i hlt
   refine List.pairwise_cons.2 ⟨fun z hz => ?_, ih h2⟩
   rcases Gj.1 hz with rfl | hz
   ·exact hlt
   ·exact h1 z hz
  ·split
   ·exact h
   ·rename_i yX tY
    have kY : jE x y := FM yX (fun e => tY (qd.2 e));refine List.pairwise_cons.2 ⟨fun z hz => ?_, h⟩
    rcases List.mem_cons.1 hz with rfl | hz
    ·exact kY
    ·exact kY.tr (h1 z hz)
def fw (out : List Rx) (l : List Rx) : List Rx := l.foldl dK out
theorem Me {z : Rx} : ∀ {l out : List Rx}, z ∈ fw out l ↔ z ∈ out \/ z ∈ l
 |[], out => by simp [fw]
 |x :: l, out => by
  show z ∈ fw (dK out x) l ↔ _;rw [Me, Gj, List.mem_cons];constructor
  ·rintro ((h | h) | h)
   ·exact .inr (.inl h)
   ·exact .inl h
   ·exact .inr (.inr h)
  ·rintro (h | h | h)
   ·exact .inl (.inr h)
   ·exact .inl (.inl h)
   ·exact .inr h
theorem OO : ∀ {l out : List Rx}, ng out -> ng (fw out l)
 |[], _, h => h
 |x :: l, out, h => by
  show ng (fw (dK out x) l);exact OO (Jc h)
end Rgx
namespace Rgx
def spl (r : Rx) : List Rx := if r.kind = 3 then r.kids else if r.kind = 1 then [] else [r]
theorem Gq : ∀ (l out : List Rx), seqGo l out = if l.any (fun x => decide (x.kind = 0)) then none else some (out ++ l.flatMap spl)
 |[], out => by simp [seqGo]
 |r :: rs, out => by
  rw [seqGo]
  by_cases h0 : r.kind = 0
  ·simp [h0]
  ·rw [if_neg h0]
   by_cases h3 : r.kind = 3
   ·rw [if_pos h3, Gq rs];simp [h0, spl, h3]
   ·rw [if_neg h3]
    by_cases h1 : r.kind = 1
    ·rw [if_pos h1, Gq rs];simp [spl, h1]
    ·rw [if_neg h1, Gq rs];simp [h0, spl, h3, h1]
theorem um (l : List Rx) : seqP l = if l.any (fun x => decide (x.kind = 0)) then .mk 0 [] [] else seqEnd (l.flatMap spl) := by
 unfold seqP;rw [Gq]
 split <;> simp_all
def flt (r : Rx) : List Rx := if r.kind = 4 then r.kids else [r]
def flatR (l : List Rx) : List Rx := l.flatMap flt
def dR (l : List Rx) : List Int := ((List.range 64).map Int.ofNat).filter fun s => l.any fun x => x.syms.contains s
def nA (f : List Rx) : Bool := f.any (fun x => decide (x.kind = 1)) && !f.any (fun x => decide (2 < x.kind) && aO x)
def altOut (f : List Rx) : List Rx :=
 let out := fw [] (f.filter fun x => decide (2 < x.kind))
 let out2 := if dR f = [] then out else dK out (.mk 2 (dR f) [])
 if nA f then dK out2 (.mk 1 [] []) else out2
def altEnd : List Rx -> Rx
 |[] => .mk 0 [] []
 |[x] => x
 |out => .mk 4 [] out
def altP (l : List Rx) : Rx := altEnd (altOut (flatR l))
def starP (x : Rx) : Rx := if x.kind = 0 \/ x.kind = 1 then .mk 1 [] [] else if x.kind = 5 then x else .mk 5 [] [if x.kind = 4 then altP (x.kids.filter fun y => decide (y.kind ≠ 1)) else x]
mutual
def normR (t : Bool) : Rx -> Rx
 |.mk k s ks => if k = 3 then seqP (if t then (vL t ks).reverse else vL t ks) else if k = 4 then altP (vL t ks) else if k = 5 then starP ((vL t ks).headD (.mk 0 [] [])) else .mk k s ks
def vL (t : Bool) : List Rx -> List Rx
 |[] => []
 |r :: rs => normR t r :: vL t rs
end
theorem LB (t : Bool) : ∀ ks : List Rx, vL t ks = ks.map (normR t)
 |[] => by rw [vL]; rfl
 |r :: rs => by rw [vL, LB t rs]; rfl
def Cu (t : Bool) (l : List Rx) : List Rx := if t then l.reverse else l
theorem lH (t : Bool) (r : Rx) : normR t r = if r.kind = 3 then seqP (Cu t (r.kids.map (normR t))) else if r.kind = 4 then altP (r.kids.map (normR t)) else if r.kind = 5 then starP ((r.kids.map (normR t)).headD (.mk 0 [] [])) else r := by
 cases r with
 |mk k s ks => rw [normR, LB]; rfl
theorem qY {f : List Rx} {s : Int} : s ∈ dR f ↔ (0 <= s /\ s < 64) /\ ∃ x ∈ f, s ∈ x.syms := by
 unfold dR;rw [List.mem_filter, List.mem_map, List.any_eq_true];constructor
 ·rintro ⟨⟨n, hn, rfl⟩, x, hx, h⟩;have := List.mem_range.1 hn;refine ⟨⟨?_, ?_⟩, x, hx, by simpa using h⟩
  ·show 0 <= (n : Int); omega
  ·show (n : Int) < 64; omega
 ·rintro ⟨⟨h0, h1⟩, x, hx, h⟩;exact ⟨⟨s.toNat, List.mem_range.2 (by omega), by show ((s.toNat : Nat) : Int) = s; omega⟩, x, hx, by simpa using h⟩
theorem Cf (f : List Rx) : (dR f).Pairwise (· < ·) := by
 unfold dR;refine List.Pairwise.filter _ ?_;rw [List.pairwise_map];exact List.pairwise_lt_range.imp fun h => by show ((_ : Nat) : Int) < ((_ : Nat) : Int); omega
theorem Cs : ∀ {a b : List Int}, a.Pairwise (· < ·) -> b.Pairwise (· < ·) -> (∀ x, x ∈ a ↔ x ∈ b) -> a = b
 |[], [], _, _, _ => rfl
 |[], y :: b, _, _, h => absurd ((h y).2 (by simp)) (by simp)
 |x :: a, [], _, _, h => absurd ((h x).1 (by simp)) (by simp)
 |x :: a, y :: b, ha, hb, h => by
  obtain ⟨ha1, ha2⟩ := List.pairwise_cons.1 ha;obtain ⟨hb1, hb2⟩ := List.pairwise_cons.1 hb;have kY : x = y := by
   rcases List.mem_cons.1 ((h x).1 (by simp)) with e | hx
   ·exact e
   ·rcases List.mem_cons.1 ((h y).2 (by simp)) with e | hy
    ·exact e.symm
    ·have := ha1 y hy; have := hb1 x hx; omega
  subst kY;rw [Cs ha2 hb2 fun z => ?_];constructor
  ·intro hz
   rcases List.mem_cons.1 ((h z).1 (by simp [hz])) with e | hz'
   ·subst e; have := ha1 _ hz; omega
   ·exact hz'
  ·intro hz
   rcases List.mem_cons.1 ((h z).2 (by simp [hz])) with e | hz'
   ·subst e; have := hb1 _ hz; omega
   ·exact hz'
theorem Li : ∀ {l : List Int}, jI l = true ↔ l.Pairwise (· < ·) /\ ∀ x ∈ l, 0 <= x /\ x < 64
 |[] => by simp [jI]
 |[x] => by simp [jI]
 |x :: y :: t => by
  have ih := Li (l := y :: t);have e : jI (x :: y :: t) = (decide (0 <= x /\ x < 64) && decide (x < y) && jI (y :: t)) := by rw [jI]
  rw [e, Bool.and_eq_true, Bool.and_eq_true, decide_eq_true_eq, decide_eq_true_eq, ih];constructor
  ·rintro ⟨⟨h1, h2⟩, h3, h4⟩;refine ⟨List.pairwise_cons.2 ⟨fun z hz => ?_, h3⟩, fun z hz => ?_⟩
   ·rcases List.mem_cons.1 hz with rfl | hz
    ·exact h2
    ·have := (List.pairwise_cons.1 h3).1 z hz; omega
   ·rcases List.mem_cons.1 hz with rfl | hz
    ·exact h1
    ·exact h4 z hz
  ·rintro ⟨h3, h4⟩;obtain ⟨h5, h6⟩ := List.pairwise_cons.1 h3;exact ⟨⟨h4 x (by simp), h5 y (by simp)⟩, h6, fun z hz => h4 z (by simp [hz])⟩
theorem oh {l : List Int} : fO l = true ↔ l ≠ [] /\ l.Pairwise (· < ·) /\ ∀ x ∈ l, 0 <= x /\ x < 64 := by
 unfold fO;rw [Bool.and_eq_true, decide_eq_true_eq, Li, List.length_pos_iff]
theorem VB {f : List Rx} (h : dR f ≠ []) : fO (dR f) = true :=
 oh.2 ⟨h, Cf f, fun x hx => (qY.1 hx).1⟩
theorem ul {f : List Rx} : nA f = true ↔ (∃ x ∈ f, x.kind = 1) /\ ∀ x ∈ f, 2 < x.kind -> aO x = false := by
 unfold nA;rw [Bool.and_eq_true, List.any_eq_true, Bool.not_eq_true', List.any_eq_false];constructor
 ·rintro ⟨⟨x, h1, h2⟩, h⟩;exact ⟨⟨x, h1, by simpa using h2⟩, fun y hy hk => by have := h y hy; simp [hk] at this; exact this⟩
 ·rintro ⟨⟨x, h1, h2⟩, h⟩;exact ⟨⟨x, h1, by simpa using h2⟩, fun y hy => by
   by_cases hk : 2 < y.kind
   ·simp [h y hy hk]
   ·simp [hk]⟩
theorem mY {f : List Rx} {z : Rx} : z ∈ altOut f ↔ (z ∈ f /\ 2 < z.kind) \/ (dR f ≠ [] /\ z = .mk 2 (dR f) []) \/ (nA f = true /\ z = .mk 1 [] []) := by
 have h1 : z ∈ fw [] (f.filter fun x => decide (2 < x.kind)) ↔ z ∈ f /\ 2 < z.kind := by
  rw [Me, List.mem_filter]; simp
 have h2 : z ∈ (if dR f = [] then fw [] (f.filter fun x => decide (2 < x.kind)) else dK (fw [] (f.filter fun x => decide (2 < x.kind))) (.mk 2 (dR f) [])) ↔ (z ∈ f /\ 2 < z.kind) \/ (dR f ≠ [] /\ z = .mk 2 (dR f) []) := by
  by_cases h : dR f = []
  ·rw [if_pos h, h1]; simp [h]
  ·rw [if_neg h, Gj, h1]; simp [h]; exact Or.comm
 show z ∈ (if nA f then dK _ (.mk 1 [] []) else _) ↔ _
 by_cases h : nA f = true
 ·rw [if_pos h, Gj, h2]; simp only [h, true_and];constructor
  ·rintro (h | h | h)
   ·exact .inr (.inr h)
   ·exact .inl h
   ·exact .inr (.inl h)
  ·rintro (h | h | h)
   ·exact .inr (.inl h)
   ·exact .inr (.inr h)
   ·exact .inl h
 ·rw [if_neg h, h2]; simp [h]
theorem Ch (f : List Rx) : ng (altOut f) := by
 have h1 : ng (fw [] (f.filter fun x => decide (2 < x.kind))) := OO List.Pairwise.nil;have h2 : ng (if dR f = [] then fw [] (f.filter fun x => decide (2 < x.kind)) else dK (fw [] (f.filter fun x => decide (2 < x.kind))) (.mk 2 (dR f) [])) := by
  split
  ·exact h1
  ·exact Jc h1
 show ng (if nA f then dK _ (.mk 1 [] []) else _)
 split
 ·exact Jc h2
 ·exact h2
structure sH (f g : List Rx) : Prop where
 big : ∀ z, 2 < z.kind -> (z ∈ f ↔ z ∈ g)
 sym : ∀ s, (∃ x ∈ f, s ∈ x.syms) ↔ ∃ x ∈ g, s ∈ x.syms
 emp : (∀ x ∈ f, 2 < x.kind -> aO x = false) -> ((∃ x ∈ f, x.kind = 1) ↔ ∃ x ∈ g, x.kind = 1)
theorem sH.alt {f g : List Rx} (h : sH f g) : altOut f = altOut g := by
 have hs : dR f = dR g := Cs (Cf f) (Cf g) fun s => by rw [qY, qY, h.sym]
 have hc : nA f = nA g := by
  rw [Bool.eq_iff_iff, ul, ul];have h2 : (∀ x ∈ f, 2 < x.kind -> aO x = false) ↔ ∀ x ∈ g, 2 < x.kind -> aO x = false :=
   ⟨fun k x hx hk => k x ((h.big x hk).2 hx) hk, fun k x hx hk => k x ((h.big x hk).1 hx) hk⟩
  constructor
  ·rintro ⟨a, b⟩; exact ⟨(h.emp b).1 a, h2.1 b⟩
  ·rintro ⟨a, b⟩; exact ⟨(h.emp (h2.2 b)).2 a, h2.2 b⟩
 refine FK (Ch f) (Ch g) fun z => ?_
 rw [mY, mY, hs, hc];constructor
 ·rintro (⟨h1, h2⟩ | h1)
  ·exact .inl ⟨(h.big z h2).1 h1, h2⟩
  ·exact .inr h1
 ·rintro (⟨h1, h2⟩ | h1)
  ·exact .inl ⟨(h.big z h2).2 h1, h2⟩
  ·exact .inr h1
theorem sH.of_mem {f g : List Rx} (h : ∀ z, z ∈ f ↔ z ∈ g) : sH f g :=
 ⟨fun z _ => h z, fun s => ⟨fun ⟨x, a, b⟩ => ⟨x, (h x).1 a, b⟩, fun ⟨x, a, b⟩ => ⟨x, (h x).2 a, b⟩⟩, fun _ => ⟨fun ⟨x, a, b⟩ => ⟨x, (h x).1 a, b⟩, fun ⟨x, a, b⟩ => ⟨x, (h x).2 a, b⟩⟩⟩
structure xy (ks : List Rx) : Prop where
 kin : ∀ x ∈ ks, x.kind ≠ 0 /\ x.kind ≠ 4
 srt : ng ks
 one : ∀ x ∈ ks, ∀ y ∈ ks, x.kind = 2 -> y.kind = 2 -> x = y
 emp : (∃ x ∈ ks, x.kind = 1) -> ∀ x ∈ ks, 2 < x.kind -> aO x = false
inductive NF : Rx -> Prop where
 |none : NF (.mk 0 [] [])
 |empty : NF (.mk 1 [] [])
 |set {s : List Int} : fO s = true -> NF (.mk 2 s [])
 |seq {ks : List Rx} : 2 <= ks.length -> (∀ x ∈ ks, NF x) -> (∀ x ∈ ks, x.kind ≠ 0 /\ x.kind ≠ 1 /\ x.kind ≠ 3) -> NF (.mk 3 [] ks)
 |alt {ks : List Rx} : 2 <= ks.length -> (∀ x ∈ ks, NF x) -> xy ks -> NF (.mk 4 [] ks)
 |star {x : Rx} : NF x -> (x.kind ≠ 0 /\ x.kind ≠ 1 /\ x.kind ≠ 5) -> (x.kind = 4 -> ∀ y ∈ x.kids, y.kind ≠ 1) -> NF (.mk 5 [] [x])
theorem NF.rng {x : Rx} (h : NF x) : 0 <= x.kind /\ x.kind <= 5 := by cases h <;> (show (0 : Int) <= _ /\ _ <= (5 : Int)) <;> simp [Rx.kind]
theorem NF.kids {x : Rx} (h : NF x) : ∀ y ∈ x.kids, NF y := by
 cases h with
 |none => intro y hy; cases hy
 |empty => intro y hy; cases hy
 |set _ => intro y hy; cases hy
 |seq _ h _ => exact h
 |alt _ h _ => exact h
 |star h _ _ => intro y hy; rw [show y = _ from by simpa [Rx.kids] using hy]; exact h
theorem NF.k0 {x : Rx} (h : NF x) (hk : x.kind = 0) : x = .mk 0 [] [] := by cases h <;> simp [Rx.kind] at hk <;> rfl
theorem NF.k1 {x : Rx} (h : NF x) (hk : x.kind = 1) : x = .mk 1 [] [] := by cases h <;> simp [Rx.kind] at hk <;> rfl
theorem NF.k2 {x : Rx} (h : NF x) (hk : x.kind = 2) : x = .mk 2 x.syms [] /\ fO x.syms = true := by
 cases h <;> simp [Rx.kind] at hk
 exact ⟨rfl, by assumption⟩
theorem NF.k3 {x : Rx} (h : NF x) (hk : x.kind = 3) : x = .mk 3 [] x.kids /\ 2 <= x.kids.length /\ ∀ y ∈ x.kids, y.kind ≠ 0 /\ y.kind ≠ 1 /\ y.kind ≠ 3 := by
 cases h <;> simp [Rx.kind] at hk
 exact ⟨rfl, by assumption, by assumption⟩
theorem NF.k4 {x : Rx} (h : NF x) (hk : x.kind = 4) : x = .mk 4 [] x.kids /\ 2 <= x.kids.length /\ xy x.kids := by
 cases h <;> simp [Rx.kind] at hk
 exact ⟨rfl, by assumption, by assumption⟩
theorem NF.k5 {x : Rx} (h : NF x) (hk : x.kind = 5) : ∃ y, x = .mk 5 [] [y] /\ NF y /\ (y.kind ≠ 0 /\ y.kind ≠ 1 /\ y.kind ≠ 5) /\ (y.kind = 4 -> ∀ z ∈ y.kids, z.kind ≠ 1) := by
 cases h <;> simp [Rx.kind] at hk
 exact ⟨_, rfl, by assumption, by assumption, by assumption⟩
theorem NF.syms {x : Rx} (h : NF x) (hk : x.kind ≠ 2) : x.syms = [] := by cases h <;> first | rfl | simp [Rx.kind] at hk
theorem NF.sym_in {x : Rx} (h : NF x) : ∀ s ∈ x.syms, 0 <= s /\ s < 64 := by
 by_cases hk : x.kind = 2
 ·exact (oh.1 (h.k2 hk).2).2.2
 ·rw [h.syms hk]; intro s hs; cases hs
theorem NF.spl {x : Rx} (h : NF x) : ∀ y ∈ spl x, NF y /\ (x.kind ≠ 0 -> y.kind ≠ 0) /\ y.kind ≠ 1 /\ y.kind ≠ 3 := by
 intro y hy;unfold Rgx.spl at hy
 by_cases h3 : x.kind = 3
 ·rw [if_pos h3] at hy;have := (h.k3 h3).2.2 y hy;exact ⟨h.kids y hy, fun _ => this.1, this.2.1, this.2.2⟩
 ·rw [if_neg h3] at hy
  by_cases h1 : x.kind = 1
  ·rw [if_pos h1] at hy; cases hy
  ·rw [if_neg h1] at hy;have e : y = x := by simpa using hy
   subst e;exact ⟨h, id, h1, h3⟩
theorem NF.seqEnd {F : List Rx} (h : ∀ x ∈ F, NF x) (hk : ∀ x ∈ F, x.kind ≠ 0 /\ x.kind ≠ 1 /\ x.kind ≠ 3) : NF (seqEnd F) := by
 match F with
 |[] => exact .empty
 |[x] => exact h x (by simp)
 |x :: y :: t => exact .seq (by simp) h hk
theorem NF.flat {M : List Rx} (h : ∀ x ∈ M, NF x) (h0 : M.any (fun x => decide (x.kind = 0)) = false) : ∀ y ∈ M.flatMap Rgx.spl, NF y /\ y.kind ≠ 0 /\ y.kind ≠ 1 /\ y.kind ≠ 3 := by
 intro y hy;obtain ⟨x, hx, hy⟩ := List.mem_flatMap.1 hy;have h1 := (h x hx).spl y hy;have h2 : x.kind ≠ 0 := by have := List.any_eq_false.1 h0 x hx; simpa using this
 exact ⟨h1.1, h1.2.1 h2, h1.2.2⟩
theorem NF.seqP {M : List Rx} (h : ∀ x ∈ M, NF x) : NF (seqP M) := by
 rw [um]
 by_cases h0 : M.any (fun x => decide (x.kind = 0)) = true
 ·rw [if_pos h0]; exact .none
 ·rw [if_neg h0];have h1 := NF.flat h (by simpa using h0);exact NF.seqEnd (fun x hx => (h1 x hx).1) fun x hx => (h1 x hx).2
theorem Jm {x : Rx} (h : x.kind ≠ 1 /\ x.kind ≠ 3) : spl x = [x] := by unfold spl; rw [if_neg h.2, if_neg h.1]
theorem Mg : ∀ {F : List Rx}, (∀ x ∈ F, x.kind ≠ 0 /\ x.kind ≠ 1 /\ x.kind ≠ 3) -> F.flatMap spl = F
 |[], _ => rfl
 |x :: t, h => by
  rw [List.flatMap_cons, Jm (h x (by simp)).2, Mg fun y hy => h y (by simp [hy])]
  rfl
theorem VO {F : List Rx} (hk : ∀ x ∈ F, x.kind ≠ 0 /\ x.kind ≠ 1 /\ x.kind ≠ 3) : spl (seqEnd F) = F /\ (seqEnd F).kind ≠ 0 := by
 match F with
 |[] => exact ⟨rfl, by simp [Rgx.seqEnd, Rx.kind]⟩
 |[x] => exact ⟨Jm (hk x (by simp)).2, (hk x (by simp)).1⟩
 |x :: y :: t => exact ⟨rfl, by simp [Rgx.seqEnd, Rx.kind]⟩
theorem TH {A M B : List Rx} (h : ∀ x ∈ M, NF x) : seqP (A ++ seqP M :: B) = seqP (A ++ M ++ B) := by
 rw [um M]
 by_cases h0 : M.any (fun x => decide (x.kind = 0)) = true
 ·rw [if_pos h0, um, um, if_pos, if_pos]
  ·rw [List.any_append, List.any_append, h0]; simp
  ·rw [List.any_append]; simp [Rx.kind]
 ·rw [if_neg h0];have h1 := NF.flat h (by simpa using h0);have h2 := VO (F := M.flatMap spl) fun x hx => (h1 x hx).2
  have e0 : M.any (fun x => decide (x.kind = 0)) = false := by simpa using h0
  rw [um, um (A ++ M ++ B)];have e1 : (A ++ Rgx.seqEnd (M.flatMap spl) :: B).any (fun x => decide (x.kind = 0)) = (A ++ M ++ B).any (fun x => decide (x.kind = 0)) := by
   rw [List.any_append, List.any_cons, List.any_append, List.any_append, e0];simp [h2.2]
  rw [e1];have e2 : (A ++ Rgx.seqEnd (M.flatMap spl) :: B).flatMap spl = (A ++ M ++ B).flatMap spl := by
   rw [List.flatMap_append, List.flatMap_cons, h2.1, List.flatMap_append, List.flatMap_append, List.append_assoc]
  rw [e2]
theorem V5 {x : Rx} (h : NF x) : seqP [x] = x := by
 rw [um]
 by_cases h0 : x.kind = 0
 ·rw [h.k0 h0]; rfl
 ·simp only [List.any_cons, List.any_nil, h0, decide_false, Bool.or_false, List.flatMap_cons, List.flatMap_nil, List.append_nil];rw [if_neg (by simp)]
  by_cases h1 : x.kind = 1
  ·rw [h.k1 h1]; rfl
  ·by_cases h3 : x.kind = 3
   ·obtain ⟨e, h4, _⟩ := h.k3 h3;have : spl x = x.kids := by unfold spl; rw [if_pos h3]
    rw [this]
    match hk : x.kids, h4 with
    |a :: b :: t, _ => rw [e, hk]; rfl
   ·rw [Jm ⟨h1, h3⟩]; rfl
theorem NF.flt {x : Rx} (h : NF x) : ∀ y ∈ flt x, NF y /\ y.kind ≠ 4 := by
 intro y hy;unfold Rgx.flt at hy
 by_cases h4 : x.kind = 4
 ·rw [if_pos h4] at hy;exact ⟨h.kids y hy, ((h.k4 h4).2.2.kin y hy).2⟩
 ·rw [if_neg h4] at hy;have e : y = x := by simpa using hy
  subst e;exact ⟨h, h4⟩
theorem NF.flatR {l : List Rx} (h : ∀ x ∈ l, NF x) : ∀ y ∈ flatR l, NF y /\ y.kind ≠ 4 := by
 intro y hy;obtain ⟨x, hx, hy⟩ := List.mem_flatMap.1 hy;exact (h x hx).flt y hy
theorem NF.altK {f : List Rx} (h : ∀ x ∈ f, NF x /\ x.kind ≠ 4) : xy (altOut f) := by
 refine ⟨fun x hx => ?_, Ch f, fun x hx y hy h1 h2 => ?_, fun ⟨x, hx, hk⟩ y hy gY => ?_⟩
 ·rcases mY.1 hx with ⟨h1, h2⟩ | ⟨h1, rfl⟩ | ⟨h1, rfl⟩
  ·exact ⟨by omega, (h x h1).2⟩
  ·simp [Rx.kind]
  ·simp [Rx.kind]
 ·have e : ∀ z ∈ altOut f, z.kind = 2 -> z = .mk 2 (dR f) [] := fun z hz hk => by
   rcases mY.1 hz with ⟨h1, h2⟩ | ⟨h1, rfl⟩ | ⟨h1, rfl⟩
   ·omega
   ·rfl
   ·simp [Rx.kind] at hk
  rw [e x hx h1, e y hy h2]
 ·have hc : nA f = true := by
   rcases mY.1 hx with ⟨h1, h2⟩ | ⟨h1, rfl⟩ | ⟨h1, rfl⟩
   ·omega
   ·simp [Rx.kind] at hk
   ·exact h1
  rcases mY.1 hy with ⟨h1, h2⟩ | ⟨h1, rfl⟩ | ⟨h1, rfl⟩
  ·exact (ul.1 hc).2 y h1 h2
  ·simp [Rx.kind] at gY
  ·simp [Rx.kind] at gY
theorem NF.altOut {f : List Rx} (h : ∀ x ∈ f, NF x /\ x.kind ≠ 4) : ∀ x ∈ altOut f, NF x := fun x hx => by
 rcases mY.1 hx with ⟨h1, h2⟩ | ⟨h1, rfl⟩ | ⟨h1, rfl⟩
 ·exact (h x h1).1
 ·exact .set (VB h1)
 ·exact .empty
theorem NF.altEnd {ks : List Rx} (h : ∀ x ∈ ks, NF x) (hk : xy ks) : NF (altEnd ks) := by
 match ks with
 |[] => exact .none
 |[x] => exact h x (by simp)
 |x :: y :: t => exact .alt (by simp) h hk
theorem NF.altP {l : List Rx} (h : ∀ x ∈ l, NF x) : NF (altP l) := NF.altEnd (NF.altOut (NF.flatR h)) (NF.altK (NF.flatR h))
theorem UD {s : List Int} (h : fO s = true) {f : List Rx} (hf : ∀ x, (∃ y ∈ f, x ∈ y.syms) ↔ x ∈ s) : dR f = s := by
 obtain ⟨h1, h2, h3⟩ := oh.1 h;refine Cs (Cf f) h2 fun x => ?_
 rw [qY, hf];exact ⟨fun h => h.2, fun h => ⟨h3 x h, h⟩⟩
theorem CF {ks : List Rx} (h : ∀ x ∈ ks, NF x) (hk : xy ks) : altOut ks = ks := by
 refine FK (Ch ks) hk.srt fun z => ?_
 rw [mY];have hs : ∀ y ∈ ks, y.kind = 2 -> dR ks = y.syms := fun y hy gY => by
  refine UD ((h y hy).k2 gY).2 fun s => ⟨fun ⟨x, hx, hxs⟩ => ?_, fun hs => ⟨y, hy, hs⟩⟩
  have hx2 : x.kind = 2 := by
   by_cases e : x.kind = 2
   ·exact e
   ·rw [(h x hx).syms e] at hxs; cases hxs
  rw [hk.one x hx y hy hx2 gY] at hxs;exact hxs
 constructor
 ·rintro (⟨h1, h2⟩ | ⟨h1, rfl⟩ | ⟨h1, rfl⟩)
  ·exact h1
  ·obtain ⟨s, hs1⟩ : ∃ s, s ∈ dR ks := List.exists_mem_of_ne_nil _ h1;obtain ⟨_, y, hy, gG⟩ := qY.1 hs1;have gY : y.kind = 2 := by
    by_cases e : y.kind = 2
    ·exact e
    ·rw [(h y hy).syms e] at gG; cases gG
   rw [hs y hy gY, <- ((h y hy).k2 gY).1]; exact hy
  ·obtain ⟨⟨x, hx, hx1⟩, _⟩ := ul.1 h1;rw [<- (h x hx).k1 hx1]; exact hx
 ·intro hz;have h0 := hk.kin z hz;have hr := (h z hz).rng
  by_cases h2 : 2 < z.kind
  ·exact .inl ⟨hz, h2⟩
  ·by_cases e2 : z.kind = 2
   ·right; left
    rw [hs z hz e2];have h3 := (h z hz).k2 e2;exact ⟨(oh.1 h3.2).1, h3.1⟩
   ·right; right
    have e1 : z.kind = 1 := by omega
    exact ⟨ul.2 ⟨⟨z, hz, e1⟩, hk.emp ⟨z, hz, e1⟩⟩, (h z hz).k1 e1⟩
theorem Ca : ∀ {F : List Rx}, (∀ x ∈ F, x.kind ≠ 4) -> flatR F = F
 |[], _ => rfl
 |x :: t, h => by
  show flt x ++ flatR t = _;rw [Ca fun y hy => h y (by simp [hy])];unfold flt;rw [if_neg (h x (by simp))]
  rfl
theorem uy (A B : List Rx) : flatR (A ++ B) = flatR A ++ flatR B := List.flatMap_append
theorem Lv (a : Rx) (B : List Rx) : flatR (a :: B) = flt a ++ flatR B := rfl
theorem Rv {ks : List Rx} (hk : ∀ x ∈ ks, x.kind ≠ 4) : flt (altEnd ks) = ks \/ (ks = [] /\ flt (altEnd ks) = [.mk 0 [] []]) := by
 match ks with
 |[] => exact .inr ⟨rfl, rfl⟩
 |[x] => left; show flt x = [x]; unfold flt; rw [if_neg (hk x (by simp))]
 |x :: y :: t => exact .inl rfl
theorem Md {A F B : List Rx} (h : ∀ x ∈ F, NF x /\ x.kind ≠ 4) : sH (A ++ altOut F ++ B) (A ++ F ++ B) := by
 have hm : ∀ (X : List Rx) z, z ∈ A ++ X ++ B ↔ z ∈ A \/ z ∈ X \/ z ∈ B := fun X z => by simp [List.mem_append, or_assoc]
 refine ⟨fun z hz => ?_, fun s => ?_, fun hn => ?_⟩
 ·rw [hm, hm, mY];have : (z ∈ F /\ 2 < z.kind \/ dR F ≠ [] /\ z = .mk 2 (dR F) [] \/ nA F = true /\ z = .mk 1 [] []) ↔ z ∈ F := by
   constructor
   ·rintro (⟨h1, _⟩ | ⟨_, rfl⟩ | ⟨_, rfl⟩)
    ·exact h1
    ·simp [Rx.kind] at hz
    ·simp [Rx.kind] at hz
   ·exact fun h1 => .inl ⟨h1, hz⟩
  rw [this]
 ·constructor
  ·rintro ⟨x, hx, hs⟩
   rcases (hm _ x).1 hx with h1 | h1 | h1
   ·exact ⟨x, (hm _ x).2 (.inl h1), hs⟩
   ·rcases mY.1 h1 with ⟨h2, _⟩ | ⟨_, rfl⟩ | ⟨_, rfl⟩
    ·exact ⟨x, (hm _ x).2 (.inr (.inl h2)), hs⟩
    ·obtain ⟨_, y, hy, gG⟩ := qY.1 hs;exact ⟨y, (hm _ y).2 (.inr (.inl hy)), gG⟩
    ·cases hs
   ·exact ⟨x, (hm _ x).2 (.inr (.inr h1)), hs⟩
  ·rintro ⟨x, hx, hs⟩
   rcases (hm _ x).1 hx with h1 | h1 | h1
   ·exact ⟨x, (hm _ x).2 (.inl h1), hs⟩
   ·have h2 : s ∈ dR F := qY.2 ⟨(h x h1).1.sym_in s hs, x, h1, hs⟩;exact ⟨.mk 2 (dR F) [], (hm _ _).2 (.inr (.inl (mY.2 (.inr (.inl ⟨List.ne_nil_of_mem h2, rfl⟩))))), h2⟩
   ·exact ⟨x, (hm _ x).2 (.inr (.inr h1)), hs⟩
 ·have hF : ∀ x ∈ F, 2 < x.kind -> aO x = false := fun x hx hk => hn x ((hm _ x).2 (.inr (.inl (mY.2 (.inl ⟨hx, hk⟩))))) hk
  constructor
  ·rintro ⟨x, hx, hs⟩
   rcases (hm _ x).1 hx with h1 | h1 | h1
   ·exact ⟨x, (hm _ x).2 (.inl h1), hs⟩
   ·rcases mY.1 h1 with ⟨h2, h3⟩ | ⟨_, rfl⟩ | ⟨h2, rfl⟩
    ·omega
    ·simp [Rx.kind] at hs
    ·obtain ⟨⟨y, hy, iG⟩, _⟩ := ul.1 h2;exact ⟨y, (hm _ y).2 (.inr (.inl hy)), iG⟩
   ·exact ⟨x, (hm _ x).2 (.inr (.inr h1)), hs⟩
  ·rintro ⟨x, hx, hs⟩
   rcases (hm _ x).1 hx with h1 | h1 | h1
   ·exact ⟨x, (hm _ x).2 (.inl h1), hs⟩
   ·exact ⟨.mk 1 [] [], (hm _ _).2 (.inr (.inl (mY.2 (.inr (.inr ⟨ul.2 ⟨⟨x, h1, hs⟩, hF⟩, rfl⟩))))), rfl⟩
   ·exact ⟨x, (hm _ x).2 (.inr (.inr h1)), hs⟩
theorem sH.drop0 {A B : List Rx} : sH (A ++ [.mk 0 [] []] ++ B) (A ++ [] ++ B) := by
 have hm : ∀ z : Rx, z.kind ≠ 0 -> (z ∈ A ++ [.mk 0 [] []] ++ B ↔ z ∈ A ++ [] ++ B) := fun z hz => by
  have : z ≠ .mk 0 [] [] := fun e => hz (by rw [e]; rfl)
  simp [List.mem_append, this]
 refine ⟨fun z hz => hm z (by omega), fun s => ⟨fun ⟨x, hx, hs⟩ => ?_, fun ⟨x, hx, hs⟩ => ?_⟩, fun _ => ⟨fun ⟨x, hx, hs⟩ => ⟨x, (hm x (by omega)).1 hx, hs⟩, fun ⟨x, hx, hs⟩ => ⟨x, (hm x (by omega)).2 hx, hs⟩⟩⟩
 ·by_cases e : x = .mk 0 [] []
  ·subst e; cases hs
  ·exact ⟨x, by simpa [e] using hx, hs⟩
 ·exact ⟨x, by simp at hx ⊢; rcases hx with h | h <;> simp [h], hs⟩
theorem Wp {A M B : List Rx} (h : ∀ x ∈ M, NF x) : altP (A ++ altP M :: B) = altP (A ++ M ++ B) := by
 unfold altP;rw [uy, Lv, uy, uy];have hF := NF.flatR h
 congr 1
 rw [<- List.append_assoc]
 rcases Rv (ks := altOut (flatR M)) fun x hx => ((NF.altK hF).kin x hx).2 with e | ⟨e1, e2⟩
 ·rw [e];exact (Md hF).alt
 ·rw [e2, sH.drop0.alt, <- e1];exact (Md hF).alt
theorem TE {x : Rx} (h : NF x) : altP [x] = x := by
 unfold altP
 by_cases h4 : x.kind = 4
 ·obtain ⟨e, h1, h2⟩ := h.k4 h4;have : flatR [x] = x.kids := by show flt x ++ [] = _; unfold flt; rw [if_pos h4, List.append_nil]
  rw [this, CF h.kids h2]
  match hk : x.kids, h1 with
  |a :: b :: t, _ => rw [e, hk]; rfl
 ·rw [Ca (by intro y hy; rw [show y = x by simpa using hy]; exact h4)]
  by_cases h0 : x.kind = 0
  ·rw [h.k0 h0]; rfl
  ·rw [CF (by intro y hy; rw [show y = x by simpa using hy]; exact h) ⟨by intro y hy; rw [show y = x by simpa using hy]; exact ⟨h0, h4⟩, List.pairwise_singleton _ _, by
    intro y hy z hz _ _;rw [show y = x by simpa using hy, show z = x by simpa using hz], by
    rintro ⟨y, hy, h1⟩ z hz h2;rw [show y = x by simpa using hy] at h1;rw [show z = x by simpa using hz] at h2;omega⟩]
   rfl
end Rgx
section
namespace Rgx
inductive kR (P : List Int -> Prop) : List Int -> Prop where
 |nil : kR P []
 |app {u v : List Int} : P u -> u ≠ [] -> kR P v -> kR P (u ++ v)
mutual
def ic : Rx -> List Int -> Prop
 |.mk k s ks, w => if k = 1 then w = [] else if k = 2 then ∃ x ∈ s, w = [x] else if k = 3 then nZ ks w else if k = 4 then oP ks w else if k = 5 then zn ks w else False
def nZ : List Rx -> List Int -> Prop
 |[], w => w = []
 |r :: rs, w => ∃ u v, w = u ++ v /\ ic r u /\ nZ rs v
def oP : List Rx -> List Int -> Prop
 |[], _ => False
 |r :: rs, w => ic r w \/ oP rs w
def zn : List Rx -> List Int -> Prop
 |[], w => w = []
 |r :: _, w => kR (ic r) w
end
theorem xS (r : Rx) (w : List Int) : ic r w ↔ if r.kind = 1 then w = [] else if r.kind = 2 then ∃ x ∈ r.syms, w = [x] else if r.kind = 3 then nZ r.kids w else if r.kind = 4 then oP r.kids w else if r.kind = 5 then zn r.kids w else False := by
 cases r with
 |mk k s ks => rw [ic]; rfl
theorem BX {r : Rx} (h : r.kind = 0) (w : List Int) : ¬ ic r w := by rw [xS, h]; simp
theorem Fz {r : Rx} (h : r.kind = 1) (w : List Int) : ic r w ↔ w = [] := by rw [xS, h]; simp
theorem Ij {r : Rx} (h : r.kind = 2) (w : List Int) : ic r w ↔ ∃ x ∈ r.syms, w = [x] := by rw [xS, h]; simp
theorem zG {r : Rx} (h : r.kind = 3) (w : List Int) : ic r w ↔ nZ r.kids w := by rw [xS, h]; simp
theorem zO {r : Rx} (h : r.kind = 4) (w : List Int) : ic r w ↔ oP r.kids w := by rw [xS, h]; simp
theorem Vn {r : Rx} (h : r.kind = 5) (w : List Int) : ic r w ↔ zn r.kids w := by rw [xS, h]; simp
theorem sJ : ∀ {ks : List Rx} {w : List Int}, oP ks w ↔ ∃ x ∈ ks, ic x w
 |[], w => by rw [oP]; simp
 |r :: rs, w => by rw [oP, sJ]; simp
theorem zN {w : List Int} : nZ [] w ↔ w = [] := by rw [nZ]
theorem xO {r : Rx} {rs : List Rx} {w : List Int} : nZ (r :: rs) w ↔ ∃ u v, w = u ++ v /\ ic r u /\ nZ rs v := by rw [nZ]
theorem MV {x : Rx} {w : List Int} : nZ [x] w ↔ ic x w := by
 rw [xO];constructor
 ·rintro ⟨u, v, rfl, hu, hv⟩;rw [zN.1 hv, List.append_nil]; exact hu
 ·exact fun h => ⟨w, [], by rw [List.append_nil], h, zN.2 rfl⟩
section
variable {P Q : List Int -> Prop}
theorem kR.cons {u v : List Int} (hu : P u) (hv : kR P v) : kR P (u ++ v) := by
 by_cases h : u = []
 ·subst h; exact hv
 ·exact .app hu h hv
theorem kR.mono (h : ∀ w, w ≠ [] -> P w -> Q w) {w : List Int} (hw : kR P w) : kR Q w := by
 induction hw with
 |nil => exact .nil
 |app h1 h2 _ ih => exact .app (h _ h2 h1) h2 ih
theorem kR.congr (h : ∀ w, w ≠ [] -> (P w ↔ Q w)) (w : List Int) : kR P w ↔ kR Q w := ⟨kR.mono fun w hw => (h w hw).1, kR.mono fun w hw => (h w hw).2⟩
theorem kR.step {s : Int} {w : List Int} : kR P (s :: w) ↔ ∃ u v, w = u ++ v /\ P (s :: u) /\ kR P v := by
 constructor
 ·intro h
  generalize e : s :: w = x at h
  cases h with
  |nil => cases e
  |@app u v h1 h2 h3 =>
   cases u with
   |nil => exact absurd rfl h2
   |cons a u =>
    rw [List.cons_append] at e
    injection e with e1 e2
    exact ⟨u, v, e2, e1 ▸ h1, h3⟩
 ·rintro ⟨u, v, rfl, h1, h2⟩;exact .app (u := s :: u) h1 (by simp) h2
end
theorem Rx.ind {P : Rx -> Prop} (h : ∀ r, (∀ x ∈ r.kids, P x) -> P r) (r : Rx) : P r := by
 have H : ∀ (z : Nat) (r : Rx), SizeOf.sizeOf r <= z -> P r := by
  intro z
  induction z with
  |zero => intro r hz; exact absurd hz (by cases r; rw [Rx.mk.sizeOf_spec]; omega)
  |succ z ih => intro r hz; exact h r fun x hx => ih x (by have := jZ hx; omega)
 exact H _ r (Nat.le_refl _)
theorem Re {ks : List Rx} : nZ ks [] ↔ ∀ x ∈ ks, ic x [] := by
 induction ks with
 |nil => simp [zN]
 |cons r rs ih =>
  rw [xO];constructor
  ·rintro ⟨u, v, e, hu, hv⟩ x hx;obtain ⟨rfl, rfl⟩ := List.append_eq_nil_iff.1 e.symm
   rcases List.mem_cons.1 hx with rfl | hx
   ·exact hu
   ·exact ih.1 hv x hx
  ·intro h;exact ⟨[], [], rfl, h r (by simp), ih.2 fun x hx => h x (by simp [hx])⟩
theorem Jt (r : Rx) : aO r = true ↔ ic r [] := by
 induction r using Rx.ind with
 |h r ih =>
  rw [CW]
  by_cases h3 : r.kind = 3
  ·rw [if_pos h3, zG h3, Re, List.all_eq_true];exact ⟨fun h x hx => (ih x hx).1 (h x hx), fun h x hx => (ih x hx).2 (h x hx)⟩
  ·rw [if_neg h3]
   by_cases h4 : r.kind = 4
   ·rw [if_pos h4, zO h4, sJ, List.any_eq_true];exact ⟨fun ⟨x, hx, h⟩ => ⟨x, hx, (ih x hx).1 h⟩, fun ⟨x, hx, h⟩ => ⟨x, hx, (ih x hx).2 h⟩⟩
   ·rw [if_neg h4, decide_eq_true_eq, xS, if_neg h3, if_neg h4]
    by_cases h1 : r.kind = 1
    ·simp [h1]
    ·rw [if_neg h1]
     by_cases h2 : r.kind = 2
     ·rw [if_pos h2]; simp [h2]
     ·rw [if_neg h2]
      by_cases h5 : r.kind = 5
      ·rw [if_pos h5];refine ⟨fun _ => ?_, fun _ => .inr h5⟩
       cases r.kids with
       |nil => rw [zn]
       |cons x xs => rw [zn]; exact .nil
      ·rw [if_neg h5]; simp [h1, h5]
theorem Cx {x : Rx} {s : List Int} (w : List Int) : ic (.mk 5 s [x]) w ↔ kR (ic x) w := by
 rw [Vn rfl, show (Rx.mk 5 s [x]).kids = [x] from rfl, zn]
theorem kw {r : Rx} (h : aC r = true) : r = .mk 0 [] [] \/ r = .mk 1 [] [] \/ (∃ s, r = .mk 2 s [] /\ fO s = true) \/ (∃ ks, r = .mk 3 [] ks /\ ∀ x ∈ ks, aC x = true) \/ (∃ ks, r = .mk 4 [] ks /\ ∀ x ∈ ks, aC x = true) \/ ∃ x, r = .mk 5 [] [x] /\ aC x = true := by
 cases r with
 |mk k s ks =>
  rw [aC, Ji] at h
  by_cases h1 : k < 0 \/ 5 < k
  ·rw [if_pos h1] at h; cases h
  ·rw [if_neg h1] at h
   by_cases h2 : k = 2
   ·rw [if_pos h2, Bool.and_eq_true, decide_eq_true_eq, List.length_eq_zero_iff] at h;obtain ⟨h3, rfl⟩ := h;subst h2;exact .inr (.inr (.inl ⟨s, rfl, h3⟩))
   ·rw [if_neg h2] at h
    by_cases h3 : 0 < s.length \/ (k <= 1 /\ 0 < ks.length) \/ (k = 5 /\ ks.length ≠ 1)
    ·rw [if_pos h3] at h; cases h
    ·rw [if_neg h3, List.all_eq_true] at h;obtain rfl : s = [] := List.eq_nil_of_length_eq_zero (by omega)
     rcases (by omega : k = 0 \/ k = 1 \/ k = 3 \/ k = 4 \/ k = 5) with e | e | e | e | e
     ·subst e; obtain rfl : ks = [] := List.eq_nil_of_length_eq_zero (by omega);exact .inl rfl
     ·subst e; obtain rfl : ks = [] := List.eq_nil_of_length_eq_zero (by omega);exact .inr (.inl rfl)
     ·subst e; exact .inr (.inr (.inr (.inl ⟨ks, rfl, h⟩)))
     ·subst e; exact .inr (.inr (.inr (.inr (.inl ⟨ks, rfl, h⟩))))
     ·subst e;obtain ⟨x, rfl⟩ := List.length_eq_one_iff.1 (by omega : ks.length = 1);exact .inr (.inr (.inr (.inr (.inr ⟨x, rfl, h x (by simp)⟩))))
theorem jL {r : Rx} (h : aC r = true) : ∀ x ∈ r.kids, aC x = true := by
 rcases kw h with rfl | rfl | ⟨s, rfl, _⟩ | ⟨ks, rfl, hv⟩ | ⟨ks, rfl, hv⟩ | ⟨x, rfl, hv⟩
 ·intro x hx; cases hx
 ·intro x hx; cases hx
 ·intro x hx; cases hx
 ·exact hv
 ·exact hv
 ·intro y hy; rw [show y = x by simpa [Rx.kids] using hy]; exact hv
theorem NF.val {x : Rx} (h : NF x) : aC x = true := by
 induction h with
 |none => rfl
 |empty => rfl
 |set h => rw [mF]; simp [Rx.kind, Rx.syms, Rx.kids, h]
 |seq _ _ _ ih => rw [mF]; simpa [Rx.kind, Rx.syms, Rx.kids] using ih
 |alt _ _ _ ih => rw [mF]; simpa [Rx.kind, Rx.syms, Rx.kids] using ih
 |star _ _ _ ih => rw [mF]; simpa [Rx.kind, Rx.syms, Rx.kids] using ih
theorem NF.starP {x : Rx} (h : NF x) : NF (starP x) := by
 unfold Rgx.starP
 by_cases y5 : x.kind = 0 \/ x.kind = 1
 ·rw [if_pos y5]; exact .empty
 ·rw [if_neg y5]
  by_cases h5 : x.kind = 5
  ·rw [if_pos h5]; exact h
  ·rw [if_neg h5]
   by_cases h4 : x.kind = 4
   ·rw [if_pos h4];obtain ⟨e, hl, hk⟩ := h.k4 h4;have hK : xy (x.kids.filter fun y => decide (y.kind ≠ 1)) := ⟨fun y hy => hk.kin y (List.mem_filter.1 hy).1, hk.srt.filter _, fun y hy z hz => hk.one y (List.mem_filter.1 hy).1 z (List.mem_filter.1 hz).1, fun ⟨y, hy, h1⟩ => by
     have := (List.mem_filter.1 hy).2;simp [h1] at this⟩
    have hN : ∀ y ∈ x.kids.filter (fun y => decide (y.kind ≠ 1)), NF y := fun y hy => h.kids y (List.mem_filter.1 hy).1
    have e1 : Rgx.altP (x.kids.filter fun y => decide (y.kind ≠ 1)) = Rgx.altEnd (x.kids.filter fun y => decide (y.kind ≠ 1)) := by
     unfold Rgx.altP;rw [Ca fun y hy => (hK.kin y hy).2, CF hN hK]
    rw [e1];have h1 : ∀ y ∈ x.kids.filter (fun y => decide (y.kind ≠ 1)), y.kind ≠ 1 := fun y hy => by simpa using (List.mem_filter.1 hy).2
    by_cases hE : ∃ y ∈ x.kids, y.kind = 1
    ·have ha := hk.emp hE;obtain ⟨G, hG⟩ : ∃ G, G = x.kids.filter (fun y => decide (y.kind ≠ 1)) := ⟨_, rfl⟩;rw [<- hG] at hK hN h1 ⊢;have Bn : ∀ y ∈ G, y ∈ x.kids := fun y hy => by rw [hG] at hy; exact (List.mem_filter.1 hy).1
     match G, hG, hK, hN, h1, Bn with
     |[], hF, _, _, _, _ =>
      exfalso
      have h2 : ∀ y ∈ x.kids, y = .mk 1 [] [] := fun y hy => by
       refine (h.kids y hy).k1 ?_
       apply Classical.byContradiction
       intro e;have : y ∈ x.kids.filter (fun y => decide (y.kind ≠ 1)) := List.mem_filter.2 ⟨hy, by simpa using e⟩;rw [<- hF] at this; cases this
      match hq : x.kids, hl with
      |a :: b :: t, _ =>
       have hs := hk.srt;rw [hq] at hs;have h3 := (List.pairwise_cons.1 hs).1 b (by simp);rw [h2 a (by rw [hq]; simp), h2 b (by rw [hq]; simp)] at h3;exact h3.irr
     |[y], _, hK, hN, h1, Bn =>
      have h2 := hK.kin y (by simp);refine .star (hN y (by simp)) ⟨h2.1, h1 y (by simp), fun e => ?_⟩ fun e => absurd e h2.2
      have e2 : y.kind = 5 := e;have := ha y (Bn y (by simp)) (by omega);rw [CW] at this;simp [e2] at this
     |a :: b :: t, _, hK, hN, h1, _ => exact .star (.alt (by simp) hN hK) (by simp [Rgx.altEnd, Rx.kind]) fun _ => h1
    ·have hF : x.kids.filter (fun y => decide (y.kind ≠ 1)) = x.kids := List.filter_eq_self.2 fun y hy => by
      have : y.kind ≠ 1 := fun e => hE ⟨y, hy, e⟩
      simpa using this
     rw [hF];rw [hF] at h1
     match hq : x.kids, hl with
     |a :: b :: t, _ =>
      rw [hq] at hk h1;have hN2 := h.kids;rw [hq] at hN2;exact .star (.alt (by simp) hN2 hk) (by simp [Rgx.altEnd, Rx.kind]) fun _ => h1
   ·rw [if_neg h4];exact .star h ⟨fun e => y5 (.inl e), fun e => y5 (.inr e), h5⟩ fun e => absurd e h4
theorem NF.normR {r : Rx} (t : Bool) (h : aC r = true) : NF (normR t r) := by
 induction r using Rx.ind with
 |h r ih =>
  have hk : ∀ y ∈ r.kids.map (Rgx.normR t), NF y := fun y hy => by
   obtain ⟨x, hx, rfl⟩ := List.mem_map.1 hy;exact ih x hx (jL h x hx)
  rw [lH]
  by_cases h3 : r.kind = 3
  ·rw [if_pos h3];refine NF.seqP fun y hy => hk y ?_
   cases t
   ·exact hy
   ·exact List.mem_reverse.1 hy
  ·rw [if_neg h3]
   by_cases h4 : r.kind = 4
   ·rw [if_pos h4]; exact NF.altP hk
   ·rw [if_neg h4]
    rcases kw h with rfl | rfl | ⟨s, rfl, hs⟩ | ⟨ks, rfl, _⟩ | ⟨ks, rfl, _⟩ | ⟨x, rfl, _⟩
    ·exact .none
    ·exact .empty
    ·exact .set hs
    ·exact absurd rfl h3
    ·exact absurd rfl h4
    ·rw [if_pos (show (Rx.mk 5 [] [x]).kind = 5 from rfl)];exact NF.starP (hk _ (by simp [Rx.kids]))
mutual
def gV (s : Int) : Rx -> Rx
 |.mk k ss ks => if k = 2 then (if ss.contains s then .mk 1 [] [] else .mk 0 [] []) else if k = 5 then .mk 3 [] [ug s ks, .mk k ss ks] else if k <= 1 then .mk 0 [] [] else .mk 4 [] (if k = 3 then kJ s ks else zz s ks)
def ug (s : Int) : List Rx -> Rx
 |[] => .mk 0 [] []
 |r :: _ => gV s r
def kJ (s : Int) : List Rx -> List Rx
 |[] => []
 |r :: rs => .mk 3 [] (gV s r :: rs) :: if aO r then kJ s rs else []
def zz (s : Int) : List Rx -> List Rx
 |[] => []
 |r :: rs => gV s r :: zz s rs
end
theorem uq (s : Int) (r : Rx) : gV s r = if r.kind = 2 then (if r.syms.contains s then .mk 1 [] [] else .mk 0 [] []) else if r.kind = 5 then .mk 3 [] [ug s r.kids, r] else if r.kind <= 1 then .mk 0 [] [] else .mk 4 [] (if r.kind = 3 then kJ s r.kids else zz s r.kids) := by
 cases r with
 |mk k ss ks => rw [gV]; rfl
theorem CJ (s : Int) : ∀ ks : List Rx, zz s ks = ks.map (gV s)
 |[] => by rw [zz]; rfl
 |r :: rs => by rw [zz, CJ s rs]; rfl
theorem IB {ks : List Rx} (h : ∀ x ∈ ks, aC x = true) : aC (.mk 3 [] ks) = true := by
 rw [mF]; simpa [Rx.kind, Rx.syms, Rx.kids] using h
theorem OL {ks : List Rx} (h : ∀ x ∈ ks, aC x = true) : aC (.mk 4 [] ks) = true := by
 rw [mF]; simpa [Rx.kind, Rx.syms, Rx.kids] using h
theorem OP {s : Int} : ∀ {ks : List Rx}, (∀ x ∈ ks, aC x = true) -> (∀ x ∈ ks, aC (gV s x) = true) -> ∀ x ∈ kJ s ks, aC x = true
 |[], _, _ => by rw [kJ]; intro x hx; cases hx
 |r :: rs, h, hd => by
  rw [kJ];intro x hx
  rcases List.mem_cons.1 hx with rfl | hx
  ·exact IB fun y hy => by
    rcases List.mem_cons.1 hy with rfl | hy
    ·exact hd r (by simp)
    ·exact h y (by simp [hy])
  ·split at hx
   ·exact OP (fun x hx => h x (by simp [hx])) (fun x hx => hd x (by simp [hx])) x hx
   ·cases hx
theorem Ic {r : Rx} (s : Int) (h : aC r = true) : aC (gV s r) = true := by
 induction r using Rx.ind with
 |h r ih =>
  have hd : ∀ x ∈ r.kids, aC (gV s x) = true := fun x hx => ih x hx (jL h x hx)
  have hk := jL h;rw [uq]
  rcases kw h with rfl | rfl | ⟨ss, rfl, hs⟩ | ⟨ks, rfl, _⟩ | ⟨ks, rfl, _⟩ | ⟨x, rfl, hx⟩
  ·rfl
  ·rfl
  ·rw [if_pos (show (Rx.mk 2 ss []).kind = 2 from rfl)]; split <;> rfl
  ·exact OL (OP hk hd)
  ·refine OL ?_;rw [if_neg (by simp [Rx.kind]), CJ];intro y hy;obtain ⟨x, hx, rfl⟩ := List.mem_map.1 hy;exact hd x hx
  ·refine IB fun y hy => ?_
   rcases List.mem_cons.1 hy with rfl | hy
   ·exact hd x (by simp [Rx.kids])
   ·rw [show y = .mk 5 [] [x] by simpa using hy]; exact h
theorem MQ {s : Int} : ∀ {ks : List Rx}, (∀ x ∈ ks, ∀ w, ic (gV s x) w ↔ ic x (s :: w)) -> ∀ w, oP (kJ s ks) w ↔ nZ ks (s :: w)
 |[], _, w => by rw [kJ, oP, zN]; simp
 |r :: rs, h, w => by
  have h1 := h r (by simp);have ih := MQ (s := s) (ks := rs) fun x hx => h x (by simp [hx])
  rw [kJ, oP, zG rfl, show (Rx.mk 3 [] (gV s r :: rs)).kids = gV s r :: rs from rfl, xO, xO];constructor
  ·rintro (⟨u, v, rfl, hu, hv⟩ | hl)
   ·exact ⟨s :: u, v, rfl, (h1 u).1 hu, hv⟩
   ·split at hl
    ·rename_i ha
     exact ⟨[], s :: w, rfl, (Jt r).1 ha, (ih w).1 hl⟩
    ·rw [oP] at hl; exact hl.elim
  ·rintro ⟨u, v, e, hu, hv⟩
   cases u with
   |nil =>
    right
    rw [if_pos ((Jt r).2 hu), ih w];rw [List.nil_append] at e;rw [e]; exact hv
   |cons a u =>
    rw [List.cons_append] at e
    injection e with e1 e2
    subst e1;exact .inl ⟨u, v, e2, (h1 u).2 hu, hv⟩
theorem Ta {r : Rx} (s : Int) (h : aC r = true) : ∀ w, ic (gV s r) w ↔ ic r (s :: w) := by
 induction r using Rx.ind with
 |h r ih =>
  have hd : ∀ x ∈ r.kids, ∀ w, ic (gV s x) w ↔ ic x (s :: w) := fun x hx => ih x hx (jL h x hx)
  intro w;rw [uq]
  rcases kw h with rfl | rfl | ⟨ss, rfl, hs⟩ | ⟨ks, rfl, _⟩ | ⟨ks, rfl, _⟩ | ⟨x, rfl, hx⟩
  ·exact ⟨fun h => absurd h (BX rfl _), fun h => absurd h (BX rfl _)⟩
  ·rw [Fz (r := .mk 1 [] []) rfl];exact ⟨fun h => absurd h (BX rfl _), fun h => by simp at h⟩
  ·rw [if_pos (show (Rx.mk 2 ss []).kind = 2 from rfl), Ij (r := .mk 2 ss []) rfl]
   by_cases hc : s ∈ ss
   ·rw [if_pos (by simpa [Rx.syms] using hc), Fz rfl];constructor
    ·rintro rfl; exact ⟨s, hc, rfl⟩
    ·rintro ⟨x, _, e⟩
     injection e
   ·rw [if_neg (by simpa [Rx.syms] using hc)];refine ⟨fun h => absurd h (BX rfl _), fun ⟨x, hx, e⟩ => ?_⟩
    injection e with e1 _
    subst e1;exact absurd hx hc
  ·rw [if_neg (show ¬ (Rx.mk 3 [] ks).kind = 2 by simp [Rx.kind]), if_neg (show ¬ (Rx.mk 3 [] ks).kind = 5 by simp [Rx.kind]), if_neg (show ¬ (Rx.mk 3 [] ks).kind <= 1 by simp [Rx.kind]), zO rfl, zG (r := .mk 3 [] ks) rfl];exact MQ hd w
  ·rw [if_neg (show ¬ (Rx.mk 4 [] ks).kind = 2 by simp [Rx.kind]), if_neg (show ¬ (Rx.mk 4 [] ks).kind = 5 by simp [Rx.kind]), if_neg (show ¬ (Rx.mk 4 [] ks).kind <= 1 by simp [Rx.kind]), zO rfl, zO (r := .mk 4 [] ks) rfl, if_neg (show ¬ (Rx.mk 4 [] ks).kind = 3 by simp [Rx.kind]), CJ, sJ, sJ];constructor
   ·rintro ⟨y, hy, hl⟩;obtain ⟨x, hx, rfl⟩ := List.mem_map.1 hy;exact ⟨x, hx, (hd x hx w).1 hl⟩
   ·rintro ⟨x, hx, hl⟩;exact ⟨_, List.mem_map.2 ⟨x, hx, rfl⟩, (hd x hx w).2 hl⟩
  ·rw [if_neg (show ¬ (Rx.mk 5 [] [x]).kind = 2 by simp [Rx.kind]), if_pos (show (Rx.mk 5 [] [x]).kind = 5 from rfl), zG rfl, Cx, kR.step, show (Rx.mk 3 [] [ug s (Rx.mk 5 [] [x]).kids, Rx.mk 5 [] [x]]).kids = [gV s x, Rx.mk 5 [] [x]] by rw [Rx.kids, Rx.kids, ug], xO];have h1 := hd x (by simp [Rx.kids]);constructor
   ·rintro ⟨u, v, rfl, hu, hv⟩;exact ⟨u, v, rfl, (h1 u).1 hu, (Cx v).1 (MV.1 hv)⟩
   ·rintro ⟨u, v, rfl, hu, hv⟩;exact ⟨u, v, rfl, (h1 u).2 hu, MV.2 ((Cx v).2 hv)⟩
end Rgx
end
end Go.Proofs.YtakcjlimbabbfaaGreatDoor
